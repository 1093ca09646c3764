/- isMade, ready, On, Calls, spend, find. -/
import Derived.Test.YtedpiikdlpehjaaDiskMem
namespace Go.Proofs.Ytedpiikdlpehjaa.Dsk
open Go Go.RowKit Go.Maps
set_option linter.unusedSimpArgs false
set_option linter.unusedVariables false

/-- a disk that nobody made -/
def Un (w : World) (v : Value) : Prop := v = .pointer none ∨ ∃ d cs, v = .pointer (some ⟨d, 0, none⟩) ∧ Row w d 62 (.bool false :: cs)
theorem isMade_un (v : Value) (w : World) (h : Un w v) : Calls Try.prog 41 #[v] w fun e w' => e = .returned (.bool false) ∧ w = w' := by
  rcases h with rfl | ⟨d, cs, rfl, hr⟩
  · go_enter Try.func41, Try.ntmps41
    go_wp2
    go_ret
    exact ⟨rfl, rfl⟩
  · have hc0 : w.cell? ⟨d, 0, none⟩ = some (.bool false) := by rw [hr.cell]; rfl
    clear hr
    go_enter Try.func41, Try.ntmps41
    go_wp2
    go_ret
    exact ⟨rfl, rfl⟩
theorem isMade_at (d : Nat) (w : World) (hc0 : w.cell? ⟨d, 0, none⟩ = some (.bool true)) : Calls Try.prog 41 #[.pointer (some ⟨d, 0, none⟩)] w fun e w' => e = .returned (.bool true) ∧ w = w' := by
  go_enter Try.func41, Try.ntmps41
  go_wp2
  go_ret
  exact ⟨rfl, rfl⟩
theorem ready_un (v : Value) (w : World) (h : Un w v) : Calls Try.prog 36 #[v] w fun e w' => e = .returned (.int .i64 2) ∧ w = w' := by
  have h1 := isMade_un v w h
  clear h
  go_enter Try.func36, Try.ntmps36
  go_wp2_with (go_at_call 41; refine h1.mono ?_; rintro e w' ⟨rfl, rfl⟩)
  go_ret
  exact ⟨rfl, rfl⟩
theorem ready_on (d : Nat) (w : World) (hc0 : w.cell? ⟨d, 0, none⟩ = some (.bool true)) (hc1 : w.cell? ⟨d, 1, none⟩ = some (.bool true)) : Calls Try.prog 36 #[.pointer (some ⟨d, 0, none⟩)] w fun e w' => e = .returned (.int .i64 0) ∧ w = w' := by
  have h1 := isMade_at d w hc0
  clear hc0
  go_enter Try.func36, Try.ntmps36
  go_wp2_with (go_at_call 41; refine h1.mono ?_; rintro e w' ⟨rfl, rfl⟩)
  go_ret
  exact ⟨rfl, rfl⟩
theorem ready_off (d : Nat) (w : World) (hc0 : w.cell? ⟨d, 0, none⟩ = some (.bool true)) (hc1 : w.cell? ⟨d, 1, none⟩ = some (.bool false)) : Calls Try.prog 36 #[.pointer (some ⟨d, 0, none⟩)] w fun e w' => e = .returned (.int .i64 15) ∧ w = w' := by
  have h1 := isMade_at d w hc0
  clear hc0
  go_enter Try.func36, Try.ntmps36
  go_wp2_with (go_at_call 41; refine h1.mono ?_; rintro e w' ⟨rfl, rfl⟩)
  go_ret
  exact ⟨rfl, rfl⟩
section
variable {w : World} {F : Nat → Prop} {d : Nat} {m : M} {ad : List Nat} {dv : List Value} {nB kB : Nat} {sv : Value}
theorem DiskIn.c0 (h : DiskIn w F d m ad dv nB kB sv) : w.cell? ⟨d, 0, none⟩ = some (.bool true) := by rw [h.cell.cell]; rfl
theorem DiskIn.c1 (h : DiskIn w F d m ad dv nB kB sv) : w.cell? ⟨d, 1, none⟩ = some (.bool m.on) := by rw [h.cell.cell]; rfl
theorem DiskIn.c2 (h : DiskIn w F d m ad dv nB kB sv) : w.cell? ⟨d, 2, none⟩ = some (.int .i64 m.room) := by rw [h.cell.cell]; rfl
theorem DiskIn.c3 (h : DiskIn w F d m ad dv nB kB sv) : w.cell? ⟨d, 3, none⟩ = some (.int .i64 m.calls) := by rw [h.cell.cell]; rfl
theorem DiskIn.c4 (h : DiskIn w F d m ad dv nB kB sv) : w.cell? ⟨d, 4, none⟩ = some (.int .i64 m.fuse) := by rw [h.cell.cell]; rfl
theorem DiskIn.c5 (h : DiskIn w F d m ad dv nB kB sv) : w.cell? ⟨d, 5, none⟩ = some (.map (some nB)) := by rw [h.cell.cell]; rfl
theorem DiskIn.c6 (h : DiskIn w F d m ad dv nB kB sv) : w.cell? ⟨d, 6, none⟩ = some (.map (some kB)) := by rw [h.cell.cell]; rfl
theorem DiskIn.c7 (h : DiskIn w F d m ad dv nB kB sv) : w.cell? ⟨d, 7, none⟩ = some sv := by rw [h.cell.cell]; rfl
theorem DiskIn.ready_on (h : DiskIn w F d m ad dv nB kB sv) (ho : m.on = true) : Calls Try.prog 36 #[.pointer (some ⟨d, 0, none⟩)] w fun e w' => e = .returned (.int .i64 0) ∧ w = w' := Dsk.ready_on d w h.c0 (by rw [h.c1, ho])
theorem DiskIn.ready_off (h : DiskIn w F d m ad dv nB kB sv) (ho : m.on = false) : Calls Try.prog 36 #[.pointer (some ⟨d, 0, none⟩)] w fun e w' => e = .returned (.int .i64 15) ∧ w = w' := Dsk.ready_off d w h.c0 (by rw [h.c1, ho])
/-- a field of the disk is another one -/
theorem DiskIn.sets {m' : M} {sv' : Value} (h : DiskIn w F d m ad dv nB kB sv) (i : Nat) (v : Value) (hc : (dC m nB kB sv).set i v = dC m' nB kB sv') (e1 : m'.names = m.names) (e2 : m'.kept = m.kept) (e3 : m'.files = m.files)
    (hs : (w.setCell ⟨d, i, none⟩ v).ownsRow 0 86 3 sv' m'.since.length (m'.since.flatMap (chgC ad))) (hf : ∀ b, sv'.ownBlock = some b → F b) : DiskIn (w.setCell ⟨d, i, none⟩ v) F d m' ad dv nB kB sv' := by
  have ek : ∀ k, k ≠ d → (w.setCell ⟨d, i, none⟩ v).heap[k]? = w.heap[k]? := fun k hk => Below.heap_setCell _ _ _ _ hk
  have hnd : nB ≠ d := fun e => by
    obtain ⟨es, clock, hb, _⟩ := h.names
    have := h.cell
    unfold Row at this
    rw [← e, hb] at this
    cases this
  have hkd : kB ≠ d := fun e => by
    obtain ⟨es, clock, hb, _⟩ := h.kept
    have := h.cell
    unfold Row at this
    rw [← e, hb] at this
    cases this
  have hfile : ∀ j, m'.file j = m.file j := fun j => by unfold M.file; rw [e3]
  refine ⟨?_, ?_, ?_, h.nk, hs, by rw [e3]; exact h.len, by rw [e3]; exact h.dlen, by rw [e3]; exact h.apart, ?_, by rw [e3]; exact h.rows, h.fd, h.fn, h.fk, hf, by rw [e3]; exact h.ff, by rw [e3]; exact h.fr, fun k hk => ?_⟩
  · have := h.cell.set i v
    rwa [hc] at this
  · rw [e1]; exact h.names.at_ (ek _ hnd)
  · rw [e2]; exact h.kept.at_ (ek _ hkd)
  · rw [e3]
    intro j hj
    rw [hfile]
    refine (h.file j hj).at_ (ek _ fun e => ?_) (fun g hg => ek _ fun e => ?_)
    · have := (e ▸ (h.file j hj).cell).inj h.cell
      exact absurd this.1 (by decide)
    · obtain ⟨cur, hr⟩ := (h.file j hj).held.row hg
      have := (e ▸ hr).inj h.cell
      exact absurd this.1 (by decide)
  · have := h.lt k hk
    simpa [World.setCell] using this
theorem DiskIn.since_set (h : DiskIn w F d m ad dv nB kB sv) (i : Nat) (v : Value) : (w.setCell ⟨d, i, none⟩ v).ownsRow 0 86 3 sv m.since.length (m.since.flatMap (chgC ad)) := by
  refine ⟨h.since.1, ?_⟩
  rcases h.since.2 with q | ⟨g, cap, cur, rfl, h0, hb, r⟩
  · exact .inl q
  · refine .inr ⟨g, cap, cur, rfl, h0, ?_, r⟩
    rw [Below.heap_setCell _ _ _ _ (fun e => ?_)]
    · exact hb
    · have := h.cell
      unfold Row at this
      simp only at e
      rw [← e, hb] at this
      simp at this
/-- a number or a word of the disk is another one -/
theorem DiskIn.setm {m' : M} (h : DiskIn w F d m ad dv nB kB sv) (i : Nat) (v : Value) (hc : (dC m nB kB sv).set i v = dC m' nB kB sv) (e1 : m'.names = m.names) (e2 : m'.kept = m.kept) (e3 : m'.files = m.files) (e4 : m'.since = m.since) : DiskIn (w.setCell ⟨d, i, none⟩ v) F d m' ad dv nB kB sv :=
  h.sets i v hc e1 e2 e3 (by rw [e4]; exact h.since_set i v) h.fs
theorem on_un (v : Value) (w : World) (h : Un w v) : Calls Try.prog 11 #[v] w fun e w' => e = .returned (.bool false) ∧ w = w' := by
  have h1 := ready_un v w h
  clear h
  go_enter Try.func11, Try.ntmps11
  go_wp2_with (go_at_call 36; refine h1.mono ?_; rintro e w' ⟨rfl, rfl⟩)
  go_ret
  exact ⟨rfl, rfl⟩
theorem DiskIn.On (h : DiskIn w F d m ad dv nB kB sv) : Calls Try.prog 11 #[.pointer (some ⟨d, 0, none⟩)] w fun e w' => e = .returned (.bool m.on) ∧ w = w' := by
  cases ho : m.on with
  | true =>
    have h1 := h.ready_on ho
    clear h ho
    go_enter Try.func11, Try.ntmps11
    go_wp2_with (go_at_call 36; refine h1.mono ?_; rintro e w' ⟨rfl, rfl⟩)
    go_ret
    exact ⟨rfl, rfl⟩
  | false =>
    have h1 := h.ready_off ho
    clear h ho
    go_enter Try.func11, Try.ntmps11
    go_wp2_with (go_at_call 36; refine h1.mono ?_; rintro e w' ⟨rfl, rfl⟩)
    go_ret
    exact ⟨rfl, rfl⟩
theorem calls_un (v : Value) (w : World) (h : Un w v) : Calls Try.prog 17 #[v] w fun e w' => e = .returned (.int .i64 0) ∧ w = w' := by
  have h1 := isMade_un v w h
  clear h
  go_enter Try.func17, Try.ntmps17
  go_wp2_with (go_at_call 41; refine h1.mono ?_; rintro e w' ⟨rfl, rfl⟩)
  go_ret
  exact ⟨rfl, rfl⟩
theorem DiskIn.Calls (h : DiskIn w F d m ad dv nB kB sv) : Go.Calls Try.prog 17 #[.pointer (some ⟨d, 0, none⟩)] w fun e w' => e = .returned (.int .i64 m.calls) ∧ w = w' := by
  have h1 := isMade_at d w h.c0
  have hc3 := h.c3
  generalize m.calls = c at *
  clear h
  go_enter Try.func17, Try.ntmps17
  go_wp2_with (go_at_call 41; refine h1.mono ?_; rintro e w' ⟨rfl, rfl⟩)
  go_ret
  exact ⟨rfl, rfl⟩
theorem arm_un (v : Value) (n : Int) (w : World) (h : Un w v) : Calls Try.prog 23 #[v, .int .i64 n] w fun e w' => e = .returned (.tuple #[]) ∧ w = w' := by
  have h1 := isMade_un v w h
  clear h
  go_enter Try.func23, Try.ntmps23
  go_wp2_with (go_at_call 41; refine h1.mono ?_; rintro e w' ⟨rfl, rfl⟩)
  go_end0
  exact ⟨rfl, rfl⟩
theorem arm_set {n x : Int} (hx : x = max n (-1)) : (dC m nB kB sv).set 4 (.int .i64 x) = dC (m.arm n) nB kB sv := by subst hx; rfl
theorem DiskIn.Arm (h : DiskIn w F d m ad dv nB kB sv) (n : Int) : Go.Calls Try.prog 23 #[.pointer (some ⟨d, 0, none⟩), .int .i64 n] w fun e w' => e = .returned (.tuple #[]) ∧ DiskIn w' F d (m.arm n) ad dv nB kB sv ∧ Only F w w' := by
  have h1 := isMade_at d w h.c0
  have hc4 := h.c4
  have hf := h.cell.free 4
  have H : Hid (DiskIn w F d m ad dv nB kB sv) := h
  obtain ⟨x, HX⟩ : ∃ x, Hid (x = max n (-1)) := ⟨_, rfl⟩
  generalize m.fuse = fu at hc4
  clear h
  go_enter Try.func23, Try.ntmps23
  go_wp2_with (go_at_call 41; refine h1.mono ?_; rintro e w' ⟨rfl, rfl⟩)
  all_goals go_end0
  all_goals exact ⟨rfl, H.out.setm 4 _ (arm_set (by omega)) rfl rfl rfl rfl, (Only.refl F w).setCell (.inl H.out.fd) _⟩
/-- a call is done, or the power is off -/
theorem off_set : (dC m nB kB sv).set 1 (.bool false) = dC m.off nB kB sv := rfl
theorem calls_set (x : Int) (hx : x = (m.calls : Int) + 1) (hf : m.fuse ≤ 0) : (dC m nB kB sv).set 3 (.int .i64 x) = dC m.spent nB kB sv := by
  subst hx
  have e : m.spent.fuse = m.fuse := by simp [M.spent]; omega
  simp only [dC, List.set_cons_succ, List.set_cons_zero]
  rw [e]
  simp [M.spent]
def M.less (m : M) : M := { m with fuse := m.fuse - 1 }
theorem less_set (x : Int) (hx : x = m.fuse - 1) : (dC m nB kB sv).set 4 (.int .i64 x) = dC m.less nB kB sv := by subst hx; rfl
theorem less_spent (x : Int) (hx : x = (m.calls : Int) + 1) (hf : 0 < m.fuse) : (dC m.less nB kB sv).set 3 (.int .i64 x) = dC m.spent nB kB sv := by
  subst hx
  have e : m.spent.fuse = m.less.fuse := by simp [M.spent, M.less]; omega
  simp only [dC, List.set_cons_succ, List.set_cons_zero]
  rw [e]
  simp [M.spent, M.less]
theorem DiskIn.spend_off (h : DiskIn w F d m ad dv nB kB sv) (hf : m.fuse = 0) : Go.Calls Try.prog 47 #[.pointer (some ⟨d, 0, none⟩)] w fun e w' => e = .returned (.int .i64 15) ∧ DiskIn w' F d m.off ad dv nB kB sv ∧ Only F w w' := by
  have hc4 := h.c4
  rw [hf] at hc4
  have hc1 := h.c1
  generalize m.on = on at hc1
  have hfr := h.cell.free 1
  have H : Hid (DiskIn w F d m ad dv nB kB sv) := h
  clear h hf
  go_enter Try.func47, Try.ntmps47
  go_wp2
  go_ret
  exact ⟨rfl, H.out.setm 1 _ off_set rfl rfl rfl rfl, (Only.refl F w).setCell (.inl H.out.fd) _⟩
theorem DiskIn.spend_on (h : DiskIn w F d m ad dv nB kB sv) (hf : m.fuse ≠ 0) (hw : -1 ≤ m.fuse ∧ m.fuse ≤ 9223372036854775807) (hc : m.calls < 4611686018427387904) : Go.Calls Try.prog 47 #[.pointer (some ⟨d, 0, none⟩)] w fun e w' => e = .returned (.int .i64 0) ∧ DiskIn w' F d m.spent ad dv nB kB sv ∧ Only F w w' := by
  have hc4 := h.c4
  have hc3 := h.c3
  have hf3 := h.cell.free 3
  have hf4 := h.cell.free 4
  have H : Hid (DiskIn w F d m ad dv nB kB sv) := h
  obtain ⟨fu, HF⟩ : ∃ x, Hid (x = m.fuse) := ⟨_, rfl⟩
  obtain ⟨ca, HC⟩ : ∃ x, Hid (x = m.calls) := ⟨_, rfl⟩
  rw [← HF.out] at hc4 hf hw
  rw [← HC.out] at hc3 hc
  clear h
  have hf' : (fu == 0) = false := by rw [beq_eq_false_iff_ne]; exact hf
  by_cases hp : 0 < fu
  · have H2 : Hid (DiskIn (w.setCell ⟨d, 4, none⟩ (.int .i64 (fu - 1))) F d m.less ad dv nB kB sv) := H.out.setm 4 _ (less_set _ (by rw [HF.out])) rfl rfl rfl rfl
    have hc3' := H2.out.c3
    have hf3' := H2.out.cell.free 3
    rw [show m.less.calls = ca from HC.out.symm] at hc3'
    clear hf
    go_enter Try.func47, Try.ntmps47
    go_wp2
    go_ret
    exact ⟨rfl, H2.out.setm 3 _ (less_spent _ (by rw [HC.out]) (by rw [← HF.out]; exact hp)) rfl rfl rfl rfl, ((Only.refl F w).setCell (p := ⟨d, 4, none⟩) (.inl H.out.fd) _).setCell (.inl H.out.fd) _⟩
  · clear hf
    go_enter Try.func47, Try.ntmps47
    go_wp2
    go_ret
    exact ⟨rfl, H.out.setm 3 _ (calls_set _ (by rw [HC.out]) (by rw [← HF.out]; omega)) rfl rfl rfl rfl, (Only.refl F w).setCell (.inl H.out.fd) _⟩
theorem find_un (v s : Value) (w : World) (h : Un w v) : Calls Try.prog 42 #[v, s] w fun e w' => e = .returned (.tuple #[.pointer none, .int .i64 2]) ∧ w = w' := by
  have h1 := ready_un v w h
  clear h
  go_enter Try.func42, Try.ntmps42
  go_wp2_with (go_at_call 36; refine h1.mono ?_; rintro e w' ⟨rfl, rfl⟩)
  go_ret2
  exact ⟨rfl, rfl⟩
theorem DiskIn.find_off (h : DiskIn w F d m ad dv nB kB sv) (ho : m.on = false) (s : Value) : Go.Calls Try.prog 42 #[.pointer (some ⟨d, 0, none⟩), s] w fun e w' => e = .returned (.tuple #[.pointer none, .int .i64 15]) ∧ w = w' := by
  have h1 := h.ready_off ho
  clear h ho
  go_enter Try.func42, Try.ntmps42
  go_wp2_with (go_at_call 36; refine h1.mono ?_; rintro e w' ⟨rfl, rfl⟩)
  go_ret2
  exact ⟨rfl, rfl⟩
theorem DiskIn.find_none (h : DiskIn w F d m ad dv nB kB sv) (ho : m.on = true) (n : Nm) (hn : n.length ≤ maxLen) (hl : look m.names n = none) : Go.Calls Try.prog 42 #[.pointer (some ⟨d, 0, none⟩), .string (str n)] w fun e w' => e = .returned (.tuple #[.pointer none, .int .i64 6]) ∧ w = w' := by
  have h1 := h.ready_on ho
  have hc5 := h.c5
  have hlk := h.names.lookup hn
  rw [hl] at hlk
  simp only [pv] at hlk
  obtain ⟨S, HS⟩ : ∃ S, Hid (S = str n) := ⟨_, rfl⟩
  rw [← HS.out] at hlk ⊢
  clear h ho hl hn
  go_enter Try.func42, Try.ntmps42
  go_wp2_with (go_at_call 36; refine h1.mono ?_; rintro e w' ⟨rfl, rfl⟩)
  go_ret2
  exact ⟨rfl, rfl⟩
theorem DiskIn.find_some (h : DiskIn w F d m ad dv nB kB sv) (ho : m.on = true) (n : Nm) (hn : n.length ≤ maxLen) (i : Nat) (hl : look m.names n = some i) : Go.Calls Try.prog 42 #[.pointer (some ⟨d, 0, none⟩), .string (str n)] w fun e w' => e = .returned (.tuple #[.pointer (some ⟨ad.getD i 0, 0, none⟩), .int .i64 0]) ∧ w = w' := by
  have h1 := h.ready_on ho
  have hc5 := h.c5
  have hlk := h.names.lookup hn
  rw [hl] at hlk
  simp only [pv] at hlk
  obtain ⟨S, HS⟩ : ∃ S, Hid (S = str n) := ⟨_, rfl⟩
  rw [← HS.out] at hlk ⊢
  generalize ad.getD i 0 = b at *
  clear h ho hl hn
  go_enter Try.func42, Try.ntmps42
  go_wp2_with (go_at_call 36; refine h1.mono ?_; rintro e w' ⟨rfl, rfl⟩)
  go_ret2
  exact ⟨rfl, rfl⟩
end
end Go.Proofs.Ytedpiikdlpehjaa.Dsk
