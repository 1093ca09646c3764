/- told, Used, Names. -/
import Derived.Test.YtedpiikdlpehjaaDiskKeys
namespace Go.Proofs.Ytedpiikdlpehjaa.Dsk
open Go Go.RowKit Go.Maps
set_option linter.unusedSimpArgs false
set_option linter.unusedVariables false

theorem used_un (v : Value) (w : World) (h : Un w v) : Calls Try.prog 15 #[v] w fun e w' => e = .returned (.int .i64 0) ∧ w = w' := by
  have h1 : ∀ x, Calls Try.prog 39 #[v, x] w fun e w' => e = .returned (.int .i64 0) ∧ w = w' := by
    intro x
    have h2 := on_un v w h
    clear h
    go_enter Try.func39, Try.ntmps39
    go_wp2_with (go_at_call 11; refine h2.mono ?_; rintro e w' ⟨rfl, rfl⟩)
    go_ret
    exact ⟨rfl, rfl⟩
  clear h
  go_enter Try.func15, Try.ntmps15
  go_wp2_with (go_at_call 39; refine (h1 _).mono ?_; rintro e w' ⟨rfl, rfl⟩)
  go_ret
  exact ⟨rfl, rfl⟩
theorem names_un (v : Value) (w : World) (h : Un w v) : Calls Try.prog 13 #[v] w fun e w' => e = .returned (.slice none 0 0) ∧ w = w' := by
  have h1 : ∀ x, Calls Try.prog 37 #[v, x] w fun e w' => e = .returned (.slice none 0 0) ∧ w = w' := by
    intro x
    have h2 := on_un v w h
    clear h
    go_enter Try.func37, Try.ntmps37
    go_wp2_with (go_at_call 11; refine h2.mono ?_; rintro e w' ⟨rfl, rfl⟩)
    go_ret
    exact ⟨rfl, rfl⟩
  clear h
  go_enter Try.func13, Try.ntmps13
  go_wp2_with (go_at_call 37; refine (h1 _).mono ?_; rintro e w' ⟨rfl, rfl⟩)
  go_ret
  exact ⟨rfl, rfl⟩
section
variable {w : World} {F : Nat → Prop} {d : Nat} {m : M} {ad : List Nat} {dv : List Value} {nB kB : Nat} {sv : Value}
theorem DiskIn.Used (h : DiskIn w F d m ad dv nB kB sv) (hok : Ok m.names m.files.length) (hb : m.used ≤ 1099511627776) : Go.Calls Try.prog 15 #[.pointer (some ⟨d, 0, none⟩)] w fun e w' => e = .returned (.int .i64 m.uses) ∧ Below w.heap.size w w' := by
  cases ho : m.on with
  | false =>
    have h1 : ∀ x, Go.Calls Try.prog 39 #[.pointer (some ⟨d, 0, none⟩), x] w fun e w' => e = .returned (.int .i64 0) ∧ w = w' := by
      intro x
      have h2 := h.On
      rw [ho] at h2
      clear h ho hb hok
      go_enter Try.func39, Try.ntmps39
      go_wp2_with (go_at_call 11; refine h2.mono ?_; rintro e w' ⟨rfl, rfl⟩)
      go_ret
      exact ⟨rfl, rfl⟩
    have e : m.uses = 0 := by simp [M.uses, ho]
    rw [e]
    clear h ho hb hok e
    go_enter Try.func15, Try.ntmps15
    go_wp2_with (go_at_call 39; refine (h1 _).mono ?_; rintro e w' ⟨rfl, rfl⟩)
    go_ret
    exact ⟨rfl, Below.refl _ _⟩
  | true =>
    have h3 := h.tused hok hb
    have hc5 := h.c5
    have h2 := h.On
    rw [ho] at h2
    have e : m.uses = m.used := by simp [M.uses, ho]
    rw [e]
    generalize m.used = u at *
    clear h ho hb hok e
    go_enter Try.func15, Try.ntmps15
    go_wp2_with (first | (go_at_call 39; go_enter Try.func39, Try.ntmps39) | (go_at_call 11; refine h2.mono ?_; rintro e w' ⟨rfl, rfl⟩) | (go_at_call 40; refine h3.mono ?_; rintro e w' ⟨rfl, hB⟩))
    go_ret
    exact ⟨rfl, hB⟩
theorem Texts.nil (w : World) (B : Nat) : Texts w B (.slice none 0 0) [] := ⟨rfl, .inl ⟨rfl, rfl⟩⟩
theorem DiskIn.Names (h : DiskIn w F d m ad dv nB kB sv) (hok : Ok m.names m.files.length) (hl : m.names.length ≤ 64) : Go.Calls Try.prog 13 #[.pointer (some ⟨d, 0, none⟩)] w fun e w' => ∃ v, e = .returned v ∧ Texts w' w.heap.size v m.list ∧ Below w.heap.size w w' := by
  cases ho : m.on with
  | false =>
    have h1 : ∀ x, Go.Calls Try.prog 37 #[.pointer (some ⟨d, 0, none⟩), x] w fun e w' => e = .returned (.slice none 0 0) ∧ w = w' := by
      intro x
      have h2 := h.On
      rw [ho] at h2
      clear h ho hl hok
      go_enter Try.func37, Try.ntmps37
      go_wp2_with (go_at_call 11; refine h2.mono ?_; rintro e w' ⟨rfl, rfl⟩)
      go_ret
      exact ⟨rfl, rfl⟩
    have HE : Hid (m.list = []) := by show _ = _; simp [M.list, ho]
    clear h ho hl hok
    go_enter Try.func13, Try.ntmps13
    go_wp2_with (go_at_call 37; refine (h1 _).mono ?_; rintro e w' ⟨rfl, rfl⟩)
    go_ret
    exact ⟨_, rfl, by rw [HE.out]; exact Texts.nil _ _, Below.refl _ _⟩
  | true =>
    have h3 := rising_any nB ad m.names w h.names hok.rise hl
    have hc5 := h.c5
    have h2 := h.On
    rw [ho] at h2
    have HE : Hid (m.list = m.names.map (·.1)) := by show _ = _; simp [M.list, ho]
    clear h ho hl hok
    go_enter Try.func13, Try.ntmps13
    go_wp2_with (first | (go_at_call 37; go_enter Try.func37, Try.ntmps37) | (go_at_call 11; refine h2.mono ?_; rintro e w' ⟨rfl, rfl⟩) | (go_at_call 38; refine h3.mono ?_; rintro e w' ⟨v, rfl, hT, hB⟩))
    go_ret
    exact ⟨v, rfl, by rw [HE.out]; exact hT, hB⟩
end
end Go.Proofs.Ytedpiikdlpehjaa.Dsk
