/- The calls that are done: Append, Read. -/
import Derived.Test.YtedpiikdlpehjaaDiskRef0
namespace Go.Proofs.Ytedpiikdlpehjaa.Dsk
open Go Go.RowKit Go.Maps
set_option linter.unusedSimpArgs false
set_option linter.unusedVariables false

theorem clone_any (v : Value) (l : List UInt8) (w : World) (h : Held w v l) (hm : l.length ≤ 1099511627776) :
    Calls Try.prog 43 #[v] w fun e w' => ∃ v', e = .returned v' ∧ Held w' v' l ∧ (∀ b, v'.ownBlock = some b → w.heap.size ≤ b) ∧ Below w.heap.size w w' := by
  obtain ⟨a, cap, rfl, hb, h1, h2, h3, h4⟩ := h.bys
  cases a with
  | none =>
    obtain ⟨rfl, rfl⟩ := h3 rfl
    have hnil := Lib.run_eql_slice_nil (P := Try.prog) w 37 5 none 0 0 0 0 Try.underlying37
    clear h hb h1 h2 h3 h4 hm
    go_enter Try.func43, Try.ntmps43
    go_wp2
    go_ret
    exact ⟨_, rfl, .inl ⟨rfl, rfl⟩, (fun b hb => by cases hb), Below.refl _ _⟩
  | some p =>
    have hnil := Lib.run_eql_slice_nil (P := Try.prog) w 37 5 (some p) l.length cap 0 0 Try.underlying37
    have HBW : Hid (Below w.heap.size w (w.alloc (.cells #[] 5))) := (Below.refl _ w).alloc (Nat.le_refl _) _
    have HH : Hid (Held (w.alloc (.cells #[] 5)) (.slice (some ⟨w.heap.size, 0, none⟩) 0 0) []) := .inr ⟨w.heap.size, 0, [], rfl, Row.mk w [] _, Nat.le_refl _, Nat.le_refl _, Nat.zero_le _, rfl⟩
    have HS : Hid (Bys (w.alloc (.cells #[] 5)) (some p) l.length l) := hb.later HBW.out
    clear h hb h1 h2 h3 h4
    obtain ⟨len, HL⟩ : ∃ x, Hid (x = l.length) := ⟨_, rfl⟩
    rw [← HL.out] at HS hnil hm ⊢
    go_enter Try.func43, Try.ntmps43
    go_wp2_with (at_builtin; refine wpList_append_held _ rfl _ _ rfl _ [] rfl HH.out (some p) len cap l rfl HS.out (by simp; omega) ?_)
    intro v' w1 hH hg hloc
    have HB : Hid (Below w.heap.size w w1) := HBW.out.grown hg (by simp) (fun k hk => by simp [Value.ownBlock] at hk; omega)
    have HF : Hid (Held w1 v' l) := hH
    have HLOC : Hid (∀ b, v'.ownBlock = some b → w.heap.size ≤ b) := fun b hb => by
      rcases hloc b hb with q | q
      · simp [Value.ownBlock] at q; omega
      · omega
    clear hH hg hloc hnil
    go_wp2
    go_ret
    exact ⟨v', rfl, HF.out, HLOC.out, HB.out⟩
section
variable {w : World} {F : Nat → Prop} {d : Nat} {m : M} {ad : List Nat} {dv : List Value} {nB kB : Nat} {sv : Value}
theorem DiskIn.read_ok (h : DiskIn w F d m ad dv nB kB sv) (ho : m.on = true) (n : Nm) (hn : n.length ≤ maxLen) (i : Nat) (hl : look m.names n = some i) (hi : i < m.files.length) (hm : (m.file i).data.length ≤ 1099511627776) :
    Go.Calls Try.prog 18 #[.pointer (some ⟨d, 0, none⟩), .string (str n)] w fun e w' => ∃ v', e = .returned (.tuple #[v', .int .i64 0]) ∧ Held w' v' (m.file i).data ∧ (∀ b, v'.ownBlock = some b → w.heap.size ≤ b) ∧ Below w.heap.size w w' := by
  have h1 := h.find_some ho n hn i hl
  have h2 := clone_any _ _ w (h.file i hi).held hm
  obtain ⟨va, vc, hva⟩ := (h.file i hi).held.form
  have hcell := (h.file i hi).cell
  obtain ⟨fb, HFB⟩ : ∃ f, Hid (f = ad.getD i 0) := ⟨_, rfl⟩
  rw [← HFB.out] at h1 hcell
  rw [hva] at h2 hcell
  have hc0 : w.cell? ⟨fb, 0, none⟩ = some (.slice va (m.file i).data.length vc) := hcell.cell 0
  obtain ⟨S, HS⟩ : ∃ S, Hid (S = str n) := ⟨_, rfl⟩
  rw [← HS.out] at h1 ⊢
  obtain ⟨D, HD⟩ : ∃ D, Hid (D = (m.file i).data) := ⟨_, rfl⟩
  rw [← HD.out] at h2 hc0 ⊢
  clear h ho hn hl hi hm hva hcell
  go_enter Try.func18, Try.ntmps18
  go_wp2_with (first | (go_at_call 42; refine h1.mono ?_; rintro e w' ⟨rfl, rfl⟩) | (go_at_call 43; refine h2.mono ?_; rintro e w' ⟨v', rfl, hH, hloc, hB⟩))
  go_ret2
  exact ⟨v', rfl, hH, hloc, hB⟩
set_option maxHeartbeats 1000000 in
theorem DiskIn.append_full (h : DiskIn w F d m ad dv nB kB sv) (ho : m.on = true) (n : Nm) (hn : n.length ≤ maxLen) (i : Nat) (hl : look m.names n = some i) (hok : Ok m.names m.files.length) (hb : m.used ≤ 1099511627776) (hr : m.room ≤ 1048576) (a : Option Addr) (len cap : Nat) (hlen : len ≤ 140737488355328) (hf : m.room < m.used + len) :
    Go.Calls Try.prog 21 #[.pointer (some ⟨d, 0, none⟩), .string (str n), .slice a len cap] w fun e w' => e = .returned (.int .i64 14) ∧ Below w.heap.size w w' := by
  have h1 := h.find_some ho n hn i hl
  have hD : DiskIn w.drew F d m ad dv nB kB sv := h.at_ (Nat.le_refl _) (fun _ _ => rfl)
  have h2 := hD.tused hok hb
  have hc5 := h.c5
  have hc2 := h.c2
  have HDL : Hid (d < w.heap.size) := h.cell.lt
  obtain ⟨u, HU⟩ : ∃ u, Hid (u = m.used) := ⟨_, rfl⟩
  obtain ⟨r, HR⟩ : ∃ r, Hid (r = m.room) := ⟨_, rfl⟩
  rw [← HU.out] at h2 hb hf
  rw [← HR.out] at hc2 hf hr
  obtain ⟨S, HS⟩ : ∃ S, Hid (S = str n) := ⟨_, rfl⟩
  rw [← HS.out] at h1 ⊢
  generalize ad.getD i 0 = fb at *
  have hd : decide ((r : Int) < (u : Int) + (len : Int)) = true := decide_eq_true (by omega)
  have hwr : IntKind.i64.wrap ((u : Int) + (len : Int)) = (u : Int) + (len : Int) := by simp [IntKind.wrap, IntKind.bits, IntKind.signed]; omega
  clear h ho hn hl hok hD hf
  go_enter Try.func21, Try.ntmps21
  go_wp2_with (go_at_call 42; refine h1.mono ?_; rintro e w' ⟨rfl, rfl⟩)
  go_region_held3 (fun w' => w'.cell? ⟨d, 5, none⟩ = some (.map (some nB)) ∧ w'.cell? ⟨d, 2, none⟩ = some (.int .i64 r)) (go_keep) (first | (go_at_call 40; refine h2.mono ?_; rintro e w1 ⟨rfl, hB⟩; have k5 := (hB.cell (p := ⟨d, 5, none⟩) HDL.out).trans hc5; have k2 := (hB.cell (p := ⟨d, 2, none⟩) HDL.out).trans hc2))
  have HB : Hid (Below w.heap.size w w1) := ((Below.refl _ w).drew).trans hB
  clear hB k5 k2 h2 hc5 hc2
  go_wp2
  go_ret
  exact ⟨rfl, HB.out⟩
end
end Go.Proofs.Ytedpiikdlpehjaa.Dsk
