/- The document's disk: put. -/
import Derived.Test.YtedpiikdlpehjaaDiskRf5
namespace Go.Proofs.Ytedpiikdlpehjaa.Dsk
open Go Go.RowKit Go.Maps
set_option linter.unusedSimpArgs false
set_option linter.unusedVariables false

theorem SlC.none_ {w : World} {X : Nat → Prop} {sz n : Nat} {a : Option Addr} {cap k : Nat} {us : List Value} (h : SlC w X sz (.slice a n cap) k us) : a = none → n = 0 ∧ cap = 0 := by
  obtain ⟨a', c', q1, q2, q3, q4, q5, q6⟩ := h
  cases q1
  exact q5
theorem SlC.len {w : World} {X : Nat → Prop} {sz n : Nat} {v : Value} {us : List Value} (h : SlC w X sz v n us) : us.length = n * sz := by
  obtain ⟨a', c', q1, q2, q3, q4, q5, q6⟩ := h
  exact q4
set_option maxRecDepth 100000 in
set_option maxHeartbeats 2000000 in
theorem put_any {w : World} {X : Nat → Prop} {rb : Nat} {m : M} {nv kv av : Value} {us : List Value} {fa : Option Addr} {fn fc : Nat} (h : Row w rb 33 (rC m (.slice fa fn fc) nv kv av)) (hA : SlC w X 2 (.slice fa fn fc) fn us) (hone : ∀ u ∈ us, u.oneCell' = true) (hn : fn ≤ 1000000) (i : Nat) (hi : i < fn) (K W : ByteArray) (hstr : ∀ i x0 x1, us[i * 2]? = some x0 → us[i * 2 + 1]? = some x1 → ∃ s0 s1, x0 = .string s0 ∧ x1 = .string s1) :
    Calls Try.prog 55 #[.pointer (some ⟨rb, 0, none⟩), .int .i64 i, .agg #[.string K, .string W]] w fun e w' => e = .returned (.tuple #[]) ∧ ∃ fv, Row w' rb 33 (rC m fv nv kv av) ∧ w'.ownsRow w.heap.size 75 2 fv fn ((us.set (i * 2) (.string K)).set (i * 2 + 1) (.string W)) ∧ Only (· = rb) w w' := by
  obtain ⟨i0, hi0, hz0, hz1, hz2⟩ := info_parts infoFile
  obtain ⟨V, HV⟩ : ∃ V, Hid (V = w.alloc (.cells #[.string K, .string W] 75)) := ⟨_, rfl⟩
  have HBV : Hid (Below w.heap.size w V) := by rw [HV.out]; exact (Below.refl _ w).alloc (Nat.le_refl _) _
  have H : Hid (Row V rb 33 (rC m (.slice fa fn fc) nv kv av)) := h.at_ (HBV.out.block _ h.lt)
  have c1 : V.cell? ⟨rb, 1, none⟩ = some (.slice fa fn fc) := H.out.cell 1
  have HA : Hid (SlC V X 2 (.slice fa fn fc) fn us) := hA.later HBV.out
  obtain ⟨bx, HX⟩ : ∃ x, Hid (x = w.heap.size) := ⟨_, rfl⟩
  have HRX : Hid (Row V bx 75 [.string K, .string W]) := by rw [HV.out, HX.out]; exact Row.mk w [.string K, .string W] _
  have HSV : Hid (w.heap.size < V.heap.size) := by have q := HRX.out.lt; rw [HX.out] at q; exact q
  have HRL : Hid (rb < w.heap.size) := h.lt
  have hVe : w.alloc (.cells #[.string K, .string W] 75) = V := HV.out.symm
  have hnn := hA.none_
  have hus := hA.len
  clear h hA
  go_enter Try.func55, Try.ntmps55
  go_wp2_with (at_builtin; refine wpList_append_any rfl (.const (.slice none 0 0)) _ 29 rfl V.heap.size 75 i0 (.agg #[.string ⟨#[]⟩, .string ⟨#[]⟩]) 2 32 Try.underlying29 hi0 hz0 hz1 hz2 rfl (by decide) (.slice none 0 0) 0 [] rfl (World.ownsRow_nil _ _ _ _) fa fn fc us rfl hnn hus (HA.out.src (Below.refl _ _)) hone ?_ ?_ ?_ ?_)
  · unfold maxLen; omega
  · omega
  · exact Nat.le_refl _
  intro v3 w3 hown3 hgrow3
  have HB3 : Hid (Below V.heap.size V w3) := (Below.refl _ V).grown hgrow3 (Nat.le_refl _) (fun k hk => by cases hk)
  have HR3 : Hid (Row w3 rb 33 (rC m (.slice fa fn fc) nv kv av)) := H.out.at_ (HB3.out.block _ H.out.lt)
  have ho3 : w3.ownsRow V.heap.size 75 2 v3 fn us := by first | exact hown3 | simpa using hown3
  rcases ho3.2 with ⟨q, q0⟩ | ⟨g, cap, cur, hv3, hg0, hgr, hg1, hg2, hg3, hg4⟩
  · omega
  subst hv3
  have HG : Hid (Row w3 g 75 cur.toList) := by
    have q : Row w3 g 75 cur.toList := by unfold Row; simpa using hgr
    exact q
  have HTK : Hid (cur.toList.take (fn * 2) = us) := hg4
  have HCL : Hid (fn * 2 ≤ cur.toList.length) := by
    have q := congrArg List.length hg4
    rw [List.length_take, hus] at q
    unfold Hid
    omega
  have hlc := HCL.out
  obtain ⟨x0, hx0⟩ : ∃ x, us[i * 2]? = some x := ⟨_, List.getElem?_eq_getElem (by omega)⟩
  obtain ⟨x1, hx1⟩ : ∃ x, us[i * 2 + 1]? = some x := ⟨_, List.getElem?_eq_getElem (by omega)⟩
  have d0 : w3.cell? ⟨g, i * 2, none⟩ = some x0 := by
    rw [HG.out.cell, ← hx0, ← HTK.out, List.getElem?_take, if_pos (by omega)]
  have d1 : w3.cell? ⟨g, i * 2 + 1, none⟩ = some x1 := by
    rw [HG.out.cell, ← hx1, ← HTK.out, List.getElem?_take, if_pos (by omega)]
  have g0 := HG.out.free (i * 2)
  have HG1 : Hid (Row (w3.setCell ⟨g, i * 2, none⟩ (.string K)) g 75 (cur.toList.set (i * 2) (.string K))) := HG.out.set _ _
  have d1' : (w3.setCell ⟨g, i * 2, none⟩ (.string K)).cell? ⟨g, i * 2 + 1, none⟩ = some x1 := by
    rw [HG1.out.cell, List.getElem?_set_ne (by omega), ← hx1, ← HTK.out, List.getElem?_take, if_pos (by omega)]
  have g1' := HG1.out.free (i * 2 + 1)
  have g1 := HG.out.free (i * 2 + 1)
  have HS0 : Hid (∃ s0 s1, x0 = .string s0 ∧ x1 = .string s1) := hstr i x0 x1 hx0 hx1
  obtain ⟨s0, s1, rfl, rfl⟩ := HS0.out
  have HX3 : Hid (Row w3 bx 75 [.string K, .string W]) := HRX.out.at_ (HB3.out.block _ HRX.out.lt)
  have e0 : w3.cell? ⟨w.heap.size, 0, none⟩ = some (.string K) := by rw [← HX.out]; exact HX3.out.cell 0
  have e1 : w3.cell? ⟨w.heap.size, 1, none⟩ = some (.string W) := by rw [← HX.out]; exact HX3.out.cell 1
  obtain ⟨W5, HW5⟩ : ∃ x, Hid (x = (w3.setCell ⟨g, i * 2, none⟩ (.string K)).setCell ⟨g, i * 2 + 1, none⟩ (.string W)) := ⟨_, rfl⟩
  have HG5 : Hid (Row W5 g 75 ((cur.toList.set (i * 2) (.string K)).set (i * 2 + 1) (.string W))) := by rw [HW5.out]; exact HG1.out.set _ _
  have HNE : Hid (g ≠ rb) := fun q => by have := HRL.out; have := HSV.out; omega
  have HR5 : Hid (Row W5 rb 33 (rC m (.slice fa fn fc) nv kv av)) := by
    rw [HW5.out]
    exact (HR3.out.at_ (setCell_other w3 (fun q => HNE.out q.symm) _)).at_ (setCell_other _ (fun q => HNE.out q.symm) _)
  have HO5 : Hid (Below V.heap.size V W5) := by
    rw [HW5.out]
    exact (HB3.out.setCell (p := ⟨g, i * 2, none⟩) hg0 _).setCell (p := ⟨g, i * 2 + 1, none⟩) hg0 _
  have hWe : (w3.setCell ⟨g, i * 2, none⟩ (.string K)).setCell ⟨g, i * 2 + 1, none⟩ (.string W) = W5 := HW5.out.symm
  have k1 : W5.cell? ⟨rb, 1, none⟩ = some (.slice fa fn fc) := HR5.out.cell 1
  have l1 := HR5.out.free 1
  have HFW : Hid (W5.ownsRow V.heap.size 75 2 (.slice (some ⟨g, 0, none⟩) fn cap) fn ((us.set (i * 2) (.string K)).set (i * 2 + 1) (.string W))) := by
    refine ⟨by simp [hus], .inr ⟨g, cap, ((cur.toList.set (i * 2) (.string K)).set (i * 2 + 1) (.string W)).toArray, rfl, hg0, HG5.out, hg1, hg2, by simpa using hg3, ?_⟩⟩
    rw [List.take_set, List.take_set, HTK.out]
  clear hown3 hgrow3 ho3 hgr hg4 hVe hg3
  go_wp2
  go_end0
  refine ⟨rfl, _, HR5.out.set 1 _, ?_, ?_⟩
  · refine own_stays (own_weak HFW.out (Nat.le_of_lt HSV.out)) fun b hb => ?_
    have hlt := own_block' HFW.out b hb
    have hne : b ≠ rb := fun q => by have := HRL.out; have := HSV.out; omega
    exact setCell_other W5 hne _
  · exact Only.setCell (F := (· = rb)) (p := ⟨rb, 1, none⟩) (Only.of_below (HBV.out.trans (HO5.out.mono HBV.out.size))) (.inl rfl) _
end Go.Proofs.Ytedpiikdlpehjaa.Dsk
