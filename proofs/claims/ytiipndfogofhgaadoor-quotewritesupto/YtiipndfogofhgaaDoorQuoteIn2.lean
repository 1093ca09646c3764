/- (*quote.reader).inDouble, by its contract. -/
import Derived.Test.YtiipndfogofhgaaDoorQuoteIn
namespace Go.Proofs.YtiipndfogofhgaaDoor.Quo
open Utf Rws
open Go.RowKit
set_option linter.unusedSimpArgs false
set_option linter.unusedVariables false
set_option maxRecDepth 100000
variable {B b : Nat} {l out : List UInt8} {p : Nat} {w w1 w2 : World}

theorem Cel.other {W : World} (h : Cel B b w W) (hB : B ≤ w.heap.size) {k : Nat} (hk : w.heap.size < k) (x y : Value) : Cel B b w ((W.setCell ⟨k, 0, none⟩ x).setCell ⟨k, 1, none⟩ y) := by
  refine ⟨h.fr.fault2 (by omega) (by omega) x y, ?_, ?_⟩
  · have := h.sz; simpa [World.setCell] using this
  · rw [Below.heap_setCell _ _ _ _ (fun e => by simp only at e; omega), Below.heap_setCell _ _ _ _ (fun e => by simp only at e; omega)]
    exact h.cl
/-- a cell of its own, behind a call with the reader -/
theorem keep_cell {W W2 : World} {X : Nat} {cs : Array Value} (hf : Fr B b W W2) (hX : W.heap[X]? = some (.cells cs 24 (0, 0))) (hne : X ≠ b) : W2.heap[X]? = some (.cells cs 24 (0, 0)) :=
  hf.2 _ _ hX (by simpa using hne) (fun c fz e => by cases e)

theorem escR_two (m : List UInt8) : (escR m).2.2 = 0 ∨ (escR m).2.2 = 3 ∨ (escR m).2.2 = 4 := by
  by_cases h : m.length < 2
  · unfold escR; rw [if_pos h]; exact .inr (.inr rfl)
  cases hm : mnt (m.getD 1 0) with
  | some n => rw [mnt_esc (n := n) (by omega) hm]; exact .inl rfl
  | none =>
    rw [dgs_esc (by omega) hm]
    split
    · exact .inr (.inl rfl)
    · unfold escH
      split
      · split
        · exact .inl rfl
        · exact .inr (.inl rfl)
      · exact hexR_two _ _ _

set_option maxHeartbeats 4000000 in
theorem inDouble_any (w : World) (p0 : Nat) (out0 : List UInt8) (h : Rd B b l p0 out0 w) (hp0 : p0 ≤ l.length) (ho0 : out0.length ≤ p0) (hl : l.length ≤ 140737488351232) (hBw : B ≤ w.heap.size) (hT : Tabs w) (hB2 : 2 ≤ B) :
    Calls Tryd.prog 40 #[.pointer (some ⟨b, 0, none⟩)] w fun e w' => InRes B b l w (rdA 34 (l.drop p0) p0 out0) e w' := by
  have hlt := h.lt
  have hB := h.base
  have hsz := mk_size l
  obtain ⟨R, HR0⟩ : ∃ R, Hid (R = rdA 34 (l.drop p0) p0 out0) := ⟨_, rfl⟩
  rw [← HR0.out]
  have HT : Hid (∀ W, Cel B b w W → Tabs W) := fun W hC => hT.under hC.fr.1 hB2
  obtain ⟨W, hW⟩ : ∃ W, w.alloc (.cells #[.int .i64 0, .int .i64 0] 24) = W := ⟨_, rfl⟩
  have hbW : Below w.heap.size w W := by rw [← hW]; exact below_alloc _ _
  have HC0 : Hid (Cel B b w W) := by rw [← hW]; exact Cel.new B b w hBw
  have HRd : Hid (Rd B b l p0 out0 W) := h.later hbW
  clear hbW h hT
  go_enter Tryd.func40, Tryd.ntmps40
  go_wp2
  go_loopw [] (fun wr => ∃ (p : Nat) (out : List UInt8), p ≤ l.length ∧ out.length ≤ p ∧ Rd B b l p out wr ∧ Cel B b w wr ∧ R = rdA 34 (l.drop p) p out) (fun wr => l.length - plc b wr)
  case atStart => exact ⟨p0, out0, hp0, ho0, HRd.out, HC0.out, HR0.out⟩
  case round =>
    clear HRd HC0 HR0 hW hp0 ho0
    obtain ⟨p, out, hp, ho, hR, hC, hE⟩ := hrel
    have HR : Hid (Rd B b l p out wr) := hR
    have HC : Hid (Cel B b w wr) := hC
    have HE : Hid (R = rdA 34 (l.drop p) p out) := hE
    have c2 := hR.s
    have c3 := hR.at_
    have HP : Hid (plc b wr = p) := hR.plc
    clear hR hC hE
    by_cases hlt2 : p < l.length
    · go_wp2
      go_quiet (fail)
      obtain ⟨w1, hw1⟩ : ∃ w1, w1 = wr.drewN nq := ⟨_, rfl⟩
      have HRw1 : Hid (Rd B b l p out w1) := by rw [hw1]; exact HR.out.later (below_drewN (Below.refl _ _) nq)
      have HCw1 : Hid (Cel B b w w1) := by rw [hw1]; exact HC.out.below hBw hlt (below_drewN (Below.refl _ _) nq)
      rw [← hw1]
      clear hw1 HR HC c2 c3
      obtain ⟨w2, hw2⟩ : ∃ w2, w1.alloc (.cells #[.int .i64 0, .int .i64 0] 24) = w2 := ⟨_, rfl⟩
      have HRw2 : Hid (Rd B b l p out w2) := by rw [← hw2]; exact HRw1.out.later (below_alloc _ _)
      have HCw2 : Hid (Cel B b w w2) := by rw [← hw2]; exact HCw1.out.below hBw hlt (below_alloc _ _)
      have HXw2 : Hid (w2.heap[w1.heap.size]? = some (.cells #[.int .i64 0, .int .i64 0] 24 (0, 0))) := by rw [← hw2]; exact heap_alloc_new w1 _
      obtain ⟨X, HX⟩ : ∃ X, Hid (X = w1.heap.size) := ⟨_, rfl⟩
      have hXl : w.heap.size < X := by
        have h1 := (Array.getElem?_eq_some_iff.1 HCw1.out.cl).1
        rw [HX.out]; exact h1
      have c2 := HRw2.out.s
      have c3 := HRw2.out.at_
      clear HRw1 HCw1
      have hg : ∀ h, (mk l)[p]'h = l.getD p 0 := fun h => getD_mk l p h
      obtain ⟨c, hc⟩ : ∃ c, c = l.getD p 0 := ⟨_, rfl⟩
      have HCc : Hid (c = l.getD p 0) := hc
      rw [← hc] at hg
      clear hc
      have hne := drop_ne' hlt2
      have h0 : (l.drop p).getD 0 0 = c := by rw [getD_drop0, Nat.add_zero, ← HCc.out]
      have hq34 := b34 c
      have hq92 := b92 c
      go_wp2
      go_quiet (fail)
      rw [← HX.out]
      rw [← HX.out] at HXw2
      obtain ⟨w3, hw3⟩ : ∃ w3, w3 = w2.drewN nq := ⟨_, rfl⟩
      have HR3 : Hid (Rd B b l p out w3) := by rw [hw3]; exact HRw2.out.later (below_drewN (Below.refl _ _) nq)
      have HC3 : Hid (Cel B b w w3) := by rw [hw3]; exact HCw2.out.below hBw hlt (below_drewN (Below.refl _ _) nq)
      have HX3 : Hid (w3.heap[X]? = some (.cells #[.int .i64 0, .int .i64 0] 24 (0, 0))) := by rw [hw3]; exact HXw2.out
      rw [← hw3]
      clear hw3 HRw2 HCw2 HXw2 c2 c3 hw2 HX
      have c3 := HR3.out.at_
      cases h34 : (c == 34)
      · rw [h34] at hq34
        cases h92 : (c == 92)
        · rw [h92] at hq92
          have hst := stp_other 34 (l.drop p) hne (by rw [h0]; simpa using h34) (by rintro ⟨_, q⟩; rw [h0] at q; rw [q] at h92; simp at h92)
          have hfk := fk_pos _ hne
          rw [List.length_drop] at hfk
          cases hm : may (fst (l.drop p)).1
          · rw [hm] at hst
            have hst' : stp 34 (l.drop p) = (8, [], 0) := by simpa using hst
            have HV : Hid (R = ([], 0, 8, p)) := by rw [HE.out, rdA_bad hne (by rw [hst']; decide) (by rw [hst']; decide) (by rw [hst']; decide), hst']; exact rfl
            have HSG : Hid (Calls Tryd.prog 54 #[.pointer (some ⟨b, 0, none⟩)] w3 fun e w' => e = .returned (.agg #[.int .i64 8, .int .i64 (p : Int)]) ∧ Cel B b w w' ∧ w'.heap[X]? = some (.cells #[.int .i64 0, .int .i64 0] 24 (0, 0))) := (sign_no w3 HR3.out hlt2 hl (by omega) (by have := HC3.out.sz; omega) hm).mono (fun _ _ q => ⟨q.1, HC3.out.step hlt q.2, keep_cell q.2 HX3.out (by omega)⟩)
            clear hst hst' hm hne HR3 HC3 HX3 HE hfk c3 h0
            go_wp2_with fail
            refine HSG.out.mono ?_
            rintro e w4 ⟨rfl, hC4, hX4⟩
            have g0 : w4.cell? ⟨X, 0, none⟩ = some (.int .i64 0) := by rw [Lib.cell_of_heap hX4]; rfl
            have g1 : w4.cell? ⟨X, 1, none⟩ = some (.int .i64 0) := by rw [Lib.cell_of_heap hX4]; rfl
            have g2 : w4.frozen? ⟨X, 0, none⟩ = false := Lib.frozen_of_heap hX4 0
            have g3 : w4.frozen? ⟨X, 1, none⟩ = false := Lib.frozen_of_heap hX4 1
            obtain ⟨w5, hw5⟩ : ∃ w5, (w4.setCell ⟨X, 0, none⟩ (.int .i64 8)).setCell ⟨X, 1, none⟩ (.int .i64 (p : Int)) = w5 := ⟨_, rfl⟩
            have HC5 : Hid (Cel B b w w5) := by rw [← hw5]; exact hC4.other hBw hXl _ _
            have hX5 : w5.heap[X]? = some (.cells #[.int .i64 8, .int .i64 (p : Int)] 24 (0, 0)) := by rw [← hw5]; simp [World.setCell, Array.getElem?_modify, hX4]
            have k0 : w5.cell? ⟨X, 0, none⟩ = some (.int .i64 8) := by rw [Lib.cell_of_heap hX5]; rfl
            have k1 : w5.cell? ⟨X, 1, none⟩ = some (.int .i64 (p : Int)) := by rw [Lib.cell_of_heap hX5]; rfl
            obtain ⟨d0, d1, d2, d3⟩ := HC5.out.facts
            clear hC4 hX4 hX5
            go_wp2
            refine bodyPost_ret (v := .agg #[.int .i64 8, .int .i64 (p : Int)]) (by simp [results, Tryd.results40, go_sem, d0, d1]) rfl ?_
            rw [HV.out]
            exact ⟨HC5.out.fin hBw _ _, rfl, fun h => by simp at h⟩
          · rw [hm] at hst
            have hst' : stp 34 (l.drop p) = (1, (l.drop p).take (fk (l.drop p)), fk (l.drop p)) := by simpa using hst
            have hV : R = rdA 34 (l.drop (p + fk (l.drop p))) (p + fk (l.drop p)) (out ++ (l.drop p).take (fk (l.drop p))) := by rw [HE.out, rdA_step (by rw [hst']), hst', List.drop_drop]
            have hSG := sign_yes w3 HR3.out hlt2 hl (by omega) (by have := HC3.out.sz; omega) hm
            have htl : ((l.drop p).take (fk (l.drop p))).length ≤ fk (l.drop p) := by rw [List.length_take]; omega
            generalize fk (l.drop p) = k at *
            generalize (l.drop p).take k = o at *
            have HV : Hid (R = rdA 34 (l.drop (p + k)) (p + k) (out ++ o)) := hV
            have HSG : Hid (Calls Tryd.prog 54 #[.pointer (some ⟨b, 0, none⟩)] w3 fun e w' => e = .returned (.agg #[.int .i64 0, .int .i64 0]) ∧ Rd B b l (p + k) (out ++ o) w' ∧ Cel B b w w' ∧ w'.heap[X]? = some (.cells #[.int .i64 0, .int .i64 0] 24 (0, 0))) := hSG.mono (fun _ _ q => ⟨q.1, q.2.1, HC3.out.step hlt q.2.2, keep_cell q.2.2 HX3.out (by omega)⟩)
            obtain ⟨f1, f2, f3, f4⟩ := hfk
            clear hst hst' hV hSG hm hne HR3 HC3 HX3 HE c3 h0 f4
            go_wp2_with fail
            refine HSG.out.mono ?_
            rintro e w4 ⟨rfl, hR4, hC4, hX4⟩
            have g0 : w4.cell? ⟨X, 0, none⟩ = some (.int .i64 0) := by rw [Lib.cell_of_heap hX4]; rfl
            have g1 : w4.cell? ⟨X, 1, none⟩ = some (.int .i64 0) := by rw [Lib.cell_of_heap hX4]; rfl
            have g2 : w4.frozen? ⟨X, 0, none⟩ = false := Lib.frozen_of_heap hX4 0
            have g3 : w4.frozen? ⟨X, 1, none⟩ = false := Lib.frozen_of_heap hX4 1
            obtain ⟨w5, hw5⟩ : ∃ w5, (w4.setCell ⟨X, 0, none⟩ (.int .i64 0)).setCell ⟨X, 1, none⟩ (.int .i64 0) = w5 := ⟨_, rfl⟩
            have HC5 : Hid (Cel B b w w5) := by rw [← hw5]; exact hC4.other hBw hXl _ _
            have HR5 : Hid (Rd B b l (p + k) (out ++ o) w5) := by rw [← hw5]; exact hR4.fault2 ⟨_, _, hX4⟩ (by omega) _ _
            have hX5 : w5.heap[X]? = some (.cells #[.int .i64 0, .int .i64 0] 24 (0, 0)) := by rw [← hw5]; simp [World.setCell, Array.getElem?_modify, hX4]
            have k0 : w5.cell? ⟨X, 0, none⟩ = some (.int .i64 0) := by rw [Lib.cell_of_heap hX5]; rfl
            clear hC4 hX4 hX5 hR4
            go_wp2
            go_roundw
            case rel => exact ⟨p + k, out ++ o, by omega, by rw [List.length_append]; omega, HR5.out, HC5.out, HV.out⟩
            case measure => rw [HP.out, HR5.out.plc]; omega
        · rw [h92] at hq92
          have hst := stp_escape (l.drop p) hne (by rw [h0]; simpa using h92)
          have hES := escaped_any w3 HR3.out hlt2 hl (by omega) (by have := HC3.out.sz; omega) (HT.out _ HC3.out) hB2
          have hER := escR_ok (l := l.drop p)
          rw [List.length_drop] at hER
          by_cases e0 : (escR (l.drop p)).2.2 = 0
          · rw [if_pos e0] at hst
            have hle := stp_le (q := 34) (l := l.drop p) (by rw [hst])
            have hV : R = rdA 34 (l.drop (p + (escR (l.drop p)).2.1)) (p + (escR (l.drop p)).2.1) (out ++ u8s (byt (escR (l.drop p)).1)) := by rw [HE.out, rdA_step (by rw [hst]), hst, List.drop_drop]
            rw [hst] at hle
            simp only at hle
            obtain ⟨_, r2, r3⟩ := hER e0
            have hSG : Calls Tryd.prog 56 #[.pointer (some ⟨b, 0, none⟩)] w3 fun e w' => e = .returned (.agg #[.int .i64 0, .int .i64 0]) ∧ Rd B b l (p + (escR (l.drop p)).2.1) (out ++ u8s (byt (escR (l.drop p)).1)) w' ∧ Fr B b w3 w' := hES.mono (fun _ _ q => ⟨(q.2.1 e0).1, (q.2.1 e0).2, q.1⟩)
            clear hES hER hst e0
            generalize u8s (byt (escR (l.drop p)).1) = o at *
            generalize (escR (l.drop p)).2.1 = k at *
            have HV : Hid (R = rdA 34 (l.drop (p + k)) (p + k) (out ++ o)) := hV
            have HSG : Hid (Calls Tryd.prog 56 #[.pointer (some ⟨b, 0, none⟩)] w3 fun e w' => e = .returned (.agg #[.int .i64 0, .int .i64 0]) ∧ Rd B b l (p + k) (out ++ o) w' ∧ Cel B b w w' ∧ w'.heap[X]? = some (.cells #[.int .i64 0, .int .i64 0] 24 (0, 0))) := hSG.mono (fun _ _ q => ⟨q.1, q.2.1, HC3.out.step hlt q.2.2, keep_cell q.2.2 HX3.out (by omega)⟩)
            clear hV hSG hne HR3 HC3 HX3 HE c3 h0
            go_wp2_with fail
            refine HSG.out.mono ?_
            rintro e w4 ⟨rfl, hR4, hC4, hX4⟩
            have g0 : w4.cell? ⟨X, 0, none⟩ = some (.int .i64 0) := by rw [Lib.cell_of_heap hX4]; rfl
            have g1 : w4.cell? ⟨X, 1, none⟩ = some (.int .i64 0) := by rw [Lib.cell_of_heap hX4]; rfl
            have g2 : w4.frozen? ⟨X, 0, none⟩ = false := Lib.frozen_of_heap hX4 0
            have g3 : w4.frozen? ⟨X, 1, none⟩ = false := Lib.frozen_of_heap hX4 1
            obtain ⟨w5, hw5⟩ : ∃ w5, (w4.setCell ⟨X, 0, none⟩ (.int .i64 0)).setCell ⟨X, 1, none⟩ (.int .i64 0) = w5 := ⟨_, rfl⟩
            have HC5 : Hid (Cel B b w w5) := by rw [← hw5]; exact hC4.other hBw hXl _ _
            have HR5 : Hid (Rd B b l (p + k) (out ++ o) w5) := by rw [← hw5]; exact hR4.fault2 ⟨_, _, hX4⟩ (by omega) _ _
            have hX5 : w5.heap[X]? = some (.cells #[.int .i64 0, .int .i64 0] 24 (0, 0)) := by rw [← hw5]; simp [World.setCell, Array.getElem?_modify, hX4]
            have k0 : w5.cell? ⟨X, 0, none⟩ = some (.int .i64 0) := by rw [Lib.cell_of_heap hX5]; rfl
            clear hC4 hX4 hX5 hR4
            go_wp2
            go_roundw
            case rel => exact ⟨p + k, out ++ o, by omega, by rw [List.length_append]; omega, HR5.out, HC5.out, HV.out⟩
            case measure => rw [HP.out, HR5.out.plc]; omega
          · rw [if_neg e0] at hst
            by_cases e4 : (escR (l.drop p)).2.2 = 4
            · have HV : Hid (R = ([], 0, 4, l.length)) := by
                rw [HE.out, rdA_four (by rw [hst]; exact e4), List.length_drop, show p + (l.length - p) = l.length by omega]; exact rfl
              have HSG : Hid (Calls Tryd.prog 56 #[.pointer (some ⟨b, 0, none⟩)] w3 fun e w' => e = .returned (.agg #[.int .i64 4, .int .i64 (l.length : Int)]) ∧ Cel B b w w' ∧ w'.heap[X]? = some (.cells #[.int .i64 0, .int .i64 0] 24 (0, 0))) := hES.mono (fun _ _ q => ⟨q.2.2.1 e4, HC3.out.step hlt q.1, keep_cell q.1 HX3.out (by omega)⟩)
              clear hst hES hER hne HR3 HC3 HX3 HE c3 h0 e0 e4
              go_wp2_with fail
              refine HSG.out.mono ?_
              rintro e w4 ⟨rfl, hC4, hX4⟩
              have g0 : w4.cell? ⟨X, 0, none⟩ = some (.int .i64 0) := by rw [Lib.cell_of_heap hX4]; rfl
              have g1 : w4.cell? ⟨X, 1, none⟩ = some (.int .i64 0) := by rw [Lib.cell_of_heap hX4]; rfl
              have g2 : w4.frozen? ⟨X, 0, none⟩ = false := Lib.frozen_of_heap hX4 0
              have g3 : w4.frozen? ⟨X, 1, none⟩ = false := Lib.frozen_of_heap hX4 1
              obtain ⟨w5, hw5⟩ : ∃ w5, (w4.setCell ⟨X, 0, none⟩ (.int .i64 4)).setCell ⟨X, 1, none⟩ (.int .i64 (l.length : Int)) = w5 := ⟨_, rfl⟩
              have HC5 : Hid (Cel B b w w5) := by rw [← hw5]; exact hC4.other hBw hXl _ _
              have hX5 : w5.heap[X]? = some (.cells #[.int .i64 4, .int .i64 (l.length : Int)] 24 (0, 0)) := by rw [← hw5]; simp [World.setCell, Array.getElem?_modify, hX4]
              have k0 : w5.cell? ⟨X, 0, none⟩ = some (.int .i64 4) := by rw [Lib.cell_of_heap hX5]; rfl
              have k1 : w5.cell? ⟨X, 1, none⟩ = some (.int .i64 (l.length : Int)) := by rw [Lib.cell_of_heap hX5]; rfl
              obtain ⟨d0, d1, d2, d3⟩ := HC5.out.facts
              clear hC4 hX4 hX5
              go_wp2
              refine bodyPost_ret (v := .agg #[.int .i64 4, .int .i64 (l.length : Int)]) (by simp [results, Tryd.results40, go_sem, d0, d1]) rfl ?_
              rw [HV.out]
              exact ⟨HC5.out.fin hBw _ _, rfl, fun h => by simp at h⟩
            · have e3 : (escR (l.drop p)).2.2 = 3 := by rcases escR_two (l.drop p) with h | h | h; exact absurd h e0; exact h; exact absurd h e4
              have HV : Hid (R = ([], 0, 3, p)) := by
                rw [HE.out, rdA_bad hne (by rw [hst]; exact e0) (by rw [hst, e3]; decide) (by rw [hst]; exact e4), hst, e3]; exact rfl
              have HSG : Hid (Calls Tryd.prog 56 #[.pointer (some ⟨b, 0, none⟩)] w3 fun e w' => e = .returned (.agg #[.int .i64 3, .int .i64 (p : Int)]) ∧ Cel B b w w' ∧ w'.heap[X]? = some (.cells #[.int .i64 0, .int .i64 0] 24 (0, 0))) := hES.mono (fun _ _ q => ⟨q.2.2.2 e3, HC3.out.step hlt q.1, keep_cell q.1 HX3.out (by omega)⟩)
              clear hst hES hER hne HR3 HC3 HX3 HE c3 h0 e0 e4 e3
              go_wp2_with fail
              refine HSG.out.mono ?_
              rintro e w4 ⟨rfl, hC4, hX4⟩
              have g0 : w4.cell? ⟨X, 0, none⟩ = some (.int .i64 0) := by rw [Lib.cell_of_heap hX4]; rfl
              have g1 : w4.cell? ⟨X, 1, none⟩ = some (.int .i64 0) := by rw [Lib.cell_of_heap hX4]; rfl
              have g2 : w4.frozen? ⟨X, 0, none⟩ = false := Lib.frozen_of_heap hX4 0
              have g3 : w4.frozen? ⟨X, 1, none⟩ = false := Lib.frozen_of_heap hX4 1
              obtain ⟨w5, hw5⟩ : ∃ w5, (w4.setCell ⟨X, 0, none⟩ (.int .i64 3)).setCell ⟨X, 1, none⟩ (.int .i64 (p : Int)) = w5 := ⟨_, rfl⟩
              have HC5 : Hid (Cel B b w w5) := by rw [← hw5]; exact hC4.other hBw hXl _ _
              have hX5 : w5.heap[X]? = some (.cells #[.int .i64 3, .int .i64 (p : Int)] 24 (0, 0)) := by rw [← hw5]; simp [World.setCell, Array.getElem?_modify, hX4]
              have k0 : w5.cell? ⟨X, 0, none⟩ = some (.int .i64 3) := by rw [Lib.cell_of_heap hX5]; rfl
              have k1 : w5.cell? ⟨X, 1, none⟩ = some (.int .i64 (p : Int)) := by rw [Lib.cell_of_heap hX5]; rfl
              obtain ⟨d0, d1, d2, d3⟩ := HC5.out.facts
              clear hC4 hX4 hX5
              go_wp2
              refine bodyPost_ret (v := .agg #[.int .i64 3, .int .i64 (p : Int)]) (by simp [results, Tryd.results40, go_sem, d0, d1]) rfl ?_
              rw [HV.out]
              exact ⟨HC5.out.fin hBw _ _, rfl, fun h => by simp at h⟩
      · rw [h34] at hq34
        have HV : Hid (R = (out, p + 1, 0, 0)) := by
          rw [HE.out, rdA_end (by rw [stp_quote 34 _ hne (by rw [h0]; simpa using h34) (by rintro ⟨q, _⟩; cases q)])]; exact rfl
        have z3 := HR3.out.fz 3
        obtain ⟨w4, hw4⟩ : ∃ w4, w3.setCell ⟨b, 3, none⟩ (.int .i64 ((p + 1 : Nat) : Int)) = w4 := ⟨_, rfl⟩
        have HR4 : Hid (Rd B b l (p + 1) out w4) := by rw [← hw4]; exact HR3.out.set _
        have HC4 : Hid (Cel B b w w4) := by rw [← hw4]; exact HC3.out.set hB hlt 3 _
        rw [show ((p + 1 : Nat) : Int) = (p : Int) + 1 by omega] at hw4
        obtain ⟨d0, d1, d2, d3⟩ := HC4.out.facts
        clear HR3 HC3 HX3 HE hne h0
        go_wp2
        refine bodyPost_ret (v := .agg #[.int .i64 0, .int .i64 0]) (by simp [results, Tryd.results40, go_sem, d0, d1]) rfl ?_
        rw [HV.out]
        exact ⟨HC4.out.fin hBw _ _, rfl, fun _ => HR4.out.fault2 HC4.out.sh (by omega) _ _⟩
    · have HV : Hid (R = ([], 0, 4, l.length)) := by
        rw [HE.out, List.drop_of_length_le (by omega), rdA_nil, show p = l.length by omega]; exact rfl
      go_wp2
      go_quiet (fail)
      obtain ⟨w1, hw1⟩ : ∃ w1, w1 = wr.drewN nq := ⟨_, rfl⟩
      have k2 : w1.cell? ⟨b, 2, none⟩ = some (.string (mk l)) := by rw [hw1]; exact (HR.out.later (below_drewN (Below.refl _ _) nq)).s
      have HC1 : Hid (Cel B b w w1) := by rw [hw1]; exact HC.out.below hBw hlt (below_drewN (Below.refl _ _) nq)
      rw [← hw1]
      clear hw1 HR HC c2 c3 HE
      go_wp2_with fail
      refine (end_any l _ k2).mono ?_
      rintro e w2 ⟨rfl, hb2⟩
      have HC2 : Hid (Cel B b w w2) := HC1.out.below hBw hlt hb2
      obtain ⟨d0, d1, d2, d3⟩ := HC2.out.facts
      clear hb2 HC1
      go_wp2
      refine bodyPost_ret (v := .agg #[.int .i64 4, .int .i64 (l.length : Int)]) (by simp [results, Tryd.results40, go_sem, d0, d1]) rfl ?_
      rw [HV.out]
      exact ⟨HC2.out.fin hBw _ _, rfl, fun h => by simp at h⟩
end Go.Proofs.YtiipndfogofhgaaDoor.Quo
