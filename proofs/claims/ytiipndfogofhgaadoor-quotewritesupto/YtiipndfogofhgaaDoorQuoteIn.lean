/- (*quote.reader).escaped, whole; (*quote.reader).inSingle, by their contracts. -/
import Derived.Test.YtiipndfogofhgaaDoorQuoteEsc2
import Derived.Test.YtiipndfogofhgaaDoorQuotePlain5
namespace Go.Proofs.YtiipndfogofhgaaDoor.Quo
open Utf Rws
open Go.RowKit
set_option linter.unusedSimpArgs false
set_option linter.unusedVariables false
set_option maxRecDepth 100000
variable {B b : Nat} {l out : List UInt8} {p : Nat} {w w1 w2 : World}

theorem escaped_any (w : World) (h : Rd B b l p out w) (hp : p < l.length) (hl : l.length ≤ 140737488351232) (ho : out.length + 4 ≤ 140737488355328) (hBw : B ≤ w.heap.size) (hT : Tabs w) (hB2 : 2 ≤ B) :
    Calls Tryd.prog 56 #[.pointer (some ⟨b, 0, none⟩)] w fun e w' => EscRes B b l p out w (escR (l.drop p)) e w' := by
  obtain ⟨m, hm⟩ : ∃ m, m = l.drop (p + 1) := ⟨_, rfl⟩
  have hml : m.length = l.length - (p + 1) := by rw [hm, List.length_drop]
  have hdl : (l.drop p).length = l.length - p := List.length_drop
  by_cases h0 : m = []
  · have e : escR (l.drop p) = (0, 0, 4) := by unfold escR; rw [if_pos (by rw [hdl]; rw [h0] at hml; simp at hml; omega)]
    rw [e]
    exact esc_end w h hp hl ho hBw hT hB2 m hm h0
  have hm1 : 1 ≤ m.length := List.length_pos_iff.2 h0
  have hd1 : (l.drop p).getD 1 0 = m.getD 0 0 := by rw [hm, List.getD_eq_getElem?_getD, List.getD_eq_getElem?_getD, List.getElem?_drop, List.getElem?_drop]
  have hd2 : (l.drop p).drop 2 = m.drop 1 := by rw [hm, List.drop_drop, List.drop_drop]
  have hg : ∀ h, (mk m)[0]'h = m.getD 0 0 := fun h => getD_mk m 0 h
  have hm2 : m.length ≤ 140737488351232 := by omega
  cases hmn : mnt (m.getD 0 0) with
  | some n =>
    rw [mnt_esc (n := n) (by omega) (by rw [hd1]; exact hmn)]
    exact esc_short w h hp hl ho hBw hT hB2 m hm hm1 _ hg hm2 n hmn
  | none =>
    rw [dgs_esc (by omega) (by rw [hd1]; exact hmn), hd1]
    by_cases hk0 : dgs (m.getD 0 0) = 0
    · rw [if_pos hk0]
      exact esc_form w h hp hl ho hBw hT hB2 m hm hm1 _ hg hm2 hmn _ rfl hk0
    · rw [if_neg hk0]
      unfold escH
      rw [hd2]
      have hk8 := dgs_le (m.getD 0 0)
      rcases hexR_two (dgs (m.getD 0 0)) (m.drop 1) 0 with h2 | h2 | h2
      · rw [if_pos h2]
        have hx : hexR (dgs (m.getD 0 0)) (m.drop 1) 0 = ((hexR (dgs (m.getD 0 0)) (m.drop 1) 0).1, 0) := Prod.ext rfl h2
        by_cases hs : sgn (hexR (dgs (m.getD 0 0)) (m.drop 1) 0).1 = true
        · rw [if_pos hs]
          exact esc_num w h hp hl ho hBw hT hB2 m hm hm1 _ hg hm2 hmn _ rfl hk0 hk8 _ _ rfl hx hs (by have := hexR_len _ _ 0 h2; rw [List.length_drop] at this; omega)
        · rw [if_neg hs]
          exact esc_none w h hp hl ho hBw hT hB2 m hm hm1 _ hg hm2 hmn _ rfl hk0 hk8 _ _ rfl hx (by simpa [Hid] using hs)
      · have hx : hexR (dgs (m.getD 0 0)) (m.drop 1) 0 = ((hexR (dgs (m.getD 0 0)) (m.drop 1) 0).1, 3) := Prod.ext rfl h2
        rw [if_neg (by rw [h2]; decide), h2]
        exact esc_digit w h hp hl ho hBw hT hB2 m hm hm1 _ hg hm2 hmn _ rfl hk0 hk8 _ _ rfl hx
      · have hx : hexR (dgs (m.getD 0 0)) (m.drop 1) 0 = ((hexR (dgs (m.getD 0 0)) (m.drop 1) 0).1, 4) := Prod.ext rfl h2
        rw [if_neg (by rw [h2]; decide), h2]
        exact esc_less w h hp hl ho hBw hT hB2 m hm hm1 _ hg hm2 hmn _ rfl hk0 hk8 _ _ rfl hx

/-- what reading behind the first quote leaves -/
def InRes (B b : Nat) (l : List UInt8) (w : World) (r : List UInt8 × Nat × Nat × Nat) (e : Ending) (w' : World) : Prop :=
  Fr B b w w' ∧ e = .returned (.agg #[.int .i64 (r.2.2.1 : Int), .int .i64 (r.2.2.2 : Int)]) ∧ (r.2.2.1 = 0 → Rd B b l r.2.1 r.1 w')
/-- the place, as the memory has it -/
def plc (b : Nat) (w : World) : Nat := (intOf ((w.cell? ⟨b, 3, none⟩).getD (.int .i64 0))).toNat
theorem Rd.plc (h : Rd B b l p out w) : plc b w = p := by unfold Quo.plc; rw [h.at_]; simp [intOf]
theorem b39 (c : UInt8) : ((c.toNat : Int) == 39) = (c == 39) := by
  rw [Bool.eq_iff_iff, beq_iff_eq, beq_iff_eq, ← UInt8.toNat_inj]
  have e : (39 : UInt8).toNat = 39 := rfl
  rw [e]; omega
theorem n39 (c : UInt8) : ((c.toNat : Int) != 39) = !(c == 39) := by rw [bne, b39]
theorem b34 (c : UInt8) : ((c.toNat : Int) == 34) = (c == 34) := by
  rw [Bool.eq_iff_iff, beq_iff_eq, beq_iff_eq, ← UInt8.toNat_inj]
  have e : (34 : UInt8).toNat = 34 := rfl
  rw [e]; omega
theorem b92 (c : UInt8) : ((c.toNat : Int) == 92) = (c == 92) := by
  rw [Bool.eq_iff_iff, beq_iff_eq, beq_iff_eq, ← UInt8.toNat_inj]
  have e : (92 : UInt8).toNat = 92 := rfl
  rw [e]; omega
theorem drop_ne' {l : List UInt8} {p : Nat} (h : p < l.length) : l.drop p ≠ [] := by
  intro e; have := congrArg List.length e; rw [List.length_drop] at this; simp at this; omega
theorem getD_drop0 (l : List UInt8) (p i : Nat) : (l.drop p).getD i 0 = l.getD (p + i) 0 := by
  rw [List.getD_eq_getElem?_getD, List.getD_eq_getElem?_getD, List.getElem?_drop]

/-- sign, as its results are used -/
theorem sign_yes (w : World) (h : Rd B b l p out w) (hp : p < l.length) (hl : l.length ≤ 140737488351232) (ho : out.length + 4 ≤ 140737488355328) (hBw : B ≤ w.heap.size) (hm : may (fst (l.drop p)).1 = true) :
    Calls Tryd.prog 54 #[.pointer (some ⟨b, 0, none⟩)] w fun e w' => e = .returned (.agg #[.int .i64 0, .int .i64 0]) ∧ Rd B b l (p + fk (l.drop p)) (out ++ (l.drop p).take (fk (l.drop p))) w' ∧ Fr B b w w' :=
  (sign_any w h hp hl ho hBw).mono fun _ _ q => q.1 hm
theorem sign_no (w : World) (h : Rd B b l p out w) (hp : p < l.length) (hl : l.length ≤ 140737488351232) (ho : out.length + 4 ≤ 140737488355328) (hBw : B ≤ w.heap.size) (hm : may (fst (l.drop p)).1 = false) :
    Calls Tryd.prog 54 #[.pointer (some ⟨b, 0, none⟩)] w fun e w' => e = .returned (.agg #[.int .i64 8, .int .i64 (p : Int)]) ∧ Fr B b w w' :=
  (sign_any w h hp hl ho hBw).mono fun _ _ q => q.2 hm

set_option maxHeartbeats 2000000 in
theorem inSingle_any (w : World) (p0 : Nat) (out0 : List UInt8) (h : Rd B b l p0 out0 w) (hp0 : p0 ≤ l.length) (ho0 : out0.length ≤ p0) (hl : l.length ≤ 140737488351232) (hBw : B ≤ w.heap.size) :
    Calls Tryd.prog 39 #[.pointer (some ⟨b, 0, none⟩)] w fun e w' => InRes B b l w (rdA 39 (l.drop p0) p0 out0) e w' := by
  have hlt := h.lt
  have hB := h.base
  have hsz := mk_size l
  obtain ⟨R, HR0⟩ : ∃ R, Hid (R = rdA 39 (l.drop p0) p0 out0) := ⟨_, rfl⟩
  rw [← HR0.out]
  obtain ⟨W, hW⟩ : ∃ W, w.alloc (.cells #[.int .i64 0, .int .i64 0] 24) = W := ⟨_, rfl⟩
  have hbW : Below w.heap.size w W := by rw [← hW]; exact below_alloc _ _
  have HC0 : Hid (Cel B b w W) := by rw [← hW]; exact Cel.new B b w hBw
  have HRd : Hid (Rd B b l p0 out0 W) := h.later hbW
  clear hbW h
  go_enter Tryd.func39, Tryd.ntmps39
  go_wp2
  go_loopw [] (fun wr => ∃ (p : Nat) (out : List UInt8), p ≤ l.length ∧ out.length ≤ p ∧ Rd B b l p out wr ∧ Cel B b w wr ∧ R = rdA 39 (l.drop p) p out) (fun wr => l.length - plc b wr)
  case atStart => exact ⟨p0, out0, hp0, ho0, HRd.out, HC0.out, HR0.out⟩
  case round =>
    clear HRd HC0 HR0 hW hp0 ho0
    obtain ⟨p, out, hp, ho, hR, hC, hE⟩ := hrel
    have HR : Hid (Rd B b l p out wr) := hR
    have HC : Hid (Cel B b w wr) := hC
    have HE : Hid (R = rdA 39 (l.drop p) p out) := hE
    have c2 := hR.s
    have c3 := hR.at_
    have HP : Hid (plc b wr = p) := hR.plc
    clear hR hC hE
    by_cases hlt2 : p < l.length
    · go_wp2
      go_quiet (fail)
      obtain ⟨w1, hw1⟩ : ∃ w1, w1 = wr.drewN nq := ⟨_, rfl⟩
      have HRw1 : Hid (Rd B b l p out w1) := by rw [hw1]; exact HR.out.later (below_drewN (Below.refl _ _) nq)
      have HCw1 : Hid (Cel B b w w1) := by rw [hw1]; exact HC.out.below hBw hlt (below_drewN (Below.refl _ _) nq)
      rw [← hw1]
      clear hw1 HR HC c2 c3
      have c2 := HRw1.out.s
      have c3 := HRw1.out.at_
      have hg : ∀ h, (mk l)[p]'h = l.getD p 0 := fun h => getD_mk l p h
      obtain ⟨c, hc⟩ : ∃ c, c = l.getD p 0 := ⟨_, rfl⟩
      have HCc : Hid (c = l.getD p 0) := hc
      rw [← hc] at hg
      clear hc
      have hq := b39 c
      cases h39 : (c == 39)
      · rw [h39] at hq
        have hne := drop_ne' hlt2
        have hst := stp_other 39 (l.drop p) hne (by rw [getD_drop0, Nat.add_zero, ← HCc.out]; simpa using h39) (by rintro ⟨q, _⟩; cases q)
        have hfk := fk_pos _ hne
        rw [List.length_drop] at hfk
        go_wp2
        go_quiet (fail)
        obtain ⟨w2, hw2⟩ : ∃ w2, w2 = w1.drewN nq := ⟨_, rfl⟩
        have HRw2 : Hid (Rd B b l p out w2) := by rw [hw2]; exact HRw1.out.later (below_drewN (Below.refl _ _) nq)
        have HCw2 : Hid (Cel B b w w2) := by rw [hw2]; exact HCw1.out.below hBw hlt (below_drewN (Below.refl _ _) nq)
        rw [← hw2]
        clear hw2 HRw1 HCw1 c2 c3
        have c2 := HRw2.out.s
        have c3 := HRw2.out.at_
        cases hm : may (fst (l.drop p)).1
        · rw [hm] at hst
          have hst' : stp 39 (l.drop p) = (8, [], 0) := by simpa using hst
          have HV : Hid (R = ([], 0, 8, p)) := by rw [HE.out, rdA_bad hne (by rw [hst']; decide) (by rw [hst']; decide) (by rw [hst']; decide), hst']; exact rfl
          have HSG : Hid (Calls Tryd.prog 54 #[.pointer (some ⟨b, 0, none⟩)] w2 fun e w' => e = .returned (.agg #[.int .i64 8, .int .i64 (p : Int)]) ∧ Cel B b w w') := (sign_no w2 HRw2.out hlt2 hl (by omega) (by have := HCw2.out.sz; omega) hm).mono (fun _ _ q => ⟨q.1, HCw2.out.step hlt q.2⟩)
          clear hst hst' hm hne HRw2 HCw2 HE hfk
          go_wp2_with fail
          refine HSG.out.mono ?_
          rintro e w3 ⟨rfl, hC3⟩
          obtain ⟨w4, hw4⟩ : ∃ w4, w3.alloc (.cells #[.int .i64 8, .int .i64 (p : Int)] 24) = w4 := ⟨_, rfl⟩
          have hs3 := hC3.sz
          have HC4 : Hid (Cel B b w w4) := by rw [← hw4]; exact hC3.below hBw hlt (below_alloc _ _)
          obtain ⟨d0, d1, d2, d3⟩ := HC4.out.facts
          have g0 : w4.cell? ⟨w3.heap.size, 0, none⟩ = some (.int .i64 8) := by rw [← hw4, cell_of_row _ w3.heap.size 0 _ _ (0, 0) (heap_alloc_new w3 _)]; rfl
          have g1 : w4.cell? ⟨w3.heap.size, 1, none⟩ = some (.int .i64 (p : Int)) := by rw [← hw4, cell_of_row _ w3.heap.size 1 _ _ (0, 0) (heap_alloc_new w3 _)]; rfl
          clear hC3
          go_wp2
          refine bodyPost_ret (v := .agg #[.int .i64 8, .int .i64 (p : Int)]) (by simp [results, Tryd.results39, go_sem, d0, d1]) rfl ?_
          rw [HV.out]
          exact ⟨HC4.out.fin hBw _ _, rfl, fun h => by simp at h⟩
        · rw [hm] at hst
          have hst' : stp 39 (l.drop p) = (1, (l.drop p).take (fk (l.drop p)), fk (l.drop p)) := by simpa using hst
          have hV : R = rdA 39 (l.drop (p + fk (l.drop p))) (p + fk (l.drop p)) (out ++ (l.drop p).take (fk (l.drop p))) := by rw [HE.out, rdA_step (by rw [hst']), hst', List.drop_drop]
          have hSG := sign_yes w2 HRw2.out hlt2 hl (by omega) (by have := HCw2.out.sz; omega) hm
          have htl : ((l.drop p).take (fk (l.drop p))).length ≤ fk (l.drop p) := by rw [List.length_take]; omega
          generalize fk (l.drop p) = k at *
          generalize (l.drop p).take k = o at *
          have HV : Hid (R = rdA 39 (l.drop (p + k)) (p + k) (out ++ o)) := hV
          have HSG : Hid (Calls Tryd.prog 54 #[.pointer (some ⟨b, 0, none⟩)] w2 fun e w' => e = .returned (.agg #[.int .i64 0, .int .i64 0]) ∧ Rd B b l (p + k) (out ++ o) w' ∧ Cel B b w w') := hSG.mono (fun _ _ q => ⟨q.1, q.2.1, HCw2.out.step hlt q.2.2⟩)
          clear hst hst' hV hSG hm hne HRw2 HCw2 HE
          obtain ⟨f1, f2, f3, f4⟩ := hfk
          clear f4
          go_wp2_with fail
          refine HSG.out.mono ?_
          rintro e w3 ⟨rfl, hR3, hC3⟩
          have HC4 : Hid (Cel B b w (w3.alloc (.cells #[.int .i64 0, .int .i64 0] 24))) := hC3.below hBw hlt (below_alloc _ _)
          have HR4 : Hid (Rd B b l (p + k) (out ++ o) (w3.alloc (.cells #[.int .i64 0, .int .i64 0] 24))) := hR3.later (below_alloc _ _)
          clear hC3 hR3
          go_wp2
          go_roundw
          case rel => exact ⟨p + k, out ++ o, by omega, by rw [List.length_append]; omega, HR4.out, HC4.out, HV.out⟩
          case measure => rw [HP.out, HR4.out.plc]; omega
      · rw [h39] at hq
        go_wp2
        go_quiet (fail)
        obtain ⟨w2, hw2⟩ : ∃ w2, w2 = w1.drewN nq := ⟨_, rfl⟩
        have HRw2 : Hid (Rd B b l p out w2) := by rw [hw2]; exact HRw1.out.later (below_drewN (Below.refl _ _) nq)
        have HCw2 : Hid (Cel B b w w2) := by rw [hw2]; exact HCw1.out.below hBw hlt (below_drewN (Below.refl _ _) nq)
        rw [← hw2]
        clear hw2 HRw1 HCw1 c2 c3
        have c2 := HRw2.out.s
        have c3 := HRw2.out.at_
        have z3 := HRw2.out.fz 3
        obtain ⟨w3, hw3⟩ : ∃ w3, w2.setCell ⟨b, 3, none⟩ (.int .i64 ((p + 1 : Nat) : Int)) = w3 := ⟨_, rfl⟩
        have HRw3 : Hid (Rd B b l (p + 1) out w3) := by rw [← hw3]; exact HRw2.out.set _
        have HCw3 : Hid (Cel B b w w3) := by rw [← hw3]; exact HCw2.out.set hB hlt 3 _
        rw [show ((p + 1 : Nat) : Int) = (p : Int) + 1 by omega] at hw3
        have k2 := HRw3.out.s
        have k3 := HRw3.out.at_
        rw [show ((p + 1 : Nat) : Int) = (p : Int) + 1 by omega] at k3
        clear HRw2 HCw2
        have hne := drop_ne' hlt2
        have h0 : (l.drop p).getD 0 0 = 39 := by rw [getD_drop0, Nat.add_zero, ← HCc.out]; simpa using h39
        by_cases hN : p + 1 = l.length
        · have hq2 : ((p : Int) + 1 == (l.length : Int)) = true := by simp; omega
          have HV : Hid (R = (out, p + 1, 0, 0)) := by
            rw [HE.out, rdA_end (by rw [stp_quote 39 _ hne h0 (by rintro ⟨_, q, _⟩; rw [List.length_drop] at q; omega)])]; exact rfl
          clear hN hne h0
          go_wp2
          go_quiet (fail)
          obtain ⟨w4, hw4⟩ : ∃ w4, w4 = w3.drewN nq := ⟨_, rfl⟩
          have HR4 : Hid (Rd B b l (p + 1) out w4) := by rw [hw4]; exact HRw3.out.later (below_drewN (Below.refl _ _) nq)
          have HC4 : Hid (Cel B b w w4) := by rw [hw4]; exact HCw3.out.below hBw hlt (below_drewN (Below.refl _ _) nq)
          rw [← hw4]
          obtain ⟨d0, d1, d2, d3⟩ := HC4.out.facts
          clear hw4 HRw3 HCw3 c2 c3 k2 k3 hw3 z3 HE
          go_wp2
          refine bodyPost_ret (v := .agg #[.int .i64 0, .int .i64 0]) (by simp [results, Tryd.results39, go_sem, d0, d1]) rfl ?_
          rw [HV.out]
          exact ⟨HC4.out.fin hBw _ _, rfl, fun _ => HR4.out.fault2 HC4.out.sh (by omega) _ _⟩
        · have hN' : p + 1 < l.length := by omega
          have hq2 : ((p : Int) + 1 == (l.length : Int)) = false := by simp; omega
          have hg2 : ∀ h, (mk l)[p + 1]'h = l.getD (p + 1) 0 := fun h => getD_mk l (p + 1) h
          have h1 : (l.drop p).getD 1 0 = l.getD (p + 1) 0 := getD_drop0 l p 1
          obtain ⟨d, hd⟩ : ∃ d, d = l.getD (p + 1) 0 := ⟨_, rfl⟩
          rw [← hd] at hg2 h1
          have hqd := n39 d
          cases h39d : (d == 39)
          · rw [h39d] at hqd
            have HV : Hid (R = (out, p + 1, 0, 0)) := by
              rw [HE.out, rdA_end (by rw [stp_quote 39 _ hne h0 (by rintro ⟨_, _, q⟩; rw [h1] at q; rw [q] at h39d; simp at h39d)])]; exact rfl
            clear hN hne h0 hd h1
            go_wp2
            go_quiet (fail)
            obtain ⟨w4, hw4⟩ : ∃ w4, w4 = w3.drewN nq := ⟨_, rfl⟩
            have HR4 : Hid (Rd B b l (p + 1) out w4) := by rw [hw4]; exact HRw3.out.later (below_drewN (Below.refl _ _) nq)
            have HC4 : Hid (Cel B b w w4) := by rw [hw4]; exact HCw3.out.below hBw hlt (below_drewN (Below.refl _ _) nq)
            rw [← hw4]
            obtain ⟨d0, d1, d2, d3⟩ := HC4.out.facts
            clear hw4 HRw3 HCw3 c2 c3 k2 k3 hw3 z3 HE
            go_wp2
            refine bodyPost_ret (v := .agg #[.int .i64 0, .int .i64 0]) (by simp [results, Tryd.results39, go_sem, d0, d1]) rfl ?_
            rw [HV.out]
            exact ⟨HC4.out.fin hBw _ _, rfl, fun _ => HR4.out.fault2 HC4.out.sh (by omega) _ _⟩
          · rw [h39d] at hqd
            have hd39 : d = 39 := by simpa using h39d
            have hst : stp 39 (l.drop p) = (1, [39], 2) := stp_twice _ hne h0 (by rw [List.length_drop]; omega) (by rw [h1]; exact hd39)
            have HV : Hid (R = rdA 39 (l.drop (p + 2)) (p + 2) (out ++ [39])) := by rw [HE.out, rdA_step (by rw [hst]), hst, List.drop_drop]; exact rfl
            obtain ⟨r, hr⟩ : ∃ r, l.drop (p + 1) = 39 :: r := ⟨_, by rw [drop_cons hN', ← hd, hd39]⟩
            obtain ⟨hf1, hf2⟩ := fst_39 r
            rw [← hr] at hf1 hf2
            have HSG : Hid (∀ W, Rd B b l (p + 1) out W → Cel B b w W → Calls Tryd.prog 54 #[.pointer (some ⟨b, 0, none⟩)] W fun e w' => e = .returned (.agg #[.int .i64 0, .int .i64 0]) ∧ Rd B b l (p + 2) (out ++ [39]) w' ∧ Cel B b w w') := fun W hRW hCW => by
              have q := sign_yes W hRW hN' hl (by omega) (by have := hCW.sz; omega) (by rw [hf1]; decide)
              rw [hf2, hr] at q
              exact q.mono (fun _ _ q => ⟨q.1, q.2.1, hCW.step hlt q.2.2⟩)
            clear hN hne h0 hd h1 hst hr hf1 hf2 HE hd39
            go_wp2
            go_quiet (fail)
            obtain ⟨w4, hw4⟩ : ∃ w4, w4 = w3.drewN nq := ⟨_, rfl⟩
            have HR4 : Hid (Rd B b l (p + 1) out w4) := by rw [hw4]; exact HRw3.out.later (below_drewN (Below.refl _ _) nq)
            have HC4 : Hid (Cel B b w w4) := by rw [hw4]; exact HCw3.out.below hBw hlt (below_drewN (Below.refl _ _) nq)
            rw [← hw4]
            clear hw4 HRw3 HCw3 c2 c3 k2 k3 hw3 z3
            go_wp2_with fail
            refine (HSG.out w4 HR4.out HC4.out).mono ?_
            rintro e w5 ⟨rfl, hR5, hC5⟩
            have HC6 : Hid (Cel B b w (w5.alloc (.cells #[.int .i64 0, .int .i64 0] 24))) := hC5.below hBw hlt (below_alloc _ _)
            have HR6 : Hid (Rd B b l (p + 2) (out ++ [39]) (w5.alloc (.cells #[.int .i64 0, .int .i64 0] 24))) := hR5.later (below_alloc _ _)
            clear hC5 hR5 HR4 HC4
            go_wp2
            go_roundw
            case rel => exact ⟨p + 2, out ++ [39], by omega, by rw [List.length_append]; simp; omega, HR6.out, HC6.out, HV.out⟩
            case measure => rw [HP.out, HR6.out.plc]; omega
    · have HV : Hid (R = ([], 0, 4, l.length)) := by
        rw [HE.out, List.drop_of_length_le (by omega), rdA_nil, show p = l.length by omega]; exact rfl
      go_wp2
      go_quiet (fail)
      obtain ⟨w1, hw1⟩ : ∃ w1, w1 = wr.drewN nq := ⟨_, rfl⟩
      have k2 : w1.cell? ⟨b, 2, none⟩ = some (.string (mk l)) := by rw [hw1]; exact (HR.out.later (below_drewN (Below.refl _ _) nq)).s
      have HC1 : Hid (Cel B b w w1) := by rw [hw1]; exact HC.out.below hBw hlt (below_drewN (Below.refl _ _) nq)
      rw [← hw1]
      clear hw1 HR HC c2 c3 HE
      go_wp2_with fail
      refine (end_any l _ k2).mono ?_
      rintro e w2 ⟨rfl, hb2⟩
      have HC2 : Hid (Cel B b w w2) := HC1.out.below hBw hlt hb2
      obtain ⟨d0, d1, d2, d3⟩ := HC2.out.facts
      clear hb2 HC1
      go_wp2
      refine bodyPost_ret (v := .agg #[.int .i64 4, .int .i64 (l.length : Int)]) (by simp [results, Tryd.results39, go_sem, d0, d1]) rfl ?_
      rw [HV.out]
      exact ⟨HC2.out.fin hBw _ _, rfl, fun h => by simp at h⟩

end Go.Proofs.YtiipndfogofhgaaDoor.Quo
