/- grommetlaw08.wide, by its contract; how long a block's text may be. -/
import Derived.Test.YtoamfmockinknaaBlockMuch
namespace Go.Proofs.Ytoamfmockinknaa.Blk
open Go.RowKit
open Rws (mk mk_data mk_size mk_of mk_ext mk_get mk_inj)
set_option linter.unusedSimpArgs false
set_option linter.unusedVariables false
set_option maxRecDepth 100000

def sumT (rs : List Rw) : Nat := (rs.map fun r => r.2.1.length).sum
theorem sumT_cons (r : Rw) (t : List Rw) : sumT (r :: t) = r.2.1.length + sumT t := by simp [sumT]
theorem sumT_app (a b : List Rw) : sumT (a ++ b) = sumT a + sumT b := by simp [sumT]
theorem sumT_next (rs : List Rw) (k : Nat) (h : k < rs.length) : sumT (rs.take (k + 1)) = sumT (rs.take k) + (rs.getD k z3).2.1.length := by
  rw [take_getR rs k h, sumT_app]; simp [sumT]
theorem sumT_bd (rs : List Rw) (n : Nat) (h : ∀ r ∈ rs, r.2.1.length ≤ n) : sumT rs ≤ rs.length * n := by
  induction rs with
  | nil => simp [sumT]
  | cons r t ih =>
    have h1 := h r (by simp)
    have h2 := ih (fun y hy => h y (by simp [hy]))
    rw [sumT_cons, List.length_cons, Nat.succ_mul]; omega
theorem sumT_take (rs : List Rw) (k : Nat) : sumT (rs.take k) ≤ sumT rs := by
  conv => rhs; rw [← List.take_append_drop k rs]
  rw [sumT_app]; omega
def far (rs : List Rw) : Bool := rs.any fun r => decide (300 < r.1)
def wid (rs : List Rw) : Bool := far (rs.take 500) || (decide (500 < rs.length) || decide (20000 < sumT (rs.take 500)))
theorem wid_no {rs : List Rw} (h : wid rs = false) : rs.length ≤ 500 ∧ sumT rs ≤ 20000 ∧ ∀ r ∈ rs, r.1 ≤ 300 := by
  unfold wid at h
  simp only [Bool.or_eq_false_iff, decide_eq_false_iff_not] at h
  obtain ⟨h0, h1, h2⟩ := h
  have h1 : rs.length ≤ 500 := by omega
  rw [List.take_of_length_le h1] at h0 h2
  refine ⟨h1, by omega, fun r hr => ?_⟩
  unfold far at h0
  rw [List.any_eq_false] at h0
  have := h0 r hr
  simp at this
  omega
theorem far_next (rs : List Rw) (k : Nat) (h : k < rs.length) (h0 : far (rs.take k) = false) (h1 : (rs.getD k z3).1 ≤ 300) : far (rs.take (k + 1)) = false := by
  unfold far at *
  rw [take_getR rs k h, List.any_append, h0, Bool.false_or, List.any_cons, List.any_nil, Bool.or_false]
  exact decide_eq_false (by omega)
theorem far_yes (rs : List Rw) (k m : Nat) (h : k < rs.length) (hm : k < m) (h1 : 300 < (rs.getD k z3).1) : far (rs.take m) = true := by
  unfold far
  rw [List.any_eq_true]
  refine ⟨rs.getD k z3, ?_, by simpa using h1⟩
  rw [List.mem_take_iff_getElem]
  exact ⟨k, by omega, by rw [List.getD_eq_getElem?_getD, List.getElem?_eq_getElem h]; rfl⟩

theorem lo_sum (C : Nat) : ∀ (b : Option Nat) (l : List Rw) (m : List Ln), lo b l = .inl m → (∀ r ∈ l, r.1 ≤ (C : Int)) → sumL m ≤ sumT l + l.length * C
  | b, [], m, h, _ => by cases h; simp [sumL]
  | b, r :: t, m, h, hc => by
    have hc' : ∀ x ∈ t, x.1 ≤ (C : Int) := fun x hx => hc x (by simp [hx])
    have hr := hc r (by simp)
    have hm : mx r.1 ≤ C := by unfold mx; omega
    rw [lo] at h
    rw [sumT_cons, List.length_cons, Nat.succ_mul]
    split at h
    · cases hq : lo b t with
      | inl k => rw [hq] at h; cases h; have := lo_sum C b t k hq hc'; rw [sumL_app]; simp [sumL] at this ⊢; omega
      | inr a => rw [hq] at h; cases h
    · split at h
      · cases h
      · cases hq : lo (some (b.getD (mx r.1))) t with
        | inl k =>
          rw [hq] at h; cases h
          have := lo_sum C _ t k hq hc'
          rw [sumL_app]
          have e : sumL [List.replicate (mx r.1 - b.getD (mx r.1)) 32 ++ r.2.1] = (mx r.1 - b.getD (mx r.1)) + r.2.1.length := by simp [sumL]
          rw [e]
          omega
        | inr a => rw [hq] at h; cases h
theorem rws_sub (rs : List Rw) (col : Int) : (rws rs col).length ≤ rs.length ∧ sumT (rws rs col) ≤ sumT rs ∧ ∀ r ∈ rws rs col, r ∈ rs := by
  induction rs with
  | nil => exact ⟨Nat.le_refl _, Nat.le_refl _, fun r h => h⟩
  | cons r t ih =>
    obtain ⟨h1, h2, h3⟩ := ih
    rw [rws_cons]
    split
    · refine ⟨by simp; omega, by rw [sumT_cons, sumT_cons]; omega, fun x hx => ?_⟩
      rcases List.mem_cons.1 hx with rfl | hx
      · simp
      · simp [h3 x hx]
    · exact ⟨by simp, by simp [sumT], fun x hx => by cases hx⟩
/-- a block's text is not too long -/
theorem tak_bd {rs : List Rw} {col : Int} {C S : Nat} (hc : ∀ r ∈ rs, r.1 ≤ (C : Int)) (hs : sumT rs + rs.length * C + rs.length ≤ S) : ∀ ls, lo none (rws rs col) = .inl ls → (joinW 10 (trm ls)).length ≤ S ∧ (fld (trm ls)).length ≤ S := by
  intro ls hl
  obtain ⟨h1, h2, h3⟩ := rws_sub rs col
  have h4 := lo_sum C _ _ _ hl (fun r hr => hc r (h3 r hr))
  have h5 := lo_len _ _ _ hl
  have h6 := trm_le ls
  have h7 : sumL (trm ls) ≤ sumL ls := by rw [← trm_take ls]; exact sumL_take ls _
  have h8 := join_len 10 (trm ls)
  have h9 := fld_len (trm ls)
  have h10 : (rws rs col).length * C ≤ rs.length * C := Nat.mul_le_mul_right _ h1
  omega

set_option maxHeartbeats 2000000 in
theorem wide_any (a : Option Addr) (len cap : Nat) (rs : List Rw) (w : World) (h : RwAt w a len rs) (hc : len ≤ cap) (hl : cap ≤ maxLen) (hb : ∀ r ∈ rs, r.2.1.length ≤ 140737488351232) :
    Calls Try.prog 17 #[.slice a len cap] w fun e w' => e = .returned (.bool (wid rs)) ∧ Below w.heap.size w w' := by
  have HZ : Hid (RwAt w a len rs) := h
  have HB : Hid (∀ r ∈ rs, r.2.1.length ≤ 140737488351232) := hb
  unfold maxLen at hl
  clear h hb
  by_cases hle : len ≤ 500
  · go_enter Try.func17, Try.ntmps17
    go_wp2
    go_loopw [3, 12] (fun un ui wr => ∃ k S : Nat, k ≤ len ∧ ui = .int .i64 (k : Int) ∧ un = .int .i64 (S : Int) ∧ S = sumT (rs.take k) ∧ far (rs.take k) = false ∧ Below w.heap.size w wr) (fun _ ui _ => len - (intOf ui).toNat)
    case atStart => exact ⟨0, 0, Nat.zero_le _, rfl, rfl, rfl, rfl, Below.refl _ _⟩
    case round =>
      obtain ⟨k, S, hk, rfl, rfl, hS, hF, hbe⟩ := hrel
      have HS : Hid (S = sumT (rs.take k)) := hS
      have HF : Hid (far (rs.take k) = false) := hF
      have hSl : S ≤ 70368744175616000 := by
        have h1 := sumT_bd (rs.take k) 140737488351232 (fun x hx => HB.out x (List.mem_of_mem_take hx))
        have h2 : (rs.take k).length ≤ 500 := by rw [List.length_take]; omega
        generalize sumT (rs.take k) = Z at *
        generalize (rs.take k).length = Y at *
        omega
      have hws := hbe.size
      clear hS hF
      by_cases hlt : k < len
      · obtain ⟨b, off, rfl, hbb, hcc⟩ := HZ.out.2 (by omega)
        obtain ⟨c0, c1, c2⟩ := hcc k (by omega)
        replace c0 := (hbe.cell (p := ⟨b, off + k * 3, none⟩) hbb).trans c0
        replace c1 := (hbe.cell (p := ⟨b, off + k * 3 + 1, none⟩) hbb).trans c1
        replace c2 := (hbe.cell (p := ⟨b, off + k * 3 + 2, none⟩) hbb).trans c2
        have hkx : k < rs.length := by rw [← HZ.out.1]; omega
        have HN : Hid (sumT (rs.take (k + 1)) = sumT (rs.take k) + (rs.getD k z3).2.1.length) := sumT_next rs k hkx
        have HFN : Hid ((rs.getD k z3).1 ≤ 300 → far (rs.take (k + 1)) = false) := fun h => far_next rs k hkx HF.out h
        have HFY : Hid (300 < (rs.getD k z3).1 → wid rs = true) := fun h => by
          unfold wid; rw [far_yes rs k 500 hkx (by omega) h, Bool.true_or]
        have hxl := HB.out (rs.getD k z3) (by rw [List.getD_eq_getElem?_getD, List.getElem?_eq_getElem hkx]; exact List.getElem_mem _)
        obtain ⟨x, hx⟩ : ∃ x, x = rs.getD k z3 := ⟨_, rfl⟩
        rw [← hx] at c0 c1 c2 HN hxl HFN HFY
        obtain ⟨x1, x2, x3⟩ := x
        simp only at c0 c1 c2 hxl HN HFN HFY
        clear hx hcc hkx HF
        have hsz : (mk x2).size = x2.length := mk_size x2
        by_cases hx1 : 300 < x1
        · have HE : Hid (wid rs = true) := HFY.out hx1
          go_wp2
          go_ret
          exact ⟨ret_b HE.out.symm, hbe.alloc hws _⟩
        · have HFF : Hid (far (rs.take (k + 1)) = false) := HFN.out (by omega)
          go_wp2
          go_roundw
          case rel => exact ⟨k + 1, S + x2.length, by omega, by go_num, by go_num, by rw [HN.out, HS.out], HFF.out, hbe.alloc hws _⟩
          case measure => (simp [intOf] <;> omega)
      · have HE : Hid (wid rs = decide ((20000 : Int) < (S : Int))) := by
          unfold wid
          have hk2 : k = len := by omega
          have hxl := HZ.out.1
          have hF := HF.out
          rw [hk2, hxl, List.take_of_length_le (Nat.le_refl _)] at hF
          rw [HS.out, hk2, hxl, List.take_of_length_le (Nat.le_refl _), List.take_of_length_le (by omega), hF, decide_eq_false (by omega), Bool.false_or, Bool.false_or]
          exact decide_eq_decide.2 (by omega)
        have hdl : decide ((500 : Int) < (len : Int)) = false := decide_eq_false (by omega)
        go_wp2
        go_ret
        exact ⟨ret_b HE.out.symm, hbe⟩
  · go_enter Try.func17, Try.ntmps17
    go_wp2
    go_loopw [3, 12] (fun un ui wr => ∃ k S : Nat, k ≤ 500 ∧ ui = .int .i64 (k : Int) ∧ un = .int .i64 (S : Int) ∧ S = sumT (rs.take k) ∧ far (rs.take k) = false ∧ Below w.heap.size w wr) (fun _ ui _ => 500 - (intOf ui).toNat)
    case atStart => exact ⟨0, 0, Nat.zero_le _, rfl, rfl, rfl, rfl, Below.refl _ _⟩
    case round =>
      obtain ⟨k, S, hk, rfl, rfl, hS, hF, hbe⟩ := hrel
      have HS : Hid (S = sumT (rs.take k)) := hS
      have HF : Hid (far (rs.take k) = false) := hF
      have hSl : S ≤ 70368744175616000 := by
        have h1 := sumT_bd (rs.take k) 140737488351232 (fun x hx => HB.out x (List.mem_of_mem_take hx))
        have h2 : (rs.take k).length ≤ 500 := by rw [List.length_take]; omega
        generalize sumT (rs.take k) = Z at *
        generalize (rs.take k).length = Y at *
        omega
      have hws := hbe.size
      clear hS hF
      by_cases hlt : k < 500
      · obtain ⟨b, off, rfl, hbb, hcc⟩ := HZ.out.2 (by omega)
        obtain ⟨c0, c1, c2⟩ := hcc k (by omega)
        replace c0 := (hbe.cell (p := ⟨b, off + k * 3, none⟩) hbb).trans c0
        replace c1 := (hbe.cell (p := ⟨b, off + k * 3 + 1, none⟩) hbb).trans c1
        replace c2 := (hbe.cell (p := ⟨b, off + k * 3 + 2, none⟩) hbb).trans c2
        have hkx : k < rs.length := by rw [← HZ.out.1]; omega
        have HN : Hid (sumT (rs.take (k + 1)) = sumT (rs.take k) + (rs.getD k z3).2.1.length) := sumT_next rs k hkx
        have HFN : Hid ((rs.getD k z3).1 ≤ 300 → far (rs.take (k + 1)) = false) := fun h => far_next rs k hkx HF.out h
        have HFY : Hid (300 < (rs.getD k z3).1 → wid rs = true) := fun h => by
          unfold wid; rw [far_yes rs k 500 hkx (by omega) h, Bool.true_or]
        have hxl := HB.out (rs.getD k z3) (by rw [List.getD_eq_getElem?_getD, List.getElem?_eq_getElem hkx]; exact List.getElem_mem _)
        obtain ⟨x, hx⟩ : ∃ x, x = rs.getD k z3 := ⟨_, rfl⟩
        rw [← hx] at c0 c1 c2 HN hxl HFN HFY
        obtain ⟨x1, x2, x3⟩ := x
        simp only at c0 c1 c2 hxl HN HFN HFY
        clear hx hcc hkx HF
        have hsz : (mk x2).size = x2.length := mk_size x2
        by_cases hx1 : 300 < x1
        · have HE : Hid (wid rs = true) := HFY.out hx1
          go_wp2
          go_ret
          exact ⟨ret_b HE.out.symm, hbe.alloc hws _⟩
        · have HFF : Hid (far (rs.take (k + 1)) = false) := HFN.out (by omega)
          go_wp2
          go_roundw
          case rel => exact ⟨k + 1, S + x2.length, by omega, by go_num, by go_num, by rw [HN.out, HS.out], HFF.out, hbe.alloc hws _⟩
          case measure => (simp [intOf] <;> omega)
      · have HE : Hid (wid rs = true) := by
          unfold wid
          rw [decide_eq_true (p := 500 < rs.length) (by rw [← HZ.out.1]; omega), Bool.true_or, Bool.or_true]
          exact rfl
        have hdl : decide ((500 : Int) < (len : Int)) = true := decide_eq_true (by omega)
        go_wp2
        go_ret
        exact ⟨ret_b HE.out.symm, hbe⟩

end Go.Proofs.Ytoamfmockinknaa.Blk
