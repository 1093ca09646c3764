/- The reference's lines, by its contract. -/
import Derived.Test.YtoamfmockinknaaBlockRfold
import Derived.Test.YtoamfmockinknaaBlockLines
namespace Go.Proofs.Ytoamfmockinknaa.Blk
open Go.RowKit
open Rws (mk mk_data mk_size mk_of mk_ext mk_get mk_inj)
set_option linter.unusedSimpArgs false
set_option linter.unusedVariables false
set_option maxRecDepth 100000

theorem rws_take (col : Int) (rs : List Rw) : ∃ n, rws rs col = rs.take n ∧ n ≤ rs.length := by
  induction rs with
  | nil => exact ⟨0, rfl, Nat.le_refl _⟩
  | cons r t ih =>
    obtain ⟨n, hn, hl⟩ := ih
    rw [rws_cons]
    split
    · exact ⟨n + 1, by rw [hn]; rfl, by simp; omega⟩
    · exact ⟨0, rfl, by simp⟩
/-- what lines answers -/
def RLines (R : List Ln ⊕ Int) (w : World) (e : Ending) (w' : World) : Prop :=
  (∃ ls a cap, R = .inl ls ∧ e = .returned (.tuple #[.slice a (trm ls).length cap, .int .i64 ((ls.length - (trm ls).length : Nat) : Int), .int .i64 (ls.length : Int), .agg #[.int .i64 0, .int .i64 0]]) ∧ StrsAt w' a (trm ls).length (trm ls) ∧ Below w.heap.size w w') ∨
  (∃ x, R = .inr x ∧ e = .returned (.tuple #[.slice none 0 0, .int .i64 0, .int .i64 0, .agg #[.int .i64 9, .int .i64 x]]) ∧ Below w.heap.size w w')

set_option maxHeartbeats 8000000 in
theorem rlines_any (a : Option Addr) (len cap : Nat) (rs : List Rw) (col : Int) (w : World) (h : RwAt w a len rs) (hl : len ≤ 1048576) (hw : ∀ r ∈ rs, r.1 ≤ 9223372036854775807 ∧ r.2.1.length ≤ 140737488355328) :
    Calls Try.prog 30 #[.slice a len cap, .int .i64 col] w fun e w' => RLines (lo none (rws rs col)) w e w' := by
  have HZ : Hid (RwAt w a len rs) := h
  have HW : Hid (∀ r ∈ rs, r.1 ≤ 9223372036854775807 ∧ r.2.1.length ≤ 140737488355328) := hw
  obtain ⟨R, HR⟩ : ∃ R, Hid (R = lo none (rws rs col)) := ⟨_, rfl⟩
  rw [← HR.out]
  clear h hw
  obtain ⟨i0, hi, hz0, hz1, hz2⟩ := info_parts Try.infoStr
  obtain ⟨W, hW⟩ : ∃ W, w.alloc (.cells #[.int .i64 0, .int .i64 0] 42) = W := ⟨_, rfl⟩
  have hbW : Below w.heap.size w W := by rw [← hW]; exact (Below.refl _ _).alloc (Nat.le_refl _) _
  have hWs : W.heap.size = w.heap.size + 1 := by rw [← hW]; simp
  have hcW : W.heap[w.heap.size]? = some (.cells #[.int .i64 0, .int .i64 0] 42 (0, 0)) := by rw [← hW]; exact heap_alloc_new w _
  have HKK : Hid (∀ W2, Below (w.heap.size + 1) W W2 → Below w.heap.size w W2 ∧ W2.cell? ⟨w.heap.size, 0, none⟩ = some (.int .i64 0) ∧ W2.cell? ⟨w.heap.size, 1, none⟩ = some (.int .i64 0) ∧ W2.frozen? ⟨w.heap.size, 0, none⟩ = false ∧ W2.frozen? ⟨w.heap.size, 1, none⟩ = false) := fun W2 hb => by
    have hk : W2.heap[w.heap.size]? = some (.cells #[.int .i64 0, .int .i64 0] 42 (0, 0)) := (hb.block _ (by omega)).trans hcW
    exact ⟨hbW.trans (hb.mono (by omega)), by rw [Lib.cell_of_heap hk]; rfl, by rw [Lib.cell_of_heap hk]; rfl, Lib.frozen_of_heap hk 0, Lib.frozen_of_heap hk 1⟩
  have HWS : Hid (W.heap.size = w.heap.size + 1) := hWs
  have HCL : Hid (∀ W2, Below w.heap.size w W2 → ∀ k, k < len → ∃ b off, a = some ⟨b, off, none⟩ ∧ W2.cell? ⟨b, off + k * 3, none⟩ = some (.int .i64 (rs.getD k z3).1) ∧ W2.cell? ⟨b, off + k * 3 + 1, none⟩ = some (.string (mk (rs.getD k z3).2.1)) ∧ W2.cell? ⟨b, off + k * 3 + 2, none⟩ = some (.int .i64 (rs.getD k z3).2.2)) := fun W2 hb k hk => by
    obtain ⟨b, off, ha, hlt, hc⟩ := (HZ.out.later hb (Nat.le_refl _)).2 (by omega)
    exact ⟨b, off, ha, hc k hk⟩
  have HBW : Hid (Below w.heap.size w W) := hbW
  have HR0 : Hid (R = lo none (rws rs col)) := HR
  clear hbW hcW hWs
  go_enter Try.func30, Try.ntmps30
  go_wp2
  clear hW
  go_loop [8] (fun un => ∃ k : Nat, k ≤ len ∧ un = .int .i64 (k : Int) ∧ rws rs col = rs.take k ++ rws (rs.drop k) col) (fun un => len - (intOf un).toNat)
  case atStart => exact ⟨0, Nat.zero_le _, rfl, rfl⟩
  case round =>
    obtain ⟨n, hn, rfl, hE⟩ := hrel
    have HE : Hid (rws rs col = rs.take n ++ rws (rs.drop n) col) := hE
    clear hE
    by_cases hlt : n < len
    · obtain ⟨b, off, rfl, c0, c1, c2⟩ := HCL.out W HBW.out n hlt
      have hnr : n < rs.length := by rw [← HZ.out.1]; exact hlt
      have HD : Hid (rs.drop n = rs.getD n z3 :: rs.drop (n + 1)) := drop_getR rs n hnr
      have HTK : Hid (rs.take (n + 1) = rs.take n ++ [rs.getD n z3]) := take_getR rs n hnr
      obtain ⟨x, hx⟩ : ∃ x, x = rs.getD n z3 := ⟨_, rfl⟩
      rw [← hx] at c0 c1 c2 HD HTK
      obtain ⟨x1, x2, x3⟩ := x
      simp only at c0 c1 c2
      have hmx := mx_eq x1
      have HX : Hid (rws (rs.drop n) col = if x2 = [] ∨ col < (mx x1 : Int) then (x1, x2, x3) :: rws (rs.drop (n + 1)) col else []) := by rw [HD.out, rws_cons]; exact rfl
      generalize mx x1 = M at *
      clear hx HD
      by_cases hx0 : x2 = []
      · have HN : Hid (rws rs col = rs.take (n + 1) ++ rws (rs.drop (n + 1)) col) := by rw [HE.out, HX.out, if_pos (.inl hx0), HTK.out]; simp [Hid]
        rw [hx0, show mk [] = (⟨#[]⟩ : ByteArray) from rfl] at c1
        clear HE HX HTK
        go_wp2
        go_round
        case rel => exact ⟨n + 1, by omega, by go_num, HN.out⟩
        case measure => (simp [intOf] <;> omega)
      · have hq : ((mk x2).toList == []) = false := by rw [mk_nil_eq]; simpa using hx0
        by_cases hcd : col < (M : Int)
        · have HN : Hid (rws rs col = rs.take (n + 1) ++ rws (rs.drop (n + 1)) col) := by rw [HE.out, HX.out, if_pos (.inr hcd), HTK.out]; simp [Hid]
          clear HE HX HTK
          go_wp2
          go_round
          case rel => exact ⟨n + 1, by omega, by go_num, HN.out⟩
          case measure => (simp [intOf] <;> omega)
        · have HT : Hid (rws rs col = rs.take n) := by rw [HE.out, HX.out, if_neg (by rintro (h | h); exact hx0 h; exact hcd h)]; simp [Hid]
          clear HE HX HTK
          clear HR
          have hws0 : w.heap.size + 1 ≤ W.heap.size := by rw [HWS.out]; exact Nat.le_refl _
          have HRR : Hid (R = lo none (rs.take n)) := by rw [HR0.out, HT.out]; exact rfl
          go_wp2
          try clear c0 c1 c2 hq hmx hcd
          go_loopw [9, 10, 11, 12] (fun ub ue uv ui wr => ∃ (k : Nat) (acc : List Ln) (ob : Option Nat), k ≤ n ∧ ui = .int .i64 (k : Int) ∧ ub = .int .i64 (bv ob) ∧ ue = .int .i64 ((trm acc).length : Int) ∧ acc.length = k ∧ (∀ b, ob = some b → b ≤ 9223372036854775807) ∧ wr.ownsRow (w.heap.size + 1) 9 1 uv acc.length (strV acc) ∧ Below (w.heap.size + 1) W wr ∧ w.heap.size + 1 ≤ wr.heap.size ∧ R = addL acc (lo ob ((rs.take n).drop k))) (fun _ _ _ ui _ => n - (intOf ui).toNat)
          case atStart => exact ⟨0, [], none, Nat.zero_le _, rfl, rfl, rfl, rfl, (fun b h => by cases h), World.ownsRow_nil _ _ _ _, Below.refl _ _, hws0, by rw [addL_nil]; exact HRR.out⟩
          case round =>
            clear hws0 HRR HT
            obtain ⟨k, acc, ob, hk, rfl, rfl, rfl, hal, hob, hown, hbe, hws, hE⟩ := hrel
            have HO : Hid (wr.ownsRow (w.heap.size + 1) 9 1 u11 acc.length (strV acc)) := hown
            have HB : Hid (Below (w.heap.size + 1) W wr) := hbe
            have HE : Hid (R = addL acc (lo ob ((rs.take n).drop k))) := hE
            have HOB : Hid (∀ b, ob = some b → b ≤ 9223372036854775807) := hob
            have HAL : Hid (acc.length = k) := hal
            have hka : acc.length ≤ 1048576 := by rw [hal]; omega
            clear hown hbe hE hob hal
            obtain ⟨e4, e0, e1, e2, e3⟩ := HKK.out _ HB.out
            by_cases hkn : k < n
            · obtain ⟨b2, off2, ha, c0, c1, c2⟩ := HCL.out wr e4 k (by omega)
              cases ha
              have hkr : k < rs.length := by rw [← HZ.out.1]; omega
              have HD : Hid ((rs.take n).drop k = rs.getD k z3 :: (rs.take n).drop (k + 1)) := by
                rw [drop_getR (rs.take n) k (by rw [List.length_take, ← HZ.out.1]; omega), List.getD_eq_getElem?_getD, List.getD_eq_getElem?_getD, List.getElem?_take, if_pos hkn]
                exact rfl
              obtain ⟨hmw, hxl⟩ := HW.out (rs.getD k z3) (by rw [List.getD_eq_getElem?_getD, List.getElem?_eq_getElem hkr]; exact List.getElem_mem _)
              obtain ⟨x, hx⟩ : ∃ x, x = rs.getD k z3 := ⟨_, rfl⟩
              rw [← hx] at c0 c1 c2 HD hmw hxl
              obtain ⟨x1, x2, x3⟩ := x
              simp only at c0 c1 c2 hmw hxl
              have hmx := mx_eq x1
              have hml : (mx x1 : Int) ≤ 9223372036854775807 := by rw [← hmx]; omega
              have HX : Hid (lo ob ((rs.take n).drop k) = lo ob ((x1, x2, x3) :: (rs.take n).drop (k + 1))) := by rw [HD.out]; exact rfl
              clear hx HD hmw hkr
              generalize hM : mx x1 = M at *
              have HM : Hid (mx x1 = M) := hM
              clear hM
              by_cases hx0 : x2 = []
              · have HN : Hid (R = addL (acc ++ [[]]) (lo ob ((rs.take n).drop (k + 1)))) := by rw [HE.out, HX.out, hx0, lo_emp, addL_addL]; exact rfl
                have HTR : Hid ((trm (acc ++ [[]])).length = (trm acc).length) := by unfold Hid; rw [trm_snoc_nil]
                rw [hx0, show mk [] = (⟨#[]⟩ : ByteArray) from rfl] at c1
                clear HX HE
                go_wp2_with (first | (at_builtin; refine wpList_append_own _ rfl _ _ 35 rfl (w.heap.size + 1) 9 i0 (.string ⟨#[]⟩) 1 16 Try.underlying35 hi hz0 hz1 hz2 rfl (by decide) _ _ _ rfl (HO.out.alloc _) ⟨wr.heap.size, 0, none⟩ 1 1 [Value.string ⟨#[]⟩] rfl rfl (cell_one _ _) (str_one _) (by unfold maxLen; omega) (by omega) (by rw [World.size_alloc]; omega) ?_; intro v' w3 hown' hgrow _; have hb3 : Below (w.heap.size + 1) W w3 := (HB.out.alloc hws _).grown hgrow (by rw [World.size_alloc]; omega) (own_block HO.out); have hs3 := hgrow.size; rw [World.size_alloc] at hs3))
                have HO3 : Hid (w3.ownsRow (w.heap.size + 1) 9 1 v' (acc ++ [[]]).length (strV (acc ++ [[]]))) := by rw [strV_snoc, List.length_append]; exact hown'
                clear hown' hgrow
                go_roundw
                case rel => exact ⟨k + 1, acc ++ [[]], ob, by omega, by go_num, rfl, by first | rfl | (rw [HTR.out]; done) | (rw [HTR.out]; go_num), by rw [List.length_append, HAL.out]; rfl, HOB.out, HO3.out, hb3, by omega, HN.out⟩
                case measure => (simp [intOf] <;> omega)
              · have hq : ((mk x2).toList == []) = false := by rw [mk_nil_eq]; simpa using hx0
                cases ob with
                | none =>
                  have HN : Hid (R = addL (acc ++ [x2]) (lo (some M) ((rs.take n).drop (k + 1)))) := by
                    have h2 := lo_ok none x1 x2 x3 ((rs.take n).drop (k + 1)) hx0 (by simp)
                    rw [HM.out] at h2
                    rw [HE.out, HX.out, h2, addL_addL]
                    simp [Hid]
                  clear HE HX
                  have hbv : bv none = -1 := rfl
                  go_wp2
                  go_loop [13, 15] (fun us uk => uk = .int .i64 (M : Int) ∧ us = .string ⟨#[]⟩) (fun _ _ => 0)
                  case atStart => exact ⟨rfl, rfl⟩
                  case round =>
                    obtain ⟨rfl, rfl⟩ := hrel
                    have hes : (⟨#[]⟩ : ByteArray).size = 0 := rfl
                    have hxs : (mk x2).size = x2.length := mk_size x2
                    have hea : (⟨#[]⟩ : ByteArray) ++ mk x2 = mk x2 := mk_appR [] x2
                    have HTR : Hid ((trm (acc ++ [x2])).length = k + 1) := by rw [trm_last acc x2 hx0, List.length_append, HAL.out]; exact rfl
                    go_wp2_with (first | (at_builtin; refine wpList_append_own _ rfl _ _ 35 rfl (w.heap.size + 1) 9 i0 (.string ⟨#[]⟩) 1 16 Try.underlying35 hi hz0 hz1 hz2 rfl (by decide) _ _ _ rfl (HO.out.alloc _) ⟨wr.heap.size, 0, none⟩ 1 1 [Value.string (mk x2)] rfl rfl (cell_one _ _) (str_one _) (by unfold maxLen; omega) (by omega) (by rw [World.size_alloc]; omega) ?_; intro v' w3 hown' hgrow _; have hb3 : Below (w.heap.size + 1) W w3 := (HB.out.alloc hws _).grown hgrow (by rw [World.size_alloc]; omega) (own_block HO.out); have hs3 := hgrow.size; rw [World.size_alloc] at hs3))
                    have HO3 : Hid (w3.ownsRow (w.heap.size + 1) 9 1 v' (acc ++ [x2]).length (strV (acc ++ [x2]))) := by rw [strV_snoc, List.length_append]; exact hown'
                    clear hown' hgrow
                    go_roundw
                    case rel => exact ⟨k + 1, acc ++ [x2], some M, by omega, by go_num, rfl, by first | rfl | (rw [HTR.out]; done) | (rw [HTR.out]; go_num), by rw [List.length_append, HAL.out]; rfl, (fun b' h => by cases h; omega), HO3.out, hb3, by omega, HN.out⟩
                    case measure => (simp [intOf] <;> omega)
                | some b0 =>
                  have hb0 := HOB.out b0 rfl
                  have hbv : bv (some b0) = (b0 : Int) := rfl
                  by_cases hlo : M < b0
                  · have HN : Hid (R = .inr x3) := by rw [HE.out, HX.out, lo_bad _ _ _ _ _ hx0 (by rw [HM.out]; exact .inl hlo)]; exact rfl
                    clear HE HX
                    go_wp2
                    go_region
                    all_goals (
                      go_wp2
                      refine bodyPost_ret (v := .tuple #[.slice none 0 0, .int .i64 0, .int .i64 0, .agg #[.int .i64 9, .int .i64 x3]]) (by simp [results, Try.results30, go_sem, e0, e1]) rfl (.inr ⟨x3, HN.out, rfl, (e4.drew.setCell (p := ⟨w.heap.size, 0, none⟩) (Nat.le_refl _) _).setCell (p := ⟨w.heap.size, 1, none⟩) (Nat.le_refl _) _⟩))
                  · obtain ⟨m, hm⟩ : ∃ m, M = b0 + m := ⟨M - b0, by omega⟩
                    have hsub : (M : Int) - (b0 : Int) = (m : Int) := by omega
                    have hnl : ¬ ((M : Int) < (b0 : Int)) := by omega
                    have HMM : Hid (M = b0 + m) := hm
                    clear hm
                    by_cases hhi : 65536 < m
                    · have HN : Hid (R = .inr x3) := by rw [HE.out, HX.out, lo_bad _ _ _ _ _ hx0 (by rw [HM.out]; exact .inr (by have := HMM.out; simp; omega))]; exact rfl
                      clear HE HX
                      go_wp2
                      go_region
                      all_goals (
                        go_wp2
                        refine bodyPost_ret (v := .tuple #[.slice none 0 0, .int .i64 0, .int .i64 0, .agg #[.int .i64 9, .int .i64 x3]]) (by simp [results, Try.results30, go_sem, e0, e1]) rfl (.inr ⟨x3, HN.out, rfl, (e4.drew.setCell (p := ⟨w.heap.size, 0, none⟩) (Nat.le_refl _) _).setCell (p := ⟨w.heap.size, 1, none⟩) (Nat.le_refl _) _⟩))
                    · have HN : Hid (R = addL (acc ++ [List.replicate m 32 ++ x2]) (lo (some b0) ((rs.take n).drop (k + 1)))) := by
                        have h2 := lo_ok (some b0) x1 x2 x3 ((rs.take n).drop (k + 1)) hx0 (by rw [HM.out]; have := HMM.out; simp; omega)
                        rw [HM.out] at h2
                        rw [HE.out, HX.out, h2, addL_addL]
                        simp only [Option.getD_some]
                        rw [show M - b0 = m by have := HMM.out; omega]
                        exact rfl
                      clear HE HX
                      go_wp2
                      go_loop [13, 15] (fun us uk => ∃ j : Nat, j ≤ m ∧ uk = .int .i64 ((b0 + j : Nat) : Int) ∧ us = .string (mk (List.replicate j 32))) (fun _ uk => (b0 + m) - (intOf uk).toNat)
                      case atStart => exact ⟨0, Nat.zero_le _, by first | rfl | simp, rfl⟩
                      case round =>
                        obtain ⟨j, hj, rfl, rfl⟩ := hrel
                        by_cases hjl : j < m
                        · have hsp : mk (List.replicate j 32) ++ (⟨#[32]⟩ : ByteArray) = mk (List.replicate (j + 1) 32) := by rw [List.replicate_succ']; exact mk_appR _ [32]
                          have hone : (⟨#[32]⟩ : ByteArray).size = 1 := rfl
                          have hrs : (mk (List.replicate j 32)).size = j := by rw [mk_size, List.length_replicate]
                          go_wp2
                          go_round
                          case rel => exact ⟨j + 1, by omega, by go_num, by first | rfl | rw [hsp]⟩
                          case measure => (simp [intOf] <;> omega)
                        · obtain rfl : m = j := by omega
                          have hrs : (mk (List.replicate m 32)).size = m := by rw [mk_size, List.length_replicate]
                          have hxs : (mk x2).size = x2.length := mk_size x2
                          obtain ⟨L, HL⟩ : ∃ L : Ln, Hid (L = (List.replicate m 32 ++ x2 : Ln)) := ⟨(List.replicate m 32 ++ x2 : Ln), rfl⟩
                          have hap : mk (List.replicate m 32) ++ mk x2 = mk L := by rw [HL.out]; exact mk_appR _ x2
                          have HLN : Hid (L ≠ []) := by rw [HL.out]; intro e; exact hx0 (List.append_eq_nil_iff.1 e).2
                          rw [← HL.out] at HN
                          have HTR : Hid ((trm (acc ++ [L])).length = k + 1) := by rw [trm_last acc L HLN.out, List.length_append, HAL.out]; exact rfl
                          go_wp2_with (first | (at_builtin; refine wpList_append_own _ rfl _ _ 35 rfl (w.heap.size + 1) 9 i0 (.string ⟨#[]⟩) 1 16 Try.underlying35 hi hz0 hz1 hz2 rfl (by decide) _ _ _ rfl (HO.out.alloc _) ⟨wr.heap.size, 0, none⟩ 1 1 [Value.string (mk L)] rfl rfl (cell_one _ _) (str_one _) (by unfold maxLen; omega) (by omega) (by rw [World.size_alloc]; omega) ?_; intro v' w3 hown' hgrow _; have hb3 : Below (w.heap.size + 1) W w3 := (HB.out.alloc hws _).grown hgrow (by rw [World.size_alloc]; omega) (own_block HO.out); have hs3 := hgrow.size; rw [World.size_alloc] at hs3))
                          have HO3 : Hid (w3.ownsRow (w.heap.size + 1) 9 1 v' (acc ++ [L]).length (strV (acc ++ [L]))) := by rw [strV_snoc, List.length_append]; exact hown'
                          clear hown' hgrow
                          go_roundw
                          case rel => exact ⟨k + 1, acc ++ [L], some b0, by omega, by go_num, rfl, by first | rfl | (rw [HTR.out]; done) | (rw [HTR.out]; go_num), by rw [List.length_append, HAL.out]; rfl, (fun b' h => by cases h; omega), HO3.out, hb3, by omega, HN.out⟩
                          case measure => (simp [intOf] <;> omega)
            · have HN : Hid (R = .inl acc) := by rw [HE.out, List.drop_of_length_le (by rw [List.length_take]; omega), lo_nil]; simp [addL, Hid]
              have hkn2 : k = n := by omega
              obtain ⟨a', cap', rfl, hcap, hat⟩ := strs_own HO.out
              have hAT : Hid (∀ u0 u1, StrsAt ((wr.setCell ⟨w.heap.size, 0, none⟩ u0).setCell ⟨w.heap.size, 1, none⟩ u1) a' (trm acc).length (trm acc)) := fun u0 u1 => by
                have hq2 := (strs_of_own (ownsRow_setCell_below (a := ⟨w.heap.size, 1, none⟩) (ownsRow_setCell_below (a := ⟨w.heap.size, 0, none⟩) HO.out (Nat.lt_succ_self _) u0) (Nat.lt_succ_self _) u1)).take (trm acc).length (trm_le acc)
                rw [trm_take] at hq2
                exact hq2
              have hEl := trm_le acc
              rw [HAL.out, hkn2] at hEl
              have hEc : (trm acc).length ≤ cap' := by rw [HAL.out] at hcap; omega
              have HTUP : Hid (∀ w', StrsAt w' a' (trm acc).length (trm acc) → Below w.heap.size w w' → RLines R w (.returned (.tuple #[.slice a' (trm acc).length cap', .int .i64 ((n - (trm acc).length : Nat) : Int), .int .i64 (n : Int), .agg #[.int .i64 0, .int .i64 0]])) w') := fun w' h1 h2 => by
                refine .inl ⟨acc, a', cap', HN.out, ?_, h1, h2⟩
                rw [HAL.out, hkn2]
              rw [HAL.out] at hcap ⊢
              obtain ⟨E, HEE⟩ : ∃ E, Hid (E = (trm acc).length) := ⟨_, rfl⟩
              rw [← HEE.out] at hAT hEl hEc HTUP ⊢
              have hsub : (n : Int) - (E : Int) = ((n - E : Nat) : Int) := by omega
              clear HE hat HO HN
              go_wp2
              refine bodyPost_ret (v := .tuple #[.slice a' E cap', .int .i64 ((n - E : Nat) : Int), .int .i64 (n : Int), .agg #[.int .i64 0, .int .i64 0]]) (by simp [results, Try.results30, go_sem, e0, e1]) rfl (HTUP.out _ (hAT.out _ _) ((e4.setCell (p := ⟨w.heap.size, 0, none⟩) (Nat.le_refl _) _).setCell (p := ⟨w.heap.size, 1, none⟩) (Nat.le_refl _) _))
    · have HT : Hid (rws rs col = rs.take n) := by rw [HE.out, List.drop_of_length_le (by rw [← HZ.out.1]; omega), rws_nil]; simp [Hid]
      clear HE
      clear HR
      have hws0 : w.heap.size + 1 ≤ W.heap.size := by rw [HWS.out]; exact Nat.le_refl _
      have HRR : Hid (R = lo none (rs.take n)) := by rw [HR0.out, HT.out]; exact rfl
      go_wp2
      try clear c0 c1 c2 hq hmx hcd
      go_loopw [9, 10, 11, 12] (fun ub ue uv ui wr => ∃ (k : Nat) (acc : List Ln) (ob : Option Nat), k ≤ n ∧ ui = .int .i64 (k : Int) ∧ ub = .int .i64 (bv ob) ∧ ue = .int .i64 ((trm acc).length : Int) ∧ acc.length = k ∧ (∀ b, ob = some b → b ≤ 9223372036854775807) ∧ wr.ownsRow (w.heap.size + 1) 9 1 uv acc.length (strV acc) ∧ Below (w.heap.size + 1) W wr ∧ w.heap.size + 1 ≤ wr.heap.size ∧ R = addL acc (lo ob ((rs.take n).drop k))) (fun _ _ _ ui _ => n - (intOf ui).toNat)
      case atStart => exact ⟨0, [], none, Nat.zero_le _, rfl, rfl, rfl, rfl, (fun b h => by cases h), World.ownsRow_nil _ _ _ _, Below.refl _ _, hws0, by rw [addL_nil]; exact HRR.out⟩
      case round =>
        clear hws0 HRR HT
        obtain ⟨k, acc, ob, hk, rfl, rfl, rfl, hal, hob, hown, hbe, hws, hE⟩ := hrel
        have HO : Hid (wr.ownsRow (w.heap.size + 1) 9 1 u11 acc.length (strV acc)) := hown
        have HB : Hid (Below (w.heap.size + 1) W wr) := hbe
        have HE : Hid (R = addL acc (lo ob ((rs.take n).drop k))) := hE
        have HOB : Hid (∀ b, ob = some b → b ≤ 9223372036854775807) := hob
        have HAL : Hid (acc.length = k) := hal
        have hka : acc.length ≤ 1048576 := by rw [hal]; omega
        clear hown hbe hE hob hal
        obtain ⟨e4, e0, e1, e2, e3⟩ := HKK.out _ HB.out
        by_cases hkn : k < n
        · obtain ⟨b2, off2, ha, c0, c1, c2⟩ := HCL.out wr e4 k (by omega)
          cases ha
          have hkr : k < rs.length := by rw [← HZ.out.1]; omega
          have HD : Hid ((rs.take n).drop k = rs.getD k z3 :: (rs.take n).drop (k + 1)) := by
            rw [drop_getR (rs.take n) k (by rw [List.length_take, ← HZ.out.1]; omega), List.getD_eq_getElem?_getD, List.getD_eq_getElem?_getD, List.getElem?_take, if_pos hkn]
            exact rfl
          obtain ⟨hmw, hxl⟩ := HW.out (rs.getD k z3) (by rw [List.getD_eq_getElem?_getD, List.getElem?_eq_getElem hkr]; exact List.getElem_mem _)
          obtain ⟨x, hx⟩ : ∃ x, x = rs.getD k z3 := ⟨_, rfl⟩
          rw [← hx] at c0 c1 c2 HD hmw hxl
          obtain ⟨x1, x2, x3⟩ := x
          simp only at c0 c1 c2 hmw hxl
          have hmx := mx_eq x1
          have hml : (mx x1 : Int) ≤ 9223372036854775807 := by rw [← hmx]; omega
          have HX : Hid (lo ob ((rs.take n).drop k) = lo ob ((x1, x2, x3) :: (rs.take n).drop (k + 1))) := by rw [HD.out]; exact rfl
          clear hx HD hmw hkr
          generalize hM : mx x1 = M at *
          have HM : Hid (mx x1 = M) := hM
          clear hM
          by_cases hx0 : x2 = []
          · have HN : Hid (R = addL (acc ++ [[]]) (lo ob ((rs.take n).drop (k + 1)))) := by rw [HE.out, HX.out, hx0, lo_emp, addL_addL]; exact rfl
            have HTR : Hid ((trm (acc ++ [[]])).length = (trm acc).length) := by unfold Hid; rw [trm_snoc_nil]
            rw [hx0, show mk [] = (⟨#[]⟩ : ByteArray) from rfl] at c1
            clear HX HE
            go_wp2_with (first | (at_builtin; refine wpList_append_own _ rfl _ _ 35 rfl (w.heap.size + 1) 9 i0 (.string ⟨#[]⟩) 1 16 Try.underlying35 hi hz0 hz1 hz2 rfl (by decide) _ _ _ rfl (HO.out.alloc _) ⟨wr.heap.size, 0, none⟩ 1 1 [Value.string ⟨#[]⟩] rfl rfl (cell_one _ _) (str_one _) (by unfold maxLen; omega) (by omega) (by rw [World.size_alloc]; omega) ?_; intro v' w3 hown' hgrow _; have hb3 : Below (w.heap.size + 1) W w3 := (HB.out.alloc hws _).grown hgrow (by rw [World.size_alloc]; omega) (own_block HO.out); have hs3 := hgrow.size; rw [World.size_alloc] at hs3))
            have HO3 : Hid (w3.ownsRow (w.heap.size + 1) 9 1 v' (acc ++ [[]]).length (strV (acc ++ [[]]))) := by rw [strV_snoc, List.length_append]; exact hown'
            clear hown' hgrow
            go_roundw
            case rel => exact ⟨k + 1, acc ++ [[]], ob, by omega, by go_num, rfl, by first | rfl | (rw [HTR.out]; done) | (rw [HTR.out]; go_num), by rw [List.length_append, HAL.out]; rfl, HOB.out, HO3.out, hb3, by omega, HN.out⟩
            case measure => (simp [intOf] <;> omega)
          · have hq : ((mk x2).toList == []) = false := by rw [mk_nil_eq]; simpa using hx0
            cases ob with
            | none =>
              have HN : Hid (R = addL (acc ++ [x2]) (lo (some M) ((rs.take n).drop (k + 1)))) := by
                have h2 := lo_ok none x1 x2 x3 ((rs.take n).drop (k + 1)) hx0 (by simp)
                rw [HM.out] at h2
                rw [HE.out, HX.out, h2, addL_addL]
                simp [Hid]
              clear HE HX
              have hbv : bv none = -1 := rfl
              go_wp2
              go_loop [13, 15] (fun us uk => uk = .int .i64 (M : Int) ∧ us = .string ⟨#[]⟩) (fun _ _ => 0)
              case atStart => exact ⟨rfl, rfl⟩
              case round =>
                obtain ⟨rfl, rfl⟩ := hrel
                have hes : (⟨#[]⟩ : ByteArray).size = 0 := rfl
                have hxs : (mk x2).size = x2.length := mk_size x2
                have hea : (⟨#[]⟩ : ByteArray) ++ mk x2 = mk x2 := mk_appR [] x2
                have HTR : Hid ((trm (acc ++ [x2])).length = k + 1) := by rw [trm_last acc x2 hx0, List.length_append, HAL.out]; exact rfl
                go_wp2_with (first | (at_builtin; refine wpList_append_own _ rfl _ _ 35 rfl (w.heap.size + 1) 9 i0 (.string ⟨#[]⟩) 1 16 Try.underlying35 hi hz0 hz1 hz2 rfl (by decide) _ _ _ rfl (HO.out.alloc _) ⟨wr.heap.size, 0, none⟩ 1 1 [Value.string (mk x2)] rfl rfl (cell_one _ _) (str_one _) (by unfold maxLen; omega) (by omega) (by rw [World.size_alloc]; omega) ?_; intro v' w3 hown' hgrow _; have hb3 : Below (w.heap.size + 1) W w3 := (HB.out.alloc hws _).grown hgrow (by rw [World.size_alloc]; omega) (own_block HO.out); have hs3 := hgrow.size; rw [World.size_alloc] at hs3))
                have HO3 : Hid (w3.ownsRow (w.heap.size + 1) 9 1 v' (acc ++ [x2]).length (strV (acc ++ [x2]))) := by rw [strV_snoc, List.length_append]; exact hown'
                clear hown' hgrow
                go_roundw
                case rel => exact ⟨k + 1, acc ++ [x2], some M, by omega, by go_num, rfl, by first | rfl | (rw [HTR.out]; done) | (rw [HTR.out]; go_num), by rw [List.length_append, HAL.out]; rfl, (fun b' h => by cases h; omega), HO3.out, hb3, by omega, HN.out⟩
                case measure => (simp [intOf] <;> omega)
            | some b0 =>
              have hb0 := HOB.out b0 rfl
              have hbv : bv (some b0) = (b0 : Int) := rfl
              by_cases hlo : M < b0
              · have HN : Hid (R = .inr x3) := by rw [HE.out, HX.out, lo_bad _ _ _ _ _ hx0 (by rw [HM.out]; exact .inl hlo)]; exact rfl
                clear HE HX
                go_wp2
                go_region
                all_goals (
                  go_wp2
                  refine bodyPost_ret (v := .tuple #[.slice none 0 0, .int .i64 0, .int .i64 0, .agg #[.int .i64 9, .int .i64 x3]]) (by simp [results, Try.results30, go_sem, e0, e1]) rfl (.inr ⟨x3, HN.out, rfl, (e4.drew.setCell (p := ⟨w.heap.size, 0, none⟩) (Nat.le_refl _) _).setCell (p := ⟨w.heap.size, 1, none⟩) (Nat.le_refl _) _⟩))
              · obtain ⟨m, hm⟩ : ∃ m, M = b0 + m := ⟨M - b0, by omega⟩
                have hsub : (M : Int) - (b0 : Int) = (m : Int) := by omega
                have hnl : ¬ ((M : Int) < (b0 : Int)) := by omega
                have HMM : Hid (M = b0 + m) := hm
                clear hm
                by_cases hhi : 65536 < m
                · have HN : Hid (R = .inr x3) := by rw [HE.out, HX.out, lo_bad _ _ _ _ _ hx0 (by rw [HM.out]; exact .inr (by have := HMM.out; simp; omega))]; exact rfl
                  clear HE HX
                  go_wp2
                  go_region
                  all_goals (
                    go_wp2
                    refine bodyPost_ret (v := .tuple #[.slice none 0 0, .int .i64 0, .int .i64 0, .agg #[.int .i64 9, .int .i64 x3]]) (by simp [results, Try.results30, go_sem, e0, e1]) rfl (.inr ⟨x3, HN.out, rfl, (e4.drew.setCell (p := ⟨w.heap.size, 0, none⟩) (Nat.le_refl _) _).setCell (p := ⟨w.heap.size, 1, none⟩) (Nat.le_refl _) _⟩))
                · have HN : Hid (R = addL (acc ++ [List.replicate m 32 ++ x2]) (lo (some b0) ((rs.take n).drop (k + 1)))) := by
                    have h2 := lo_ok (some b0) x1 x2 x3 ((rs.take n).drop (k + 1)) hx0 (by rw [HM.out]; have := HMM.out; simp; omega)
                    rw [HM.out] at h2
                    rw [HE.out, HX.out, h2, addL_addL]
                    simp only [Option.getD_some]
                    rw [show M - b0 = m by have := HMM.out; omega]
                    exact rfl
                  clear HE HX
                  go_wp2
                  go_loop [13, 15] (fun us uk => ∃ j : Nat, j ≤ m ∧ uk = .int .i64 ((b0 + j : Nat) : Int) ∧ us = .string (mk (List.replicate j 32))) (fun _ uk => (b0 + m) - (intOf uk).toNat)
                  case atStart => exact ⟨0, Nat.zero_le _, by first | rfl | simp, rfl⟩
                  case round =>
                    obtain ⟨j, hj, rfl, rfl⟩ := hrel
                    by_cases hjl : j < m
                    · have hsp : mk (List.replicate j 32) ++ (⟨#[32]⟩ : ByteArray) = mk (List.replicate (j + 1) 32) := by rw [List.replicate_succ']; exact mk_appR _ [32]
                      have hone : (⟨#[32]⟩ : ByteArray).size = 1 := rfl
                      have hrs : (mk (List.replicate j 32)).size = j := by rw [mk_size, List.length_replicate]
                      go_wp2
                      go_round
                      case rel => exact ⟨j + 1, by omega, by go_num, by first | rfl | rw [hsp]⟩
                      case measure => (simp [intOf] <;> omega)
                    · obtain rfl : m = j := by omega
                      have hrs : (mk (List.replicate m 32)).size = m := by rw [mk_size, List.length_replicate]
                      have hxs : (mk x2).size = x2.length := mk_size x2
                      obtain ⟨L, HL⟩ : ∃ L : Ln, Hid (L = (List.replicate m 32 ++ x2 : Ln)) := ⟨(List.replicate m 32 ++ x2 : Ln), rfl⟩
                      have hap : mk (List.replicate m 32) ++ mk x2 = mk L := by rw [HL.out]; exact mk_appR _ x2
                      have HLN : Hid (L ≠ []) := by rw [HL.out]; intro e; exact hx0 (List.append_eq_nil_iff.1 e).2
                      rw [← HL.out] at HN
                      have HTR : Hid ((trm (acc ++ [L])).length = k + 1) := by rw [trm_last acc L HLN.out, List.length_append, HAL.out]; exact rfl
                      go_wp2_with (first | (at_builtin; refine wpList_append_own _ rfl _ _ 35 rfl (w.heap.size + 1) 9 i0 (.string ⟨#[]⟩) 1 16 Try.underlying35 hi hz0 hz1 hz2 rfl (by decide) _ _ _ rfl (HO.out.alloc _) ⟨wr.heap.size, 0, none⟩ 1 1 [Value.string (mk L)] rfl rfl (cell_one _ _) (str_one _) (by unfold maxLen; omega) (by omega) (by rw [World.size_alloc]; omega) ?_; intro v' w3 hown' hgrow _; have hb3 : Below (w.heap.size + 1) W w3 := (HB.out.alloc hws _).grown hgrow (by rw [World.size_alloc]; omega) (own_block HO.out); have hs3 := hgrow.size; rw [World.size_alloc] at hs3))
                      have HO3 : Hid (w3.ownsRow (w.heap.size + 1) 9 1 v' (acc ++ [L]).length (strV (acc ++ [L]))) := by rw [strV_snoc, List.length_append]; exact hown'
                      clear hown' hgrow
                      go_roundw
                      case rel => exact ⟨k + 1, acc ++ [L], some b0, by omega, by go_num, rfl, by first | rfl | (rw [HTR.out]; done) | (rw [HTR.out]; go_num), by rw [List.length_append, HAL.out]; rfl, (fun b' h => by cases h; omega), HO3.out, hb3, by omega, HN.out⟩
                      case measure => (simp [intOf] <;> omega)
        · have HN : Hid (R = .inl acc) := by rw [HE.out, List.drop_of_length_le (by rw [List.length_take]; omega), lo_nil]; simp [addL, Hid]
          have hkn2 : k = n := by omega
          obtain ⟨a', cap', rfl, hcap, hat⟩ := strs_own HO.out
          have hAT : Hid (∀ u0 u1, StrsAt ((wr.setCell ⟨w.heap.size, 0, none⟩ u0).setCell ⟨w.heap.size, 1, none⟩ u1) a' (trm acc).length (trm acc)) := fun u0 u1 => by
            have hq2 := (strs_of_own (ownsRow_setCell_below (a := ⟨w.heap.size, 1, none⟩) (ownsRow_setCell_below (a := ⟨w.heap.size, 0, none⟩) HO.out (Nat.lt_succ_self _) u0) (Nat.lt_succ_self _) u1)).take (trm acc).length (trm_le acc)
            rw [trm_take] at hq2
            exact hq2
          have hEl := trm_le acc
          rw [HAL.out, hkn2] at hEl
          have hEc : (trm acc).length ≤ cap' := by rw [HAL.out] at hcap; omega
          have HTUP : Hid (∀ w', StrsAt w' a' (trm acc).length (trm acc) → Below w.heap.size w w' → RLines R w (.returned (.tuple #[.slice a' (trm acc).length cap', .int .i64 ((n - (trm acc).length : Nat) : Int), .int .i64 (n : Int), .agg #[.int .i64 0, .int .i64 0]])) w') := fun w' h1 h2 => by
            refine .inl ⟨acc, a', cap', HN.out, ?_, h1, h2⟩
            rw [HAL.out, hkn2]
          rw [HAL.out] at hcap ⊢
          obtain ⟨E, HEE⟩ : ∃ E, Hid (E = (trm acc).length) := ⟨_, rfl⟩
          rw [← HEE.out] at hAT hEl hEc HTUP ⊢
          have hsub : (n : Int) - (E : Int) = ((n - E : Nat) : Int) := by omega
          clear HE hat HO HN
          go_wp2
          refine bodyPost_ret (v := .tuple #[.slice a' E cap', .int .i64 ((n - E : Nat) : Int), .int .i64 (n : Int), .agg #[.int .i64 0, .int .i64 0]]) (by simp [results, Try.results30, go_sem, e0, e1]) rfl (HTUP.out _ (hAT.out _ _) ((e4.setCell (p := ⟨w.heap.size, 0, none⟩) (Nat.le_refl _) _).setCell (p := ⟨w.heap.size, 1, none⟩) (Nat.le_refl _) _))

end Go.Proofs.Ytoamfmockinknaa.Blk
