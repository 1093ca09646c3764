/- The reference's Lay, by its contract. -/
import Derived.Test.YtoamfmockinknaaDoorBlockLayQ
import Derived.Test.YtoamfmockinknaaDoorBlockRsplit
import Derived.Test.YtoamfmockinknaaDoorUtfRef3
namespace Go.Proofs.YtoamfmockinknaaDoor.Blk
open Go.RowKit
open Rws (mk mk_data mk_size mk_of mk_ext mk_get mk_inj has trL is32 lns lns_len lns_mem_len)
open Utf (chk why pos)
set_option linter.unusedSimpArgs false
set_option linter.unusedVariables false
set_option maxRecDepth 100000

theorem byte_eq (y c : UInt8) (n : Nat) (hn : c.toNat = n) : ((y.toNat : Int) == (n : Int)) = (y == c) := by
  rw [Bool.eq_iff_iff]
  simp only [beq_iff_eq]
  constructor
  · intro h; apply UInt8.toNat_inj.1; rw [hn]; omega
  · rintro rfl; rw [hn]
theorem spl_len2 (s : Ln) : (spl s).length ≤ s.length + 1 := by
  induction s with
  | nil => simp [spl]
  | cons b r ih =>
    rw [spl]
    split
    · simp; omega
    · cases h : spl r with
      | nil => simp
      | cons y t => rw [h] at ih; simp at ih ⊢; omega
theorem has_snoc (c : UInt8) (t : Ln) (b : UInt8) : has c (t ++ [b]) = (has c t || b == c) := by unfold has; simp
/-- what the reference's Lay answers -/
def RLay (s : Ln) (w : World) (e : Ending) (w' : World) : Prop :=
  (okC s = true ∧ ∃ a cap, e = .returned (.tuple #[.agg #[.bool false, .int .i64 (chC s)], .slice a (lns s).length cap, .bool true]) ∧ StrsAt w' a (lns s).length (lns s) ∧ Below w.heap.size w w') ∨
  (okC s = false ∧ e = .returned (.tuple #[.agg #[.bool false, .int .i64 0], .slice none 0 0, .bool false]) ∧ Below w.heap.size w w')

set_option maxHeartbeats 16000000 in
theorem rlay_any (s : Ln) (w : World) (hs : s.length ≤ 5000) : Calls Tryd.prog 7 #[.string (mk s)] w fun e w' => RLay s w e w' := by
  have HSP : Hid (∀ W, Calls Tryd.prog 20 #[.string (mk s)] W fun e w' => ∃ v, e = .returned v ∧ w'.ownsRow W.heap.size 9 1 v (spl s).length (strV (spl s)) ∧ Below W.heap.size W w') := fun W => rsplit_any s W (by omega)
  have HCK : Hid (∀ W, Calls Tryd.prog 21 #[.string (mk s)] W fun e w' => e = .returned (.agg #[.int .i64 (why (chk s)), .int .i64 (pos (chk s))]) ∧ Below W.heap.size W w') := fun W => by
    have h := Utf.rcheck_any (mk s) W (by rw [mk_size]; unfold maxLen; omega)
    rw [mk_data] at h
    exact h
  have hwy := why_ok s
  have HOK : Hid (okC s = ((chk s).isNone && (!((spl s).any badL) && (!has 13 s && (decide (fstL (spl s) ≠ []) && !((fstL (spl s)).head? == some 32)))))) := okC_spl s
  have hMl := spl_len2 s
  have HXL : Hid (∀ x ∈ spl s, x.length ≤ 5000) := fun x hx => Nat.le_trans (spl_len s x hx) hs
  have HLL : Hid (okC s = true → (spl s = lns s ∧ ∃ A y, lns s = A ++ [y] ∧ y ≠ [] ∧ chC s = 1) ∨ (spl s = lns s ++ [[]] ∧ ∃ A y, lns s = A ++ [y] ∧ ((y ≠ [] ∧ chC s = 0) ∨ (y = [] ∧ chC s = 2)))) := fun h => by
    have h2 : ((chk s).isNone && !has 13 s && stC false (lns s)) = true := h
    simp only [Bool.and_eq_true, Bool.not_eq_true'] at h2
    exact lay_last s h2.1.2 h2.2
  generalize why (chk s) = yy at *
  generalize pos (chk s) = pp at *
  generalize (chk s).isNone = ck at *
  obtain ⟨b0, hb0⟩ : ∃ b0, b0 = !ck := ⟨_, rfl⟩
  rw [← hb0] at hwy
  have HB0 : Hid (b0 = !ck) := hb0
  clear hb0
  obtain ⟨W, hW⟩ : ∃ W, w.alloc (.cells #[.bool false, .int .i64 0] 28) = W := ⟨_, rfl⟩
  have hbW : Below w.heap.size w W := by rw [← hW]; exact (Below.refl _ _).alloc (Nat.le_refl _) _
  have hWs : W.heap.size = w.heap.size + 1 := by rw [← hW]; simp
  have hcW : W.heap[w.heap.size]? = some (.cells #[.bool false, .int .i64 0] 28 (0, 0)) := by rw [← hW]; exact heap_alloc_new w _
  have HKK : Hid (∀ W2, Below (w.heap.size + 1) W W2 → Below w.heap.size w W2 ∧ W2.cell? ⟨w.heap.size, 0, none⟩ = some (.bool false) ∧ W2.cell? ⟨w.heap.size, 1, none⟩ = some (.int .i64 0) ∧ W2.frozen? ⟨w.heap.size, 0, none⟩ = false ∧ W2.frozen? ⟨w.heap.size, 1, none⟩ = false) := fun W2 hb => by
    have hk : W2.heap[w.heap.size]? = some (.cells #[.bool false, .int .i64 0] 28 (0, 0)) := (hb.block _ (by omega)).trans hcW
    exact ⟨hbW.trans (hb.mono (by omega)), by rw [Lib.cell_of_heap hk]; rfl, by rw [Lib.cell_of_heap hk]; rfl, Lib.frozen_of_heap hk 0, Lib.frozen_of_heap hk 1⟩
  have HWS : Hid (W.heap.size = w.heap.size + 1) := hWs
  clear hbW hcW hWs
  go_enter Tryd.func7, Tryd.ntmps7
  go_wp2_with fail
  clear hW
  refine (HSP.out _).mono ?_
  rintro e w1 ⟨v, rfl, hown, hb1⟩
  rw [HWS.out] at hown hb1
  obtain ⟨a1, cap1, rfl, hcap, hat⟩ := strs_own hown
  obtain ⟨l, hl⟩ : ∃ l, l = spl s := ⟨_, rfl⟩
  rw [← hl] at HOK HXL HLL hMl hown hcap hat ⊢
  have HLS : Hid (l = spl s) := hl
  clear hl HSP
  obtain ⟨M, hM⟩ : ∃ M, M = l.length := ⟨_, rfl⟩
  rw [← hM] at hMl hown hcap hat ⊢
  have HO : Hid (w1.ownsRow (w.heap.size + 1) 9 1 (.slice a1 M cap1) M (strV l)) := hown
  have HAT : Hid (StrsAt w1 a1 M l) := hat
  have HML : Hid (M = l.length) := hM
  have s1 : w.heap.size + 1 ≤ w1.heap.size := by have := hb1.size; have := HWS.out; omega
  clear hown hat hM
  go_wp2_with fail
  refine (HCK.out _).mono ?_
  rintro e w2 ⟨rfl, hb2⟩
  clear HCK
  have s2 := hb2.size
  obtain ⟨W3, hW3⟩ : ∃ W3, w2.alloc (.cells #[.int .i64 yy, .int .i64 pp] 39) = W3 := ⟨_, rfl⟩
  have hc3 : W3.heap[w2.heap.size]? = some (.cells #[.int .i64 yy, .int .i64 pp] 39 (0, 0)) := by rw [← hW3]; exact heap_alloc_new w2 _
  have y0 : W3.cell? ⟨w2.heap.size, 0, none⟩ = some (.int .i64 yy) := by rw [Lib.cell_of_heap hc3]; rfl
  have y1 : W3.cell? ⟨w2.heap.size, 1, none⟩ = some (.int .i64 pp) := by rw [Lib.cell_of_heap hc3]; rfl
  have B13 : Below w1.heap.size w1 W3 := by rw [← hW3]; exact hb2.alloc s2 _
  have hB3 : Below (w.heap.size + 1) W W3 := hb1.trans (B13.mono s1)
  have HA3 : Hid (StrsAt W3 a1 M l) := HAT.out.later B13 (Nat.le_refl _)
  have HO3 : Hid (W3.ownsRow (w.heap.size + 1) 9 1 (.slice a1 M cap1) M (strV l)) := own_later HO.out B13
  obtain ⟨bw0, d0, d1, d2, d3⟩ := HKK.out _ hB3
  clear hb2 hc3 HKK HO HAT
  have hssz : (mk s).size = s.length := mk_size s
  go_wp2_with fail
  clear hW3 y0 y1
  go_loop [7, 8, 9] (fun uf ub ui => ∃ (k : Nat) (B : Bool) (F : Ln), k ≤ M ∧ ui = .int .i64 (k : Int) ∧ ub = .bool B ∧ uf = .string (mk F) ∧ B = (b0 || (l.take k).any badL) ∧ F = fstL (l.take k)) (fun _ _ ui => M - (intOf ui).toNat)
  case atStart => exact ⟨0, b0, [], Nat.zero_le _, rfl, by first | rfl | (rw [hwy]), rfl, by simp, rfl⟩
  case round =>
    obtain ⟨k, B, F, hk, rfl, rfl, rfl, hB, hF⟩ := hrel
    have HB : Hid (B = (b0 || (l.take k).any badL)) := hB
    have HF : Hid (F = fstL (l.take k)) := hF
    clear hB hF
    by_cases hlt : k < M
    · obtain ⟨b, off, rfl, hbb, hcc⟩ := HA3.out.2 (by omega)
      have c0 := hcc k hlt
      have hkx : k < l.length := by rw [← HML.out]; exact hlt
      have HTK : Hid (l.take (k + 1) = l.take k ++ [l.getD k []]) := take_getD l k hkx
      have hxl := HXL.out (l.getD k []) (by rw [List.getD_eq_getElem?_getD, List.getElem?_eq_getElem hkx]; exact List.getElem_mem _)
      obtain ⟨x, hx⟩ : ∃ x, x = l.getD k [] := ⟨_, rfl⟩
      rw [← hx] at c0 HTK hxl
      clear hx hcc hkx
      obtain ⟨nx, hnx⟩ : ∃ nx, nx = nb x := ⟨_, rfl⟩
      have hnl : nx ≤ x.length := by rw [hnx]; exact nb_le x
      have HGT : Hid (∀ j, j < nx → x.getD j 0 = 32) := fun j hj => nb_get x j (by rw [← hnx]; exact hj)
      have HST : Hid (nx < x.length → x.getD nx 0 ≠ 32) := fun hj => by rw [hnx] at hj ⊢; exact nb_stop x hj
      have HNX : Hid (nx = nb x) := hnx
      clear hnx
      have hsz : (mk x).size = x.length := mk_size x
      have HGM : Hid (∀ j, ∀ h, (mk x)[j]'h = x.getD j 0) := fun j h => by
        rw [mk_get, List.getD_eq_getElem?_getD, List.getElem?_eq_getElem (by rw [mk_size] at h; exact h)]; rfl
      go_wp2
      go_loop [11] (fun un => ∃ j : Nat, j ≤ nx ∧ un = .int .i64 (j : Int)) (fun un => nx - (intOf un).toNat)
      case atStart => exact ⟨0, Nat.zero_le _, rfl⟩
      case round =>
        obtain ⟨j, hj, rfl⟩ := hrel
        by_cases hjn : j < nx
        · have hg : ∀ h, (mk x)[j]'h = 32 := fun h => by rw [HGM.out j h]; exact HGT.out j hjn
          have h32 : ((32 : UInt8).toNat : Int) = 32 := rfl
          have hjl : j < x.length := by omega
          go_wp2
          go_round
          case rel => exact ⟨j + 1, by omega, by go_num⟩
          case measure => (simp [intOf] <;> omega)
        · obtain rfl : nx = j := by omega
          by_cases hjl : nx < x.length
          · obtain ⟨q, hq⟩ : ∃ q, q = x.getD nx 0 := ⟨_, rfl⟩
            have hgq : ∀ h, (mk x)[nx]'h = q := fun h => by rw [HGM.out nx h, hq]
            have hq32 : ((q.toNat : Int) == 32) = false := by
              rw [show (32 : Int) = ((32 : Nat) : Int) from rfl, byte_eq q 32 32 rfl, beq_eq_false_iff_ne, hq]
              exact HST.out hjl
            have hq9 : ((q.toNat : Int) == 9) = (q == 9) := by rw [show (9 : Int) = ((9 : Nat) : Int) from rfl]; exact byte_eq q 9 9 rfl
            have HH9 : Hid (((trL x).head? == some 9) = (q == 9)) := by rw [head9, ← HNX.out, ← hq, decide_eq_true hjl, Bool.true_and]; exact rfl
            clear hq
            have hx0 : x ≠ [] := by intro e; rw [e] at hjl; simp at hjl
            have hxq : ((mk x).toList == []) = false := by rw [mk_nil_eq]; simpa using hx0
            obtain ⟨r, z, hz⟩ := Rws.snoc_ex x hx0
            have hgz : ∀ h, (mk x)[x.length - 1]'h = z := fun h => by rw [HGM.out, hz]; simp
            have HLZ : Hid ((x.getLast? == some 32) = (z == 32)) := by rw [hz]; simp [Hid]
            have hz32 : ((z.toNat : Int) == 32) = (z == 32) := by rw [show (32 : Int) = ((32 : Nat) : Int) from rfl]; exact byte_eq z 32 32 rfl
            clear hz
            cases B
            · cases hzz : (z == 32)
              · rw [hzz] at hz32 HLZ
                cases hqq : (q == 9)
                · rw [hqq] at hq9 HH9
                  have HBL : Hid (badL x = false) := by unfold badL; rw [HLZ.out, HH9.out]; exact rfl
                  have HBN : Hid (false = (b0 || (l.take (k + 1)).any badL)) := by rw [HTK.out, any_snoc, ← Bool.or_assoc, ← HB.out, HBL.out]; exact rfl
                  by_cases hF0 : F = []
                  · have HFN : Hid (x = fstL (l.take (k + 1))) := by rw [HTK.out, fstL_snoc, ← HF.out, if_pos hF0]; exact rfl
                    rw [hF0, show mk [] = (⟨#[]⟩ : ByteArray) from rfl]
                    go_wp2
                    go_round
                    case rel => exact ⟨k + 1, false, x, by omega, by go_num, rfl, rfl, HBN.out, HFN.out⟩
                    case measure => (simp [intOf] <;> omega)
                  · have HFN : Hid (F = fstL (l.take (k + 1))) := by rw [HTK.out, fstL_snoc, ← HF.out, if_neg hF0]; exact rfl
                    have hFq : ((mk F).toList == []) = false := by rw [mk_nil_eq]; simpa using hF0
                    go_wp2
                    go_round
                    case rel => exact ⟨k + 1, false, F, by omega, by go_num, rfl, rfl, HBN.out, HFN.out⟩
                    case measure => (simp [intOf] <;> omega)
                · rw [hqq] at hq9 HH9
                  have HBL : Hid (badL x = true) := by unfold badL; rw [HLZ.out, HH9.out]; exact rfl
                  have HBN : Hid (true = (b0 || (l.take (k + 1)).any badL)) := by rw [HTK.out, any_snoc, ← Bool.or_assoc, ← HB.out, HBL.out]; exact rfl
                  by_cases hF0 : F = []
                  · have HFN : Hid (x = fstL (l.take (k + 1))) := by rw [HTK.out, fstL_snoc, ← HF.out, if_pos hF0]; exact rfl
                    rw [hF0, show mk [] = (⟨#[]⟩ : ByteArray) from rfl]
                    go_wp2
                    go_round
                    case rel => exact ⟨k + 1, true, x, by omega, by go_num, rfl, rfl, HBN.out, HFN.out⟩
                    case measure => (simp [intOf] <;> omega)
                  · have HFN : Hid (F = fstL (l.take (k + 1))) := by rw [HTK.out, fstL_snoc, ← HF.out, if_neg hF0]; exact rfl
                    have hFq : ((mk F).toList == []) = false := by rw [mk_nil_eq]; simpa using hF0
                    go_wp2
                    go_round
                    case rel => exact ⟨k + 1, true, F, by omega, by go_num, rfl, rfl, HBN.out, HFN.out⟩
                    case measure => (simp [intOf] <;> omega)
              · rw [hzz] at hz32 HLZ
                have HBL : Hid (badL x = true) := by unfold badL; rw [HLZ.out]; exact rfl
                have HBN : Hid (true = (b0 || (l.take (k + 1)).any badL)) := by rw [HTK.out, any_snoc, ← Bool.or_assoc, ← HB.out, HBL.out]; exact rfl
                by_cases hF0 : F = []
                · have HFN : Hid (x = fstL (l.take (k + 1))) := by rw [HTK.out, fstL_snoc, ← HF.out, if_pos hF0]; exact rfl
                  rw [hF0, show mk [] = (⟨#[]⟩ : ByteArray) from rfl]
                  go_wp2
                  go_round
                  case rel => exact ⟨k + 1, true, x, by omega, by go_num, rfl, rfl, HBN.out, HFN.out⟩
                  case measure => (simp [intOf] <;> omega)
                · have HFN : Hid (F = fstL (l.take (k + 1))) := by rw [HTK.out, fstL_snoc, ← HF.out, if_neg hF0]; exact rfl
                  have hFq : ((mk F).toList == []) = false := by rw [mk_nil_eq]; simpa using hF0
                  go_wp2
                  go_round
                  case rel => exact ⟨k + 1, true, F, by omega, by go_num, rfl, rfl, HBN.out, HFN.out⟩
                  case measure => (simp [intOf] <;> omega)
            · have HBN : Hid (true = (b0 || (l.take (k + 1)).any badL)) := by rw [HTK.out, any_snoc, ← Bool.or_assoc, ← HB.out, Bool.true_or]; exact rfl
              by_cases hF0 : F = []
              · have HFN : Hid (x = fstL (l.take (k + 1))) := by rw [HTK.out, fstL_snoc, ← HF.out, if_pos hF0]; exact rfl
                rw [hF0, show mk [] = (⟨#[]⟩ : ByteArray) from rfl]
                go_wp2
                go_round
                case rel => exact ⟨k + 1, true, x, by omega, by go_num, rfl, rfl, HBN.out, HFN.out⟩
                case measure => (simp [intOf] <;> omega)
              · have HFN : Hid (F = fstL (l.take (k + 1))) := by rw [HTK.out, fstL_snoc, ← HF.out, if_neg hF0]; exact rfl
                have hFq : ((mk F).toList == []) = false := by rw [mk_nil_eq]; simpa using hF0
                go_wp2
                go_round
                case rel => exact ⟨k + 1, true, F, by omega, by go_num, rfl, rfl, HBN.out, HFN.out⟩
                case measure => (simp [intOf] <;> omega)
          · by_cases hx0 : x = []
            · have HBL : Hid (badL x = false) := by rw [hx0]; exact rfl
              have hxl0 : x.length = 0 := by rw [hx0]; rfl
              rw [hx0, show mk [] = (⟨#[]⟩ : ByteArray) from rfl]
              have hes : (⟨#[]⟩ : ByteArray).size = 0 := rfl
              have hnx0 : nx = 0 := by omega
              cases B
              · have HBN : Hid (false = (b0 || (l.take (k + 1)).any badL)) := by rw [HTK.out, any_snoc, ← Bool.or_assoc, ← HB.out, HBL.out]; exact rfl
                by_cases hF0 : F = []
                · have HFN : Hid (([] : Ln) = fstL (l.take (k + 1))) := by rw [HTK.out, fstL_snoc, ← HF.out, if_pos hF0, hx0]; exact rfl
                  rw [hF0, show mk [] = (⟨#[]⟩ : ByteArray) from rfl]
                  go_wp2
                  go_round
                  case rel => exact ⟨k + 1, false, [], by omega, by go_num, rfl, rfl, HBN.out, HFN.out⟩
                  case measure => (simp [intOf] <;> omega)
                · have HFN : Hid (F = fstL (l.take (k + 1))) := by rw [HTK.out, fstL_snoc, ← HF.out, if_neg hF0]; exact rfl
                  have hFq : ((mk F).toList == []) = false := by rw [mk_nil_eq]; simpa using hF0
                  go_wp2
                  go_round
                  case rel => exact ⟨k + 1, false, F, by omega, by go_num, rfl, rfl, HBN.out, HFN.out⟩
                  case measure => (simp [intOf] <;> omega)
              · have HBN : Hid (true = (b0 || (l.take (k + 1)).any badL)) := by rw [HTK.out, any_snoc, ← Bool.or_assoc, ← HB.out, Bool.true_or]; exact rfl
                by_cases hF0 : F = []
                · have HFN : Hid (([] : Ln) = fstL (l.take (k + 1))) := by rw [HTK.out, fstL_snoc, ← HF.out, if_pos hF0, hx0]; exact rfl
                  rw [hF0, show mk [] = (⟨#[]⟩ : ByteArray) from rfl]
                  go_wp2
                  go_round
                  case rel => exact ⟨k + 1, true, [], by omega, by go_num, rfl, rfl, HBN.out, HFN.out⟩
                  case measure => (simp [intOf] <;> omega)
                · have HFN : Hid (F = fstL (l.take (k + 1))) := by rw [HTK.out, fstL_snoc, ← HF.out, if_neg hF0]; exact rfl
                  have hFq : ((mk F).toList == []) = false := by rw [mk_nil_eq]; simpa using hF0
                  go_wp2
                  go_round
                  case rel => exact ⟨k + 1, true, F, by omega, by go_num, rfl, rfl, HBN.out, HFN.out⟩
                  case measure => (simp [intOf] <;> omega)
            · have hxq : ((mk x).toList == []) = false := by rw [mk_nil_eq]; simpa using hx0
              have hxp : 1 ≤ x.length := List.length_pos_iff.2 hx0
              obtain ⟨r, z, hz⟩ := Rws.snoc_ex x hx0
              have hgz : ∀ h, (mk x)[x.length - 1]'h = z := fun h => by rw [HGM.out, hz]; simp
              have hz32 : ((z.toNat : Int) == 32) = true := by
                have h1 := HGT.out (x.length - 1) (by have := List.length_pos_iff.2 hx0; omega)
                have h2 : x.getD (x.length - 1) 0 = z := by rw [hz]; simp
                rw [h2] at h1
                rw [h1]; rfl
              have HBL : Hid (badL x = true) := by
                have h1 := HGT.out (x.length - 1) (by have := List.length_pos_iff.2 hx0; omega)
                have h2 : x.getD (x.length - 1) 0 = z := by rw [hz]; simp
                rw [h2] at h1
                unfold badL
                rw [hz, h1]; simp [Hid]
              clear hz
              cases B
              · have HBN : Hid (true = (b0 || (l.take (k + 1)).any badL)) := by rw [HTK.out, any_snoc, ← Bool.or_assoc, ← HB.out, HBL.out]; exact rfl
                by_cases hF0 : F = []
                · have HFN : Hid (x = fstL (l.take (k + 1))) := by rw [HTK.out, fstL_snoc, ← HF.out, if_pos hF0]; exact rfl
                  rw [hF0, show mk [] = (⟨#[]⟩ : ByteArray) from rfl]
                  go_wp2
                  go_round
                  case rel => exact ⟨k + 1, true, x, by omega, by go_num, rfl, rfl, HBN.out, HFN.out⟩
                  case measure => (simp [intOf] <;> omega)
                · have HFN : Hid (F = fstL (l.take (k + 1))) := by rw [HTK.out, fstL_snoc, ← HF.out, if_neg hF0]; exact rfl
                  have hFq : ((mk F).toList == []) = false := by rw [mk_nil_eq]; simpa using hF0
                  go_wp2
                  go_round
                  case rel => exact ⟨k + 1, true, F, by omega, by go_num, rfl, rfl, HBN.out, HFN.out⟩
                  case measure => (simp [intOf] <;> omega)
              · have HBN : Hid (true = (b0 || (l.take (k + 1)).any badL)) := by rw [HTK.out, any_snoc, ← Bool.or_assoc, ← HB.out, Bool.true_or]; exact rfl
                by_cases hF0 : F = []
                · have HFN : Hid (x = fstL (l.take (k + 1))) := by rw [HTK.out, fstL_snoc, ← HF.out, if_pos hF0]; exact rfl
                  rw [hF0, show mk [] = (⟨#[]⟩ : ByteArray) from rfl]
                  go_wp2
                  go_round
                  case rel => exact ⟨k + 1, true, x, by omega, by go_num, rfl, rfl, HBN.out, HFN.out⟩
                  case measure => (simp [intOf] <;> omega)
                · have HFN : Hid (F = fstL (l.take (k + 1))) := by rw [HTK.out, fstL_snoc, ← HF.out, if_neg hF0]; exact rfl
                  have hFq : ((mk F).toList == []) = false := by rw [mk_nil_eq]; simpa using hF0
                  go_wp2
                  go_round
                  case rel => exact ⟨k + 1, true, F, by omega, by go_num, rfl, rfl, HBN.out, HFN.out⟩
                  case measure => (simp [intOf] <;> omega)
    · have HB1 : Hid (B = (b0 || l.any badL)) := by rw [HB.out, List.take_of_length_le (by rw [← HML.out]; omega)]; exact rfl
      have HF1 : Hid (F = fstL l) := by rw [HF.out, List.take_of_length_le (by rw [← HML.out]; omega)]; exact rfl
      clear HB HF
      go_wp2
      go_loop [8, 12] (fun ub ui => ∃ (j : Nat) (B2 : Bool), j ≤ s.length ∧ ui = .int .i64 (j : Int) ∧ ub = .bool B2 ∧ B2 = (B || has 13 (s.take j))) (fun _ ui => s.length - (intOf ui).toNat)
      case atStart => exact ⟨0, B, Nat.zero_le _, rfl, rfl, by simp [has]⟩
      case round =>
        obtain ⟨j, B2, hj, rfl, rfl, hB2⟩ := hrel
        have HB2 : Hid (B2 = (B || has 13 (s.take j))) := hB2
        clear hB2
        by_cases hjl : j < s.length
        · obtain ⟨y, hy⟩ : ∃ y, y = s.getD j 0 := ⟨_, rfl⟩
          have HTJ : Hid (s.take (j + 1) = s.take j ++ [y]) := by
            rw [hy, List.take_succ_eq_append_getElem hjl, List.getD_eq_getElem?_getD, List.getElem?_eq_getElem hjl]; exact rfl
          have hg : ∀ h, (mk s)[j]'h = y := fun h => by rw [mk_get, hy, List.getD_eq_getElem?_getD, List.getElem?_eq_getElem hjl]; rfl
          have hy13 : ((y.toNat : Int) == 13) = (y == 13) := by rw [show (13 : Int) = ((13 : Nat) : Int) from rfl]; exact byte_eq y 13 13 rfl
          clear hy
          cases B2
          · cases hyy : (y == 13)
            · rw [hyy] at hy13
              have HN2 : Hid (false = (B || has 13 (s.take (j + 1)))) := by rw [HTJ.out, has_snoc, ← Bool.or_assoc, ← HB2.out, hyy]; exact rfl
              go_wp2
              go_round
              case rel => exact ⟨j + 1, false, by omega, by go_num, rfl, HN2.out⟩
              case measure => (simp [intOf] <;> omega)
            · rw [hyy] at hy13
              have HN2 : Hid (true = (B || has 13 (s.take (j + 1)))) := by rw [HTJ.out, has_snoc, ← Bool.or_assoc, ← HB2.out, hyy]; exact rfl
              go_wp2
              go_round
              case rel => exact ⟨j + 1, true, by omega, by go_num, rfl, HN2.out⟩
              case measure => (simp [intOf] <;> omega)
          · have HN2 : Hid (true = (B || has 13 (s.take (j + 1)))) := by rw [HTJ.out, has_snoc, ← Bool.or_assoc, ← HB2.out]; exact rfl
            go_wp2
            go_round
            case rel => exact ⟨j + 1, true, by omega, by go_num, rfl, HN2.out⟩
            case measure => (simp [intOf] <;> omega)
        · have HBF : Hid (okC s = (!B2 && (decide (F ≠ []) && !(F.head? == some 32)))) := by
            have h1 : s.take j = s := List.take_of_length_le (by omega)
            rw [HOK.out, HB2.out, h1, HB1.out, HB0.out, ← HF1.out]
            cases ck <;> cases l.any badL <;> cases has 13 s <;> simp [Hid]
          clear HB2 HB1 HF1 HOK
          cases B2
          · cases F with
            | nil =>
              have HBAD : Hid (okC s = false) := by rw [HBF.out]; exact rfl
              rw [show mk [] = (⟨#[]⟩ : ByteArray) from rfl]
              go_wp2
              refine bodyPost_ret (v := .tuple #[.agg #[.bool false, .int .i64 0], .slice none 0 0, .bool false]) (by simp [results, Tryd.results7, go_sem, d0, d1]) rfl (.inr ⟨HBAD.out, rfl, (bw0.setCell (p := ⟨w.heap.size, 0, none⟩) (Nat.le_refl _) _).setCell (p := ⟨w.heap.size, 1, none⟩) (Nat.le_refl _) _⟩)
            | cons fb ft =>
              have hFq : ((mk (fb :: ft)).toList == []) = false := by rw [mk_nil_eq]; simp
              have hFs : (mk (fb :: ft)).size = ft.length + 1 := by rw [mk_size]; rfl
              have hFg : ∀ h, (mk (fb :: ft))[0]'h = fb := fun h => by rw [mk_get]; rfl
              have hf32 : ((fb.toNat : Int) == 32) = (fb == 32) := by rw [show (32 : Int) = ((32 : Nat) : Int) from rfl]; exact byte_eq fb 32 32 rfl
              cases hff : (fb == 32)
              · rw [hff] at hf32
                have HOKK : Hid (okC s = true) := by rw [HBF.out]; simp at hff; simp [Hid, hff]
                rcases HLL.out HOKK.out with ⟨h1, A, z, h2, h3, h4⟩ | ⟨h1, A, z, h2, h3⟩
                · obtain ⟨P, hP⟩ : ∃ P, P = A.length := ⟨_, rfl⟩
                  have hMP : M = P + 1 := by rw [HML.out, h1, h2, List.length_append, hP]; rfl
                  obtain ⟨b, off, rfl, hbb, hcc⟩ := HA3.out.2 (by omega)
                  have c0 := hcc P (by omega)
                  rw [show l.getD P [] = z by rw [h1, h2, hP, List.getD_eq_getElem?_getD]; simp] at c0
                  have hzq : ((mk z).toList == []) = false := by rw [mk_nil_eq]; simpa using h3
                  have HCH : Hid (chC s = 1) := h4
                  have HNL : Hid ((lns s).length = P + 1) := by rw [h2, List.length_append, hP]; exact rfl
                  have HSF : Hid (∀ u0 u1, StrsAt ((W3.setCell ⟨w.heap.size, 0, none⟩ u0).setCell ⟨w.heap.size, 1, none⟩ u1) (some ⟨b, off, none⟩) (P + 1) (lns s)) := fun u0 u1 => by
                    have hq2 := strs_of_own (xs := l) (a := some ⟨b, off, none⟩) (cap := cap1) (ownsRow_setCell_below (a := ⟨w.heap.size, 1, none⟩) (ownsRow_setCell_below (a := ⟨w.heap.size, 0, none⟩) (by rw [← HML.out]; exact HO3.out) (Nat.lt_succ_self _) u0) (Nat.lt_succ_self _) u1)
                    rw [← HML.out, hMP, h1] at hq2
                    exact hq2
                  clear h1 h2 h3 h4 hcc HLL hP HA3 HO3 HLS HXL HML
                  subst hMP
                  go_wp2
                  refine bodyPost_ret (v := .tuple #[.agg #[.bool false, .int .i64 1], .slice (some ⟨b, off, none⟩) (P + 1) cap1, .bool true]) (by simp [results, Tryd.results7, go_sem, d0, d1]) rfl (.inl ⟨HOKK.out, some ⟨b, off, none⟩, cap1, by rw [HCH.out, HNL.out], ?_, (bw0.setCell (p := ⟨w.heap.size, 0, none⟩) (Nat.le_refl _) _).setCell (p := ⟨w.heap.size, 1, none⟩) (Nat.le_refl _) _⟩)
                  rw [HNL.out]
                  exact HSF.out _ _
                · obtain ⟨P, hP⟩ : ∃ P, P = A.length := ⟨_, rfl⟩
                  have hMP : M = P + 2 := by rw [HML.out, h1, h2, List.length_append, List.length_append, hP]; rfl
                  obtain ⟨b, off, rfl, hbb, hcc⟩ := HA3.out.2 (by omega)
                  have c0 := hcc P (by omega)
                  have c1 := hcc (P + 1) (by omega)
                  rw [show l.getD P [] = z by rw [h1, h2, hP, List.getD_eq_getElem?_getD]; simp] at c0
                  rw [show l.getD (P + 1) [] = [] by rw [h1, h2, hP, List.getD_eq_getElem?_getD]; simp, show mk [] = (⟨#[]⟩ : ByteArray) from rfl] at c1
                  have HNL : Hid ((lns s).length = P + 1) := by rw [h2, List.length_append, hP]; exact rfl
                  have HSF : Hid (∀ u0 u1, StrsAt ((W3.drew.setCell ⟨w.heap.size, 0, none⟩ u0).setCell ⟨w.heap.size, 1, none⟩ u1) (some ⟨b, off, none⟩) (P + 1) (lns s)) := fun u0 u1 => by
                    have hq2 := (strs_of_own (xs := l) (a := some ⟨b, off, none⟩) (cap := cap1) (ownsRow_setCell_below (a := ⟨w.heap.size, 1, none⟩) (ownsRow_setCell_below (a := ⟨w.heap.size, 0, none⟩) (by rw [← HML.out]; exact HO3.out.drew) (Nat.lt_succ_self _) u0) (Nat.lt_succ_self _) u1)).take (P + 1) (by rw [← HML.out]; omega)
                    rw [h1, ← HNL.out, List.take_left'] at hq2
                    · rw [HNL.out] at hq2; exact hq2
                    · rfl
                  rcases h3 with ⟨h3, h4⟩ | ⟨h3, h4⟩
                  · have hzq : ((mk z).toList == []) = false := by rw [mk_nil_eq]; simpa using h3
                    have HCH : Hid (chC s = 0) := h4
                    clear h1 h2 h3 h4 hcc HLL hP HA3 HO3 HLS HXL HML
                    subst hMP
                    go_wp2
                    go_region
                    all_goals (
                      go_wp2
                      refine bodyPost_ret (v := .tuple #[.agg #[.bool false, .int .i64 0], .slice (some ⟨b, off, none⟩) (P + 1) cap1, .bool true]) (by simp [results, Tryd.results7, go_sem, d0, d1]) rfl (.inl ⟨HOKK.out, some ⟨b, off, none⟩, cap1, by rw [HCH.out, HNL.out], ?_, (bw0.drew.setCell (p := ⟨w.heap.size, 0, none⟩) (Nat.le_refl _) _).setCell (p := ⟨w.heap.size, 1, none⟩) (Nat.le_refl _) _⟩)
                      rw [HNL.out]
                      exact HSF.out _ _)
                  · rw [h3, show mk [] = (⟨#[]⟩ : ByteArray) from rfl] at c0
                    have HCH : Hid (chC s = 2) := h4
                    clear h1 h2 h3 h4 hcc HLL hP HA3 HO3 HLS HXL HML
                    subst hMP
                    go_wp2
                    go_region
                    all_goals (
                      go_wp2
                      refine bodyPost_ret (v := .tuple #[.agg #[.bool false, .int .i64 2], .slice (some ⟨b, off, none⟩) (P + 1) cap1, .bool true]) (by simp [results, Tryd.results7, go_sem, d0, d1]) rfl (.inl ⟨HOKK.out, some ⟨b, off, none⟩, cap1, by rw [HCH.out, HNL.out], ?_, (bw0.drew.setCell (p := ⟨w.heap.size, 0, none⟩) (Nat.le_refl _) _).setCell (p := ⟨w.heap.size, 1, none⟩) (Nat.le_refl _) _⟩)
                      rw [HNL.out]
                      exact HSF.out _ _)
              · rw [hff] at hf32
                have HBAD : Hid (okC s = false) := by rw [HBF.out]; simp at hff; simp [Hid, hff]
                go_wp2
                refine bodyPost_ret (v := .tuple #[.agg #[.bool false, .int .i64 0], .slice none 0 0, .bool false]) (by simp [results, Tryd.results7, go_sem, d0, d1]) rfl (.inr ⟨HBAD.out, rfl, (bw0.setCell (p := ⟨w.heap.size, 0, none⟩) (Nat.le_refl _) _).setCell (p := ⟨w.heap.size, 1, none⟩) (Nat.le_refl _) _⟩)
          · have HBAD : Hid (okC s = false) := by rw [HBF.out]; exact rfl
            go_wp2
            refine bodyPost_ret (v := .tuple #[.agg #[.bool false, .int .i64 0], .slice none 0 0, .bool false]) (by simp [results, Tryd.results7, go_sem, d0, d1]) rfl (.inr ⟨HBAD.out, rfl, (bw0.setCell (p := ⟨w.heap.size, 0, none⟩) (Nat.le_refl _) _).setCell (p := ⟨w.heap.size, 1, none⟩) (Nat.le_refl _) _⟩)

end Go.Proofs.YtoamfmockinknaaDoor.Blk
