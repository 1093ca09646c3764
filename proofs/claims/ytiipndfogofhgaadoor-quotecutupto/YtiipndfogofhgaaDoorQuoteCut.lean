/- The law QuoteCut: it answers true. -/
import Derived.Test.YtiipndfogofhgaaDoorQuoteAlive
import Derived.Test.YtiipndfogofhgaaDoorQuoteMax
import Derived.Test.YtiipndfogofhgaaDoorQuotePlain4
namespace Go.Proofs.YtiipndfogofhgaaDoor.Quo
open Utf Rws
open Go.RowKit
set_option linter.unusedSimpArgs false
set_option linter.unusedVariables false
set_option maxRecDepth 100000

theorem bit_rest2 (c : UInt8) : (bits .and .u8 (c.toNat : Int) 192 == 128) = isRestB c := by
  have h := all8 (p := fun n => (bits .and .u8 (n : Int) 192 == 128) == (decide (128 ≤ n) && decide (n < 192))) (by decide +kernel) c
  simpa [isRestB] using h
theorem cut_len (l : List UInt8) : (dbl l).length ≤ 10 * l.length + 2 := by
  unfold dbl
  have h1 := escs_le (dec l).1
  have h2 := dec_len l.length l (Nat.le_refl _)
  simp only [List.length_cons, List.length_append, List.length_nil]
  omega
theorem cut_len2 (l : List UInt8) : (sng l).length ≤ 2 * l.length + 2 := by unfold sng; have := dup_len l; simp; omega

/-- the place that the statement cuts at -/
theorem place_of (k : Int) (N : Nat) (hN : 2 ≤ N) (hN2 : N ≤ 100000000) : ∃ A : Nat, 1 ≤ A ∧ A < N ∧ wrap64 (1 + (wrap64 (wrap64 (k.tmod ((N : Int) - 1) + (N : Int)) - 1)).tmod ((N : Int) - 1)) = (A : Int) := by
  have h0 : (0 : Int) < (N : Int) - 1 := by omega
  have h1 := Int.tmod_lt_of_pos k h0
  have h2 := Int.lt_tmod_of_pos k h0
  generalize k.tmod ((N : Int) - 1) = x at *
  have e1 : wrap64 (x + (N : Int)) = x + N := by unfold wrap64; omega
  have e2 : wrap64 (x + (N : Int) - 1) = x + N - 1 := by unfold wrap64; omega
  rw [e1, e2, Int.tmod_eq_emod_of_nonneg (by omega)]
  have h3 := Int.emod_nonneg (x + N - 1) (show ((N : Int) - 1) ≠ 0 by omega)
  have h4 := Int.emod_lt_of_pos (x + N - 1) h0
  generalize (x + (N : Int) - 1) % ((N : Int) - 1) = y at *
  refine ⟨(1 + y).toNat, by omega, by omega, ?_⟩
  unfold wrap64
  omega

set_option maxHeartbeats 2000000 in
theorem cut_walk_d (l : List UInt8) (k : Int) (w : World) (hs : l.length ≤ 1048576) (hT : Tabs w) (hM : Mx w) (hd : (dec l).2 = none) :
    Calls Tryd.prog 7 #[.string (mk l), .bool true, .int .i64 k] w fun e w' => e = .returned (.bool true) ∧ Below w.heap.size w w' := by
  have HT : Hid (Tabs w) := hT
  obtain ⟨Q, hQ⟩ : ∃ Q, Q = dbl l := ⟨_, rfl⟩
  have hql := cut_len l
  rw [← hQ] at hql
  have hSN := single_any l w (by omega) hM
  obtain ⟨S, hS⟩ : ∃ S, S = sngS l := ⟨_, rfl⟩
  obtain ⟨E, hE⟩ : ∃ E, E = sngE l := ⟨_, rfl⟩
  rw [← hS, ← hE] at hSN
  have HSN : Hid (Calls Tryd.prog 12 #[.string (mk l)] w fun e w' => e = .returned (.tuple #[.string (mk S), .int .i64 E]) ∧ Below w.heap.size w w') := hSN
  have HDB : Hid (∀ w, Tabs w → Calls Tryd.prog 14 #[.string (mk l)] w fun e w' => e = .returned (.tuple #[.string (mk Q), .int .i64 0]) ∧ Below w.heap.size w w') := fun w hT => by
    have q := double_any l w (by omega) hT
    rw [dblS_yes hd, dblE_yes hd, ← hQ] at q; exact q
  clear hSN hS hE hT hM
  have hQ2 : 2 ≤ Q.length := by rw [hQ]; unfold dbl; simp
  have hQz : (mk Q).size = Q.length := mk_size Q
  obtain ⟨A, hA1, hA2, hcut⟩ := place_of k Q.length hQ2 (by omega)
  have hQl : Q.length ≤ 100000000 := by omega
  have hne : Q.drop A ≠ [] := by intro e; have := congrArg List.length e; rw [List.length_drop] at this; simp at this; omega
  have hfk := fk_pos _ hne
  obtain ⟨F, hF⟩ : ∃ F, F = (fst (Q.drop A)).1 := ⟨_, rfl⟩
  obtain ⟨G, hG⟩ : ∃ G, G = fk (Q.drop A) := ⟨_, rfl⟩
  have HFI : Hid (∀ w, Calls Tryd.prog 20 #[.string ((mk Q).extract A Q.length)] w fun e w' => e = .returned (.tuple #[.int .i64 F, .int .i64 (G : Int)]) ∧ w = w') := fun w => by
    have q := firstAt_any (mk Q) A w (by rw [mk_size]; unfold maxLen; omega)
    rw [mk_data, mk_size, ← hfk.2.2.2, ← hF, ← hG] at q
    exact q
  have hG1 : 1 ≤ G := by rw [hG]; exact hfk.1
  have hG0 : ((G : Int) == 0) = false := by simp; omega
  have hgA : ∀ h, (mk Q)[A]'h = Q.getD A 0 := fun h => getD_mk Q A h
  have hbr := bit_rest2 (Q.getD A 0)
  have hex : (mk Q).extract 0 A = mk (Q.take A) := by rw [mk_ext, List.drop_zero, Nat.sub_zero]
  clear hne hfk hF hG
  cases hrs : isRestB (Q.getD A 0)
  · rw [hrs] at hbr
    have hrd := rd_cutD l hd A hA1 (by rw [← hQ]; exact hA2) (by rw [← hQ]; exact hrs)
    rw [← hQ] at hrd
    have hRD := fun w hT => read_any (Q.take A) w (by rw [List.length_take]; omega) hT
    unfold rdV at hRD
    rw [hrd] at hRD
    have HRD : Hid (∀ w, Tabs w → Calls Tryd.prog 9 #[.string (mk (Q.take A))] w fun e w' => e = .returned (.tuple #[.string ⟨#[]⟩, .int .i64 0, .agg #[.int .i64 4, .int .i64 (A : Int)]]) ∧ Below w.heap.size w w') := hRD
    have he1 : ∀ w, (binOp .eql 24 (.agg #[.int .i64 4, .int .i64 (A : Int)]) (.agg #[.int .i64 0, .int .i64 0])).run Tryd.prog w = .ok (.bool false) w := fun w => by rw [eql_fault]; rfl
    have he2 : ∀ w, (binOp .eql 24 (.agg #[.int .i64 4, .int .i64 (A : Int)]) (.agg #[.int .i64 4, .int .i64 (A : Int)])).run Tryd.prog w = .ok (.bool true) w := fun w => by rw [eql_fault]; simp
    generalize Q.getD A 0 = c at *
    generalize Q.take A = X at *
    clear hrd hRD hQ hrs hd
    go_enter Tryd.func7, Tryd.ntmps7
    go_wp2_with fail
    refine HSN.out.mono ?_
    rintro e w1 ⟨rfl, b1⟩
    go_wp2_with fail
    refine (HDB.out _ (HT.out.later b1)).mono ?_
    rintro e w2 ⟨rfl, b2⟩
    have HB2 : Hid (Below w.heap.size w w2) := b1.trans (b2.mono b1.size)
    clear b1 b2
    go_wp2_with fail
    refine (HFI.out _).mono ?_
    rintro e w' ⟨rfl, rfl⟩
    go_wp2_with fail
    refine (HRD.out _ (HT.out.later HB2.out)).mono ?_
    rintro e w4 ⟨rfl, b4⟩
    have b5 : Below w4.heap.size w4 (w4.alloc (.cells #[.int .i64 4, .int .i64 (A : Int)] 24)) := below_alloc _ _
    have b14 := HB2.out.trans (b4.mono HB2.out.size)
    have b15 := b14.trans (b5.mono b14.size)
    have HB5 : Hid (Below w.heap.size w (w4.alloc (.cells #[.int .i64 4, .int .i64 (A : Int)] 24))) := b15
    have HT5 : Hid (Tabs (w4.alloc (.cells #[.int .i64 4, .int .i64 (A : Int)] 24))) := HT.out.later b15
    clear b4 b5 b14 b15 HB2
    go_wp2_with (first | (go_at_call 11; refine (alive_any _ HT5.out).mono ?_; rintro e w6 ⟨rfl, b6⟩))
    go_ret
    exact ⟨rfl, HB5.out.trans (b6.mono HB5.out.size)⟩
  · rw [hrs] at hbr
    generalize Q.getD A 0 = c at *
    clear hrs hQ hex hd
    go_enter Tryd.func7, Tryd.ntmps7
    go_wp2_with fail
    refine HSN.out.mono ?_
    rintro e w1 ⟨rfl, b1⟩
    go_wp2_with fail
    refine (HDB.out _ (HT.out.later b1)).mono ?_
    rintro e w2 ⟨rfl, b2⟩
    have HB2 : Hid (Below w.heap.size w w2) := b1.trans (b2.mono b1.size)
    clear b1 b2
    go_wp2_with (first | (go_at_call 20; refine (HFI.out _).mono ?_; rintro e w' ⟨rfl, rfl⟩) | (go_at_call 11; refine (alive_any _ (HT.out.later HB2.out)).mono ?_; rintro e w6 ⟨rfl, b6⟩))
    go_ret
    exact ⟨rfl, HB2.out.trans (b6.mono HB2.out.size)⟩

set_option maxHeartbeats 2000000 in
theorem cut_walk_s (l : List UInt8) (k : Int) (w : World) (hs : l.length ≤ 1048576) (hT : Tabs w) (hM : Mx w) (hd : smp l = true) :
    Calls Tryd.prog 7 #[.string (mk l), .bool false, .int .i64 k] w fun e w' => e = .returned (.bool true) ∧ Below w.heap.size w w' := by
  have HT : Hid (Tabs w) := hT
  obtain ⟨Q, hQ⟩ : ∃ Q, Q = sng l := ⟨_, rfl⟩
  have hql := cut_len2 l
  rw [← hQ] at hql
  have hSN := single_any l w (by omega) hM
  rw [sngS_yes hd, sngE_yes hd, ← hQ] at hSN
  have HSN : Hid (Calls Tryd.prog 12 #[.string (mk l)] w fun e w' => e = .returned (.tuple #[.string (mk Q), .int .i64 0]) ∧ Below w.heap.size w w') := hSN
  clear hSN hT hM
  have hQ2 : 2 ≤ Q.length := by rw [hQ]; unfold sng; simp
  have hQz : (mk Q).size = Q.length := mk_size Q
  obtain ⟨A, hA1, hA2, hcut⟩ := place_of k Q.length hQ2 (by omega)
  have hQl : Q.length ≤ 100000000 := by omega
  have hne : Q.drop A ≠ [] := by intro e; have := congrArg List.length e; rw [List.length_drop] at this; simp at this; omega
  have hfk := fk_pos _ hne
  obtain ⟨F, hF⟩ : ∃ F, F = (fst (Q.drop A)).1 := ⟨_, rfl⟩
  obtain ⟨G, hG⟩ : ∃ G, G = fk (Q.drop A) := ⟨_, rfl⟩
  have HFI : Hid (∀ w, Calls Tryd.prog 20 #[.string ((mk Q).extract A Q.length)] w fun e w' => e = .returned (.tuple #[.int .i64 F, .int .i64 (G : Int)]) ∧ w = w') := fun w => by
    have q := firstAt_any (mk Q) A w (by rw [mk_size]; unfold maxLen; omega)
    rw [mk_data, mk_size, ← hfk.2.2.2, ← hF, ← hG] at q
    exact q
  have hG1 : 1 ≤ G := by rw [hG]; exact hfk.1
  have hG0 : ((G : Int) == 0) = false := by simp; omega
  have hgA : ∀ h, (mk Q)[A]'h = Q.getD A 0 := fun h => getD_mk Q A h
  have hbr := bit_rest2 (Q.getD A 0)
  have hex : (mk Q).extract 0 A = mk (Q.take A) := by rw [mk_ext, List.drop_zero, Nat.sub_zero]
  clear hne hfk hF hG
  cases hrs : isRestB (Q.getD A 0)
  · rw [hrs] at hbr
    rcases rd_cutS l hd A hA1 (by rw [← hQ]; exact hA2) (by rw [← hQ]; exact hrs) with hrd | hrd
    · rw [← hQ] at hrd
      have hRD := fun w hT => read_any (Q.take A) w (by rw [List.length_take]; omega) hT
      unfold rdV at hRD
      rw [hrd] at hRD
      have HRD : Hid (∀ w, Tabs w → Calls Tryd.prog 9 #[.string (mk (Q.take A))] w fun e w' => e = .returned (.tuple #[.string ⟨#[]⟩, .int .i64 0, .agg #[.int .i64 4, .int .i64 (A : Int)]]) ∧ Below w.heap.size w w') := hRD
      have he1 : ∀ w, (binOp .eql 24 (.agg #[.int .i64 4, .int .i64 (A : Int)]) (.agg #[.int .i64 0, .int .i64 0])).run Tryd.prog w = .ok (.bool false) w := fun w => by rw [eql_fault]; rfl
      have he2 : ∀ w, (binOp .eql 24 (.agg #[.int .i64 4, .int .i64 (A : Int)]) (.agg #[.int .i64 4, .int .i64 (A : Int)])).run Tryd.prog w = .ok (.bool true) w := fun w => by rw [eql_fault]; simp
      generalize Q.getD A 0 = c at *
      generalize Q.take A = X at *
      clear hrd hRD hQ hrs hd
      go_enter Tryd.func7, Tryd.ntmps7
      go_wp2_with fail
      refine HSN.out.mono ?_
      rintro e w2 ⟨rfl, b2⟩
      have HB2 : Hid (Below w.heap.size w w2) := b2
      clear b2
      go_wp2_with fail
      refine (HFI.out _).mono ?_
      rintro e w' ⟨rfl, rfl⟩
      go_wp2_with fail
      refine (HRD.out _ (HT.out.later HB2.out)).mono ?_
      rintro e w4 ⟨rfl, b4⟩
      have b5 : Below w4.heap.size w4 (w4.alloc (.cells #[.int .i64 4, .int .i64 (A : Int)] 24)) := below_alloc _ _
      have b14 := HB2.out.trans (b4.mono HB2.out.size)
      have b15 := b14.trans (b5.mono b14.size)
      have HB5 : Hid (Below w.heap.size w (w4.alloc (.cells #[.int .i64 4, .int .i64 (A : Int)] 24))) := b15
      have HT5 : Hid (Tabs (w4.alloc (.cells #[.int .i64 4, .int .i64 (A : Int)] 24))) := HT.out.later b15
      clear b4 b5 b14 b15 HB2
      go_wp2_with (first | (go_at_call 11; refine (alive_any _ HT5.out).mono ?_; rintro e w6 ⟨rfl, b6⟩))
      go_ret
      exact ⟨rfl, HB5.out.trans (b6.mono HB5.out.size)⟩
    · obtain ⟨t, u, hl, hrd⟩ := hrd
      rw [← hQ] at hrd
      have hRD := fun w hT => read_any (Q.take A) w (by rw [List.length_take]; omega) hT
      unfold rdV at hRD
      rw [hrd] at hRD
      have HRD : Hid (∀ w, Tabs w → Calls Tryd.prog 9 #[.string (mk (Q.take A))] w fun e w' => e = .returned (.tuple #[.string (mk t), .int .i64 (A : Int), .agg #[.int .i64 0, .int .i64 0]]) ∧ Below w.heap.size w w') := hRD
      have he1 := eql_fault 0 0 0 0
      have htz : (mk t).size = t.length := mk_size t
      have hlz : (mk l).size = l.length := mk_size l
      have htl : t.length < l.length := by rw [hl]; simp
      have hpre : (mk l).extract 0 t.length = mk t := by rw [mk_ext, List.drop_zero, Nat.sub_zero, hl, List.take_left]
      have hg39 : ∀ h, (mk l)[t.length]'h = 39 := fun h => by rw [getD_mk, hl, List.getD_eq_getElem?_getD, List.getElem?_append_right (Nat.le_refl _)]; simp
      generalize Q.getD A 0 = c at *
      generalize Q.take A = X at *
      clear hrd hRD hQ hrs hl hd
      go_enter Tryd.func7, Tryd.ntmps7
      go_wp2_with fail
      refine HSN.out.mono ?_
      rintro e w2 ⟨rfl, b2⟩
      have HB2 : Hid (Below w.heap.size w w2) := b2
      clear b2
      go_wp2_with fail
      refine (HFI.out _).mono ?_
      rintro e w' ⟨rfl, rfl⟩
      go_wp2_with fail
      refine (HRD.out _ (HT.out.later HB2.out)).mono ?_
      rintro e w4 ⟨rfl, b4⟩
      have b5 : Below w4.heap.size w4 (w4.alloc (.cells #[.int .i64 0, .int .i64 0] 24)) := below_alloc _ _
      have b14 := HB2.out.trans (b4.mono HB2.out.size)
      have b15 := b14.trans (b5.mono b14.size)
      have HB5 : Hid (Below w.heap.size w (w4.alloc (.cells #[.int .i64 0, .int .i64 0] 24))) := b15
      have HT5 : Hid (Tabs (w4.alloc (.cells #[.int .i64 0, .int .i64 0] 24))) := HT.out.later b15
      clear b4 b5 b14 b15 HB2
      go_wp2_with (first | (go_at_call 11; refine (alive_any _ HT5.out).mono ?_; rintro e w6 ⟨rfl, b6⟩))
      go_ret
      exact ⟨rfl, HB5.out.trans (b6.mono HB5.out.size)⟩
  · rw [hrs] at hbr
    generalize Q.getD A 0 = c at *
    clear hrs hQ hex hd
    go_enter Tryd.func7, Tryd.ntmps7
    go_wp2_with fail
    refine HSN.out.mono ?_
    rintro e w2 ⟨rfl, b2⟩
    have HB2 : Hid (Below w.heap.size w w2) := b2
    clear b2
    go_wp2_with (first | (go_at_call 20; refine (HFI.out _).mono ?_; rintro e w' ⟨rfl, rfl⟩) | (go_at_call 11; refine (alive_any _ (HT.out.later HB2.out)).mono ?_; rintro e w6 ⟨rfl, b6⟩))
    go_ret
    exact ⟨rfl, HB2.out.trans (b6.mono HB2.out.size)⟩

set_option maxHeartbeats 1000000 in
theorem cut_walk (s : ByteArray) (d : Bool) (k : Int) (w : World) (hs : s.size ≤ 1048576) (hk : (Lit.int .i64 k).wf = true) (hT : Tabs w) (hM : Mx w) :
    Calls Tryd.prog 7 #[.string s, .bool d, .int .i64 k] w fun e w' => e = .returned (.bool true) ∧ Below w.heap.size w w' := by
  obtain ⟨l, rfl⟩ := mk_ex s
  rw [mk_size] at hs
  have HT : Hid (Tabs w) := hT
  have hSN := single_any l w (by omega) hM
  cases d
  · cases hd : smp l
    · rw [sngS_no hd, sngE_no hd] at hSN
      have HSN : Hid (Calls Tryd.prog 12 #[.string (mk l)] w fun e w' => e = .returned (.tuple #[.string ⟨#[]⟩, .int .i64 8]) ∧ Below w.heap.size w w') := hSN
      clear hSN hT hM hd hk
      go_enter Tryd.func7, Tryd.ntmps7
      go_wp2_with (first | (go_at_call 12; refine HSN.out.mono ?_; rintro e w1 ⟨rfl, b1⟩) | (go_at_call 11; refine (alive_any _ (HT.out.later b1)).mono ?_; rintro e w6 ⟨rfl, b6⟩))
      go_ret
      exact ⟨rfl, b1.trans (b6.mono b1.size)⟩
    · exact cut_walk_s l k w hs hT hM hd
  · cases hd : (dec l).2 with
    | none => exact cut_walk_d l k w hs hT hM hd
    | some p =>
      obtain ⟨S, hS⟩ : ∃ S, S = sngS l := ⟨_, rfl⟩
      obtain ⟨E, hE⟩ : ∃ E, E = sngE l := ⟨_, rfl⟩
      rw [← hS, ← hE] at hSN
      have HSN : Hid (Calls Tryd.prog 12 #[.string (mk l)] w fun e w' => e = .returned (.tuple #[.string (mk S), .int .i64 E]) ∧ Below w.heap.size w w') := hSN
      have HDB : Hid (∀ w, Tabs w → Calls Tryd.prog 14 #[.string (mk l)] w fun e w' => e = .returned (.tuple #[.string ⟨#[]⟩, .int .i64 8]) ∧ Below w.heap.size w w') := fun w hT => by
        have q := double_any l w (by omega) hT
        rw [dblS_no (by rw [hd]; simp), dblE_no (by rw [hd]; simp)] at q; exact q
      clear hSN hT hM hd hk hS hE
      go_enter Tryd.func7, Tryd.ntmps7
      go_wp2_with (first | (go_at_call 12; refine HSN.out.mono ?_; rintro e w1 ⟨rfl, b1⟩) | (go_at_call 14; refine (HDB.out _ (HT.out.later b1)).mono ?_; rintro e w2 ⟨rfl, b2⟩) | (go_at_call 11; refine (alive_any _ ((HT.out.later b1).later b2)).mono ?_; rintro e w6 ⟨rfl, b6⟩))
      go_ret
      exact ⟨rfl, (b1.trans (b2.mono b1.size)).trans (b6.mono (Nat.le_trans b1.size b2.size))⟩

end Go.Proofs.YtiipndfogofhgaaDoor.Quo
