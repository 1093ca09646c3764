/- The reference's Simple, Single, Double, by their contracts. -/
import Derived.Test.YtiipndfogofhgaaDoorQuoteRdb
namespace Go.Proofs.YtiipndfogofhgaaDoor.Quo
open Utf Rws
open Go.RowKit
set_option linter.unusedSimpArgs false
set_option linter.unusedVariables false
set_option maxRecDepth 100000

/-- the reference's Decode, as its results are used -/
theorem rdec_no (l : List UInt8) (w : World) (hl : l.length ≤ 4194304) {p : Nat} (hd : (dec l).2 = some p) : Calls Tryd.prog 30 #[.string (mk l)] w fun e w' => e = .returned (.tuple #[.slice none 0 0, .agg #[.int .i64 8, .int .i64 (p : Int)]]) ∧ Below w.heap.size w w' ∨ ∃ a cap, e = .returned (.tuple #[.slice a 0 cap, .agg #[.int .i64 8, .int .i64 (p : Int)]]) ∧ Below w.heap.size w w' := by
  have hdl := dec_len l.length l (Nat.le_refl _)
  have HD := rdecode_any (mk l) w (by rw [mk_size]; omega) (by rw [mk_data]; omega)
  rw [mk_data] at HD
  refine HD.mono ?_
  rintro e w' ⟨v, h1, h2, h3⟩
  rw [hd] at h1
  have hx : decXs l = [] := by unfold decXs; rw [if_neg (by rw [hd]; simp)]
  rw [hx] at h2
  obtain ⟨a, cap, rfl, _⟩ := ints_of_own h2
  exact .inr ⟨a, cap, h1, h3⟩
theorem rdec_yes (l : List UInt8) (w : World) (hl : l.length ≤ 4194304) (zs : List Int) (hz : zs = (dec l).1) (hd : (dec l).2 = none) : Calls Tryd.prog 30 #[.string (mk l)] w fun e w' => ∃ a cap, e = .returned (.tuple #[.slice a zs.length cap, .agg #[.int .i64 0, .int .i64 0]]) ∧ Ints w' a zs.length zs ∧ Below w.heap.size w w' := by
  have hdl := dec_len l.length l (Nat.le_refl _)
  have HD := rdecode_any (mk l) w (by rw [mk_size]; omega) (by rw [mk_data]; omega)
  rw [mk_data] at HD
  refine HD.mono ?_
  rintro e w' ⟨v, h1, h2, h3⟩
  rw [hd] at h1
  unfold decXs at h2
  rw [if_pos hd, ← hz] at h2
  obtain ⟨a, cap, rfl, hI⟩ := ints_of_own h2
  exact ⟨a, cap, h1, hI, h3⟩

set_option maxHeartbeats 1000000 in
theorem rsimple_any (l : List UInt8) (w : World) (hl : l.length ≤ 4194304) : Calls Tryd.prog 17 #[.string (mk l)] w fun e w' => e = .returned (.bool (smp l)) ∧ Below w.heap.size w w' := by
  have hdl := dec_len l.length l (Nat.le_refl _)
  cases hd : (dec l).2 with
  | some p =>
    have HV : Hid (smp l = false) := by unfold smp; rw [hd]; simp [Hid]
    have HDD : Hid (Calls Tryd.prog 30 #[.string (mk l)] w fun e w' => ∃ a cap, e = .returned (.tuple #[.slice a 0 cap, .agg #[.int .i64 8, .int .i64 (p : Int)]]) ∧ Below w.heap.size w w') := (rdec_no l w hl hd).mono (by
      rintro e w' (⟨h1, h2⟩ | h)
      · exact ⟨none, 0, h1, h2⟩
      · exact h)
    clear hd hdl
    go_enter Tryd.func17, Tryd.ntmps17
    go_wp2_with fail
    refine HDD.out.mono ?_
    rintro e w1 ⟨a, cap, rfl, b1⟩
    go_wp2
    go_loopw [5] (fun i wr => i = .int .i64 0 ∧ wr = w1.alloc (.cells #[.int .i64 8, .int .i64 (p : Int)] 24)) (fun _ _ => 0)
    case atStart => exact ⟨rfl, rfl⟩
    case round =>
      obtain ⟨rfl, rfl⟩ := hrel
      go_wp2
      go_ret
      exact ⟨by rw [HV.out]; rfl, b1.trans ((below_alloc _ _).mono b1.size)⟩
  | none =>
    obtain ⟨zs, hz⟩ : ∃ zs, zs = (dec l).1 := ⟨_, rfl⟩
    have HV : Hid (smp l = zs.all may) := by unfold smp; rw [hd, ← hz]; simp [Hid]
    have HDD : Hid (Calls Tryd.prog 30 #[.string (mk l)] w fun e w' => ∃ a cap, e = .returned (.tuple #[.slice a zs.length cap, .agg #[.int .i64 0, .int .i64 0]]) ∧ Ints w' a zs.length zs ∧ Below w.heap.size w w') := rdec_yes l w hl zs hz hd
    rw [← hz] at hdl
    obtain ⟨M, hM⟩ : ∃ M, M = zs.length := ⟨_, rfl⟩
    have HM : Hid (M = zs.length) := hM
    rw [← hM] at HDD hdl
    clear hd hz hM
    go_enter Tryd.func17, Tryd.ntmps17
    go_wp2_with fail
    refine HDD.out.mono ?_
    rintro e w1 ⟨a, cap, rfl, hI, b1⟩
    obtain ⟨w2, hw2⟩ : ∃ w2, w2 = w1.alloc (.cells #[.int .i64 0, .int .i64 0] 24) := ⟨_, rfl⟩
    have b2 : Below w1.heap.size w1 w2 := by rw [hw2]; exact below_alloc _ _
    have g0 : w2.cell? ⟨w1.heap.size, 0, none⟩ = some (.int .i64 0) := by rw [hw2, cell_of_row _ w1.heap.size 0 _ _ (0, 0) (heap_alloc_new w1 _)]; rfl
    have HI : Hid (Ints w2 a M zs) := hI.later b2 (Nat.le_refl _)
    have HB : Hid (Below w.heap.size w w2) := b1.trans (b2.mono b1.size)
    have HW : Hid (w2 = w1.alloc (.cells #[.int .i64 0, .int .i64 0] 24)) := hw2
    clear hI b1 b2 hw2 HDD
    go_wp2
    rw [← HW.out]
    go_loop [5] (fun i => ∃ k : Nat, k ≤ M ∧ i = .int .i64 (k : Int) ∧ zs.all may = (zs.drop k).all may) (fun i => M - (intOf i).toNat)
    case atStart => exact ⟨0, Nat.zero_le _, rfl, by simp⟩
    case round =>
      obtain ⟨k, hk, rfl, hE⟩ := hrel
      have HE : Hid (zs.all may = (zs.drop k).all may) := hE
      clear hE
      by_cases hlt : k < M
      · have hkz : k < zs.length := by rw [← HM.out]; exact hlt
        obtain ⟨b', off, rfl, hbb, hc⟩ := HI.out.2 (by omega)
        have hck := hc k hlt
        have hdr : zs.drop k = zs.getD k 0 :: zs.drop (k + 1) := by rw [List.drop_eq_getElem_cons hkz, List.getD_eq_getElem?_getD, List.getElem?_eq_getElem hkz]; rfl
        have HE2 : Hid (zs.all may = (may (zs.getD k 0) && (zs.drop (k + 1)).all may)) := by rw [HE.out, hdr, List.all_cons]; exact rfl
        generalize zs.getD k 0 = n at *
        clear hc hdr hkz HE
        cases hm : may n
        · have HX : Hid (zs.all may = false) := by rw [HE2.out, hm]; exact rfl
          clear HE2
          go_wp2_with (first | (go_at_call 26; refine (rmay_any _ _).mono ?_; rintro e w' ⟨rfl, rfl⟩))
          go_ret
          exact ⟨by rw [HV.out, HX.out]; rfl, HB.out⟩
        · have HX : Hid (zs.all may = (zs.drop (k + 1)).all may) := by rw [HE2.out, hm]; exact rfl
          clear HE2
          go_wp2_with (first | (go_at_call 26; refine (rmay_any _ _).mono ?_; rintro e w' ⟨rfl, rfl⟩))
          go_round
          case rel => exact ⟨k + 1, by omega, by go_num, HX.out⟩
          case measure => simp [intOf]; omega
      · have HX : Hid (zs.all may = true) := by rw [HE.out, List.drop_of_length_le (by rw [← HM.out]; omega)]; exact rfl
        go_wp2
        go_ret
        exact ⟨by rw [HV.out, HX.out]; rfl, HB.out⟩

theorem dup_take (l : List UInt8) (k : Nat) (h : k < l.length) : dup (l.take (k + 1)) = dup (l.take k) ++ (if l.getD k 0 == 39 then [39, 39] else [l.getD k 0]) := by
  rw [List.take_succ_eq_append_getElem h, dup_app, List.getD_eq_getElem?_getD, List.getElem?_eq_getElem h]
  simp only [Option.getD_some, dup_cons]
  have e : dup ([] : List UInt8) = [] := rfl
  rw [e, List.append_nil]
theorem one_news (c : UInt8) (w : World) : ∀ j u, ([(c.toNat : Int)].map (Value.int .u8))[j]? = some u → (w.alloc (.cells ([(c.toNat : Int)].map (Value.int .u8)).toArray 5)).cell? ((⟨w.heap.size, 0, none⟩ : Addr).add j) = some u := news_cells w [(c.toNat : Int)] 5
theorem own_one (w : World) (c : UInt8) : Ob w.heap.size (.slice (some ⟨w.heap.size, 0, none⟩) 1 1) [c] (w.alloc (.cells #[.int .u8 (c.toNat : Int)] 5)) := by
  refine ⟨rfl, .inr ⟨w.heap.size, 1, #[.int .u8 (c.toNat : Int)], rfl, Nat.le_refl _, heap_alloc_new w _, Nat.le_refl _, by unfold maxLen; decide, rfl, rfl⟩⟩

set_option maxHeartbeats 2000000 in
theorem rsingle_any (l : List UInt8) (w : World) (hl : l.length ≤ 4194304) : Calls Tryd.prog 13 #[.string (mk l)] w fun e w' => e = .returned (.tuple #[.string (mk (sngS l)), .int .i64 (sngE l)]) ∧ Below w.heap.size w w' := by
  obtain ⟨i0, hi, hz0, hz1, hz2⟩ := info_parts Tryd.info5
  have HS := rsimple_any l w hl
  have hsz := mk_size l
  cases hs : smp l
  · have HSS : Hid (Calls Tryd.prog 17 #[.string (mk l)] w fun e w' => e = .returned (.bool false) ∧ Below w.heap.size w w') := by rw [← hs]; exact HS
    have HV : Hid (sngS l = [] ∧ sngE l = 8) := ⟨sngS_no hs, sngE_no hs⟩
    clear HS hs
    go_enter Tryd.func13, Tryd.ntmps13
    go_wp2_with (first | (go_at_call 17; refine HSS.out.mono ?_; rintro e w1 ⟨rfl, b1⟩))
    go_ret2
    rw [HV.out.1, HV.out.2]
    exact ⟨rfl, b1⟩
  · have HSS : Hid (Calls Tryd.prog 17 #[.string (mk l)] w fun e w' => e = .returned (.bool true) ∧ Below w.heap.size w w') := by rw [← hs]; exact HS
    have HV : Hid (mk (sngS l) = mk (39 :: dup l ++ [39]) ∧ sngE l = 0) := ⟨by rw [sngS_yes hs]; rfl, sngE_yes hs⟩
    obtain ⟨N, hN⟩ : ∃ N, N = l.length := ⟨_, rfl⟩
    rw [← hN] at hsz hl
    have HN : Hid (N = l.length) := hN
    rw [HV.out.1, HV.out.2]
    clear HS hs hN
    go_enter Tryd.func13, Tryd.ntmps13
    go_wp2_with fail
    refine HSS.out.mono ?_
    rintro e w1 ⟨rfl, b1⟩
    have HO1 : Hid (Ob w.heap.size (.slice (some ⟨w1.heap.size, 0, none⟩) 1 1) [39] (w1.alloc (.cells #[.int .u8 39] 5))) := ownsRow_lower (own_one w1 39) b1.size
    have HB1 : Hid (Below w.heap.size w (w1.alloc (.cells #[.int .u8 39] 5))) := b1.trans ((below_alloc _ _).mono b1.size)
    have hs1 : w.heap.size ≤ (w1.alloc (.cells #[.int .u8 39] 5)).heap.size := by rw [World.size_alloc]; have := b1.size; omega
    clear b1 HSS
    go_wp2
    go_loopw [4, 5] (fun v i wr => ∃ k : Nat, k ≤ N ∧ i = .int .i64 (k : Int) ∧ Ob w.heap.size v (39 :: dup (l.take k)) wr ∧ Below w.heap.size w wr ∧ w.heap.size ≤ wr.heap.size) (fun _ i _ => N - (intOf i).toNat)
    case atStart => exact ⟨0, Nat.zero_le _, rfl, HO1.out, HB1.out, hs1⟩
    case round =>
      clear HO1 HB1 hs1
      obtain ⟨k, hk, rfl, hO, hBe, hB⟩ := hrel
      have HO : Hid (Ob w.heap.size u4 (39 :: dup (l.take k)) wr) := hO
      have HBe : Hid (Below w.heap.size w wr) := hBe
      have hdl : (39 :: dup (l.take k)).length ≤ 2 * N + 1 := by
        have := dup_len (l.take k); have := List.length_take_le k l; rw [List.length_cons]; omega
      clear hO hBe
      by_cases hlt : k < N
      · have hkl : k < l.length := by rw [← HN.out]; exact hlt
        have hg : ∀ h, (mk l)[k]'h = l.getD k 0 := fun h => getD_mk l k h
        have hT := dup_take l k hkl
        generalize l.getD k 0 = c at *
        generalize dup (l.take k) = D at *
        have hbc : ((c.toNat : Int) == 39) = (c == 39) := blit c 39
        cases hc : (c == 39)
        · rw [hc] at hbc
          have HT : Hid (39 :: dup (l.take (k + 1)) = (39 :: D) ++ [c]) := by rw [hT, hc]; exact rfl
          clear hT
          go_wp2_with (first | (at_builtin; refine wpList_append_own _ rfl _ _ 42 rfl w.heap.size 5 i0 (.int .u8 0) 1 1 Tryd.underlying42 hi hz0 hz1 hz2 rfl (by decide) _ _ _ rfl (World.ownsRow.alloc HO.out _) ⟨wr.heap.size, 0, none⟩ 1 1 ([(c.toNat : Int)].map (Value.int .u8)) rfl rfl (news_cells _ _ _) (news_one _) ?_ ?_ ?_ ?_))
          · unfold maxLen; omega
          · omega
          · simp; omega
          intro v' w3 hown' hgrow _
          obtain ⟨R1, R2, R3⟩ := Ob.snoc (c := c) HO.out HBe.out hB hown' hgrow
          rw [← HT.out] at R1
          have HR1 : Hid (Ob w.heap.size v' (39 :: dup (l.take (k + 1))) w3) := R1
          have HR2 : Hid (Below w.heap.size w w3) := R2
          clear hown' hgrow HO HBe R1 R2
          go_wp2
          go_roundw
          case rel => exact ⟨k + 1, by omega, by go_num, HR1.out, HR2.out, R3⟩
          case measure => simp [intOf]; omega
        · rw [hc] at hbc
          have hc39 : c = 39 := by simpa using hc
          obtain ⟨D2, hD2⟩ : ∃ D2, D2 = (39 :: D) ++ [39] := ⟨_, rfl⟩
          have HT : Hid (39 :: dup (l.take (k + 1)) = D2 ++ [c]) := by rw [hT, hc, hc39, hD2]; simp [Hid]
          have hdl2 : D2.length ≤ 2 * N + 2 := by rw [hD2, List.length_append]; simp at hdl ⊢; omega
          have HD2 : Hid (D2 = (39 :: D) ++ [39]) := hD2
          clear hD2
          have HC : Hid (c = 39) := hc39
          have hct : (c.toNat : Int) = 39 := by rw [hc39]; rfl
          clear hT hc39
          go_wp2_with (first | (at_builtin; refine wpList_append_own _ rfl _ _ 42 rfl w.heap.size 5 i0 (.int .u8 0) 1 1 Tryd.underlying42 hi hz0 hz1 hz2 rfl (by decide) _ _ _ rfl (World.ownsRow.alloc HO.out _) ⟨wr.heap.size, 0, none⟩ 1 1 ([(39 : Int)].map (Value.int .u8)) rfl rfl (news_cells _ _ _) (news_one _) ?_ ?_ ?_ ?_))
          · unfold maxLen; omega
          · omega
          · simp; omega
          intro v' w3 hown' hgrow _
          obtain ⟨R1, R2, R3⟩ := Ob.snoc (c := 39) HO.out HBe.out hB hown' hgrow
          have HR1 : Hid (Ob w.heap.size v' D2 w3) := by rw [HD2.out]; exact R1
          have HR2 : Hid (Below w.heap.size w w3) := R2
          clear hown' hgrow HO HBe R1 R2
          go_wp2_with (first | (at_builtin; refine wpList_append_own _ rfl _ _ 42 rfl w.heap.size 5 i0 (.int .u8 0) 1 1 Tryd.underlying42 hi hz0 hz1 hz2 rfl (by decide) _ _ _ rfl (World.ownsRow.alloc HR1.out _) ⟨w3.heap.size, 0, none⟩ 1 1 ([(39 : Int)].map (Value.int .u8)) rfl rfl (news_cells _ _ _) (news_one _) ?_ ?_ ?_ ?_))
          · unfold maxLen; omega
          · omega
          · simp; omega
          intro v'' w5 hown' hgrow _
          obtain ⟨S1, S2, S3⟩ := Ob.snoc (c := 39) HR1.out HR2.out R3 hown' hgrow
          have HS1 : Hid (Ob w.heap.size v'' (39 :: dup (l.take (k + 1))) w5) := by rw [HT.out, HC.out]; exact S1
          have HS2 : Hid (Below w.heap.size w w5) := S2
          clear hown' hgrow S1 S2 HR1 HR2
          go_wp2
          go_roundw
          case rel => exact ⟨k + 1, by omega, by go_num, HS1.out, HS2.out, S3⟩
          case measure => simp [intOf]; omega
      · have HE : Hid (39 :: dup (l.take k) = 39 :: dup l) := by rw [List.take_of_length_le (by rw [← HN.out]; omega)]; exact rfl
        rw [HE.out] at HO hdl
        go_wp2_with (first | (at_builtin; refine wpList_append_own _ rfl _ _ 42 rfl w.heap.size 5 i0 (.int .u8 0) 1 1 Tryd.underlying42 hi hz0 hz1 hz2 rfl (by decide) _ _ _ rfl (World.ownsRow.alloc HO.out _) ⟨wr.heap.size, 0, none⟩ 1 1 ([(39 : Int)].map (Value.int .u8)) rfl rfl (news_cells _ _ _) (news_one _) ?_ ?_ ?_ ?_))
        · unfold maxLen; omega
        · omega
        · simp; omega
        intro v' w3 hown' hgrow _
        obtain ⟨R1, R2, R3⟩ := Ob.snoc (c := 39) HO.out HBe.out hB hown' hgrow
        have hcv := R1.conv
        have HR2 : Hid (Below w.heap.size w w3) := R2
        clear hown' hgrow HO HBe R1 R2
        go_wp2
        go_ret2
        exact ⟨rfl, HR2.out⟩

set_option maxHeartbeats 2000000 in
theorem rdouble_any (l : List UInt8) (w : World) (hl : l.length ≤ 4194304) : Calls Tryd.prog 15 #[.string (mk l)] w fun e w' => e = .returned (.tuple #[.string (mk (dblS l)), .int .i64 (dblE l)]) ∧ Below w.heap.size w w' := by
  obtain ⟨i0, hi, hz0, hz1, hz2⟩ := info_parts Tryd.info5
  have hdl := dec_len l.length l (Nat.le_refl _)
  cases hd : (dec l).2 with
  | some p =>
    have HV : Hid (dblS l = [] ∧ dblE l = 8) := ⟨dblS_no (by rw [hd]; simp), dblE_no (by rw [hd]; simp)⟩
    have HDD : Hid (Calls Tryd.prog 30 #[.string (mk l)] w fun e w' => ∃ a cap, e = .returned (.tuple #[.slice a 0 cap, .agg #[.int .i64 8, .int .i64 (p : Int)]]) ∧ Below w.heap.size w w') := (rdec_no l w hl hd).mono (by
      rintro e w' (⟨h1, h2⟩ | h)
      · exact ⟨none, 0, h1, h2⟩
      · exact h)
    clear hd hdl
    go_enter Tryd.func15, Tryd.ntmps15
    go_wp2_with fail
    refine HDD.out.mono ?_
    rintro e w1 ⟨a, cap, rfl, b1⟩
    go_wp2
    go_ret2
    rw [HV.out.1, HV.out.2]
    exact ⟨rfl, b1.trans ((below_alloc _ _).mono b1.size)⟩
  | none =>
    obtain ⟨zs, hz⟩ : ∃ zs, zs = (dec l).1 := ⟨_, rfl⟩
    have hS : ∀ n ∈ zs, sgn n = true := fun n hn => by
      have := ((dec_sound l.length l (Nat.le_refl _)).1 hd).1
      unfold allS at this
      exact List.all_eq_true.1 this n (by rw [← hz]; exact hn)
    have HV : Hid (mk (dblS l) = mk (34 :: (escs zs ++ [34])) ∧ dblE l = 0) := ⟨by rw [dblS_yes hd]; unfold dbl; rw [hz], dblE_yes hd⟩
    have HDD : Hid (Calls Tryd.prog 30 #[.string (mk l)] w fun e w' => ∃ a cap, e = .returned (.tuple #[.slice a zs.length cap, .agg #[.int .i64 0, .int .i64 0]]) ∧ Ints w' a zs.length zs ∧ Below w.heap.size w w') := rdec_yes l w hl zs hz hd
    rw [← hz] at hdl
    obtain ⟨M, hM⟩ : ∃ M, M = zs.length := ⟨_, rfl⟩
    have HM : Hid (M = zs.length) := hM
    rw [← hM] at HDD hdl
    have HS : Hid (∀ n ∈ zs, sgn n = true) := hS
    rw [HV.out.1, HV.out.2]
    clear hd hS hz hM
    go_enter Tryd.func15, Tryd.ntmps15
    go_wp2_with fail
    refine HDD.out.mono ?_
    rintro e w1 ⟨a, cap, rfl, hI, b1⟩
    obtain ⟨w2, hw2⟩ : ∃ w2, w2 = w1.alloc (.cells #[.int .i64 0, .int .i64 0] 24) := ⟨_, rfl⟩
    have b2 : Below w1.heap.size w1 w2 := by rw [hw2]; exact below_alloc _ _
    have HI : Hid (Ints w2 a M zs) := hI.later b2 (Nat.le_refl _)
    have HB : Hid (Below w.heap.size w w2) := b1.trans (b2.mono b1.size)
    have HW : Hid (w2 = w1.alloc (.cells #[.int .i64 0, .int .i64 0] 24)) := hw2
    clear hI b1 b2 hw2 HDD
    go_wp2
    rw [← HW.out]
    go_loopw [6, 7] (fun v i wr => ∃ k : Nat, k ≤ M ∧ i = .int .i64 (k : Int) ∧ Ob w2.heap.size v (escs (zs.take k)) wr ∧ Below w2.heap.size w2 wr ∧ w2.heap.size ≤ wr.heap.size) (fun _ i _ => M - (intOf i).toNat)
    case atStart => exact ⟨0, Nat.zero_le _, rfl, World.ownsRow_nil _ _ _ _, Below.refl _ _, Nat.le_refl _⟩
    case round =>
      clear HW
      obtain ⟨k, hk, rfl, hO, hBe, hB⟩ := hrel
      have HO : Hid (Ob w2.heap.size u6 (escs (zs.take k)) wr) := hO
      have HBe : Hid (Below w2.heap.size w2 wr) := hBe
      have hel : (escs (zs.take k)).length ≤ 10 * k := by have := escs_le (zs.take k); have := List.length_take_le k zs; omega
      clear hO hBe
      by_cases hlt : k < M
      · have hkz : k < zs.length := by rw [← HM.out]; exact hlt
        obtain ⟨b', off, rfl, hbb, hc⟩ := HI.out.2 (by omega)
        have hck := (HBe.out.cell (p := ⟨b', off + k, none⟩) hbb).trans (hc k hlt)
        have hsn := HS.out (zs.getD k 0) (by rw [List.getD_eq_getElem?_getD, List.getElem?_eq_getElem hkz]; simp)
        have HE : Hid (escs (zs.take (k + 1)) = escs (zs.take k) ++ esc (zs.getD k 0)) := escs_take zs k hkz
        have hen := esc_le (zs.getD k 0)
        generalize zs.getD k 0 = n at *
        have HX : Hid (∀ w, Calls Tryd.prog 31 #[.int .i64 n] w fun e w' => e = .returned (.string (mk (esc n))) ∧ Below w.heap.size w w') := fun w => rescaped_any n w hsn
        generalize esc n = o at *
        clear hc hsn hkz
        go_wp2_with (first | (go_at_call 31; refine (HX.out _).mono ?_; rintro e w3 ⟨rfl, b3⟩) | (at_builtin; refine Lib.wpList_append_own_string _ rfl _ _ 42 9 rfl w2.heap.size 5 i0 Tryd.underlying42 Tryd.underlying9 hi hz0 hz1 hz2 _ _ _ rfl (HO.out.later b3) (mk o) rfl ?_ ?_ ?_ ?_))
        · rw [mk_size]; unfold maxLen; omega
        · rw [mk_size]; omega
        · have := b3.size; omega
        intro v' w4 hown' hgrow _
        obtain ⟨R1, R2, R3⟩ := Ob.more (HO.out.later b3) (HBe.out.trans (b3.mono hB)) (by have := b3.size; omega) hown' hgrow
        rw [← HE.out] at R1
        have HR1 : Hid (Ob w2.heap.size v' (escs (zs.take (k + 1))) w4) := R1
        have HR2 : Hid (Below w2.heap.size w2 w4) := R2
        clear hown' hgrow HO HBe R1 R2 b3 hck
        go_wp2
        go_roundw
        case rel => exact ⟨k + 1, by omega, by go_num, HR1.out, HR2.out, R3⟩
        case measure => simp [intOf]; omega
      · have HE : Hid (escs (zs.take k) = escs zs) := by rw [List.take_of_length_le (by rw [← HM.out]; omega)]; exact rfl
        rw [HE.out] at HO hel
        have hcv := HO.out.conv
        have hez : (mk (escs zs)).size ≤ 100000000 := by rw [mk_size]; omega
        have HJ : Hid ((⟨#[34]⟩ ++ mk (escs zs) ++ ⟨#[34]⟩ : ByteArray) = mk (34 :: (escs zs ++ [34]))) := by
          unfold Hid
          apply ByteArray.ext
          apply Array.ext'
          simp [mk]
        clear HO
        go_wp2
        go_ret2
        rw [HJ.out]
        exact ⟨rfl, HB.out.trans (HBe.out.mono HB.out.size)⟩

end Go.Proofs.YtiipndfogofhgaaDoor.Quo
