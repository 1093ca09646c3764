/- Several texts as one: PlainRef3, PlainRef4. -/
import Derived.Test.YtaphijgbebhdlaaGreatDoorV04PlainEndY
import Derived.Test.YtaphijgbebhdlaaGreatDoorV28LayRm
import Derived.Laws.BytesArg
section
/- The reference's Text, by its contract. -/
namespace Go.Proofs.YtaphijgbebhdlaaGreatDoor.Pln
open Utf Rws
open Go.RowKit
set_option linter.unusedSimpArgs false
set_option linter.unusedVariables false
set_option maxRecDepth 100000

/-- a number's digits, but those of none where it is 0 -/
def dz (v : Nat) : List UInt8 := if v = 0 then [] else Lib.decDigits v
theorem dd_dz (v : Nat) : Lib.decDigits v = dz (v / 10) ++ [UInt8.ofNat (48 + v % 10)] := by
  unfold dz
  by_cases h : v < 10
  · rw [if_pos (by omega), dd_small h, show v % 10 = v by omega]; rfl
  · rw [if_neg (by omega)]; exact dd_big h
def fb : Value → Nat
  | .bool true => 1
  | _ => 0

theorem str_one (x : Int) : strOfNums [x] = mk [UInt8.ofNat x.toNat] := rfl
theorem app_mk1 (d : UInt8) (t : List UInt8) : mk [d] ++ mk t = mk (d :: t) := by
  apply ByteArray.ext
  simp [mk]

theorem conv1 (w : World) (x : Int) : (convert 65 9 (.slice (some ⟨w.heap.size, 0, none⟩) 1 1)).run Tryz.prog (w.alloc (.cells #[.int .u8 x] 5)) = .ok (.string (strOfNums [x])) (w.alloc (.cells #[.int .u8 x] 5)) := by
  refine run_convert_bytes_arg _ 65 5 Tryz.underlying65 Tryz.underlying5 w.heap.size 0 1 1 [x] rfl ?_ 9 Tryz.underlying9
  intro i hi
  obtain rfl : i = 0 := by omega
  simp [go_sem]

theorem rtext_pos (u : Nat) (w : World) (hu : u ≤ 9223372036854775807) : Calls Tryz.prog 46 #[.int .i64 u] w fun e w' => e = .returned (.string (mk (Lib.decDigits u))) ∧ Below w.heap.size w w' := by
  have hlen := dd_len 18 u (by omega)
  go_enter Tryz.func46, Tryz.ntmps46
  go_wp2
  go_loopw [0, 4, 5] (fun n s b wr => ∃ (v : Nat) (t : List UInt8) (c : Bool), v ≤ u ∧ n = .int .i64 v ∧ s = .string (mk t) ∧ b = .bool c ∧ Below w.heap.size w wr ∧ Lib.decDigits u = (if (c || decide (0 < v)) = true then Lib.decDigits v else []) ++ t) (fun n _ b _ => (intOf n).toNat * 2 + fb b)
  case atStart => exact ⟨u, [], true, Nat.le_refl _, rfl, rfl, rfl, Below.refl _ _, by simp⟩
  case round =>
    obtain ⟨v, t, c, hv, rfl, rfl, rfl, hbe, ht⟩ := hrel
    have htl : t.length ≤ 19 := by
      have := congrArg List.length ht
      rw [List.length_append] at this
      omega
    have htz := mk_size t
    cases hc : (c || decide (0 < v))
    · rw [hc] at ht
      have HT : Hid (Lib.decDigits u = t) := by rw [ht]; rfl
      clear ht
      obtain ⟨h1, h2⟩ : c = false ∧ ¬ 0 < v := by simpa using hc
      subst h1
      obtain rfl : v = 0 := by omega
      clear hc
      go_wp2
      go_ret
      rw [HT.out]
      exact ⟨rfl, hbe⟩
    · rw [hc, if_pos rfl] at ht
      obtain ⟨d, Hd⟩ : ∃ d, Hid (UInt8.ofNat (48 + v % 10) = d) := ⟨_, rfl⟩
      obtain ⟨T, HTT⟩ : ∃ T, Hid (T = d :: t) := ⟨d :: t, rfl⟩
      have HT : Hid (Lib.decDigits u = dz (v / 10) ++ (d :: t)) := by rw [ht, dd_dz v, Hd.out]; simp [Hid]
      clear ht
      have hcv : (convert 65 9 (.slice (some ⟨wr.heap.size, 0, none⟩) 1 1)).run Tryz.prog (wr.alloc (.cells #[.int .u8 (48 + (v : Int) % 10)] 5)) = .ok (.string (mk [d])) (wr.alloc (.cells #[.int .u8 (48 + (v : Int) % 10)] 5)) := by
        rw [conv1, str_one, show (48 + (v : Int) % 10).toNat = 48 + v % 10 by omega, Hd.out]
      have happ : mk [d] ++ mk t = mk T := by rw [HTT.out]; exact app_mk1 d t
      have hz1 : (mk [d]).size = 1 := rfl
      have hr1 : 0 ≤ (v : Int) % 10 := by omega
      have hr2 : (v : Int) % 10 < 10 := by omega
      cases c
      · have h0 : 0 < v := by simpa using hc
        clear hc
        go_wp2
        go_roundw
        case rel => exact ⟨v / 10, T, false, by omega, by go_num, rfl, rfl, hbe.alloc hbe.size _, by rw [HT.out, HTT.out]; unfold dz; by_cases h10 : v / 10 = 0 <;> simp [h10, Nat.pos_iff_ne_zero]⟩
        case measure => simp [intOf, fb]; omega
      · clear hc
        go_wp2
        go_roundw
        case rel => exact ⟨v / 10, T, false, by omega, by go_num, rfl, rfl, hbe.alloc hbe.size _, by rw [HT.out, HTT.out]; unfold dz; by_cases h10 : v / 10 = 0 <;> simp [h10, Nat.pos_iff_ne_zero]⟩
        case measure => simp [intOf, fb]; omega

theorem neg_tdiv (m : Nat) : (-(m : Int)).tdiv 10 = -((m / 10 : Nat) : Int) := by rw [Int.neg_tdiv]; rfl
theorem neg_tmod (m : Nat) : (-(m : Int)).tmod 10 = -((m % 10 : Nat) : Int) := by rw [Int.neg_tmod]; rfl
theorem itoa_dz (n : Int) (h : n < 0) : Lib.itoa n = 45 :: (dz (n.natAbs / 10) ++ [UInt8.ofNat (48 + n.natAbs % 10)]) := by rw [itoa_neg h, dd_dz]

theorem rtext_neg (n : Int) (w : World) (h : n < 0) (h0 : -9223372036854775808 ≤ n) : Calls Tryz.prog 46 #[.int .i64 n] w fun e w' => e = .returned (.string (mk (Lib.itoa n))) ∧ Below w.heap.size w w' := by
  obtain ⟨k, hk⟩ : ∃ k : Nat, k = n.natAbs / 10 := ⟨_, rfl⟩
  obtain ⟨r, hr⟩ : ∃ r : Nat, r = n.natAbs % 10 := ⟨_, rfl⟩
  have HI := itoa_dz n h
  rw [← hk, ← hr] at HI
  have hnm : n = -(n.natAbs : Int) := by omega
  have hdv : n.tdiv 10 = -(k : Int) := by rw [hk, hnm, neg_tdiv]; simp
  have hmd : n.tmod 10 = -(r : Int) := by rw [hr, hnm, neg_tmod]; simp
  clear hnm
  have hkb : (k : Int) ≤ 922337203685477580 := by omega
  have hr9 : (r : Int) ≤ 9 := by omega
  have hkz : n ≤ -10 ↔ 0 < k := by omega
  obtain ⟨d, Hd⟩ : ∃ d, Hid (UInt8.ofNat (48 + r) = d) := ⟨_, rfl⟩
  rw [Hd.out] at HI
  have hcv : ∀ w, (convert 65 9 (.slice (some ⟨World.heap w |>.size, 0, none⟩) 1 1)).run Tryz.prog (w.alloc (.cells #[.int .u8 (48 + (r : Int))] 5)) = .ok (.string (mk [d])) (w.alloc (.cells #[.int .u8 (48 + (r : Int))] 5)) := fun w => by
    rw [conv1, str_one, show (48 + (r : Int)).toNat = 48 + r by omega, Hd.out]
  clear hk hr
  have hz1 : (mk [d]).size = 1 := rfl
  by_cases hc : 0 < k
  · have hle : n ≤ -10 := hkz.2 hc
    have hdl := dd_len 18 k (by omega)
    have HIT : Hid (Lib.itoa n = 45 :: (Lib.decDigits k ++ [d])) := by rw [HI]; unfold dz; rw [if_neg (by omega)]; rfl
    clear HI hkz
    obtain ⟨A, HA⟩ : ∃ A, Hid (A = 45 :: Lib.decDigits k) := ⟨45 :: Lib.decDigits k, rfl⟩
    obtain ⟨B, HB⟩ : ∃ B, Hid (B = A ++ [d]) := ⟨A ++ [d], rfl⟩
    have hA : (⟨#[45]⟩ : ByteArray) ++ mk (Lib.decDigits k) = mk A := by rw [HA.out]; exact app_mk1 45 _
    have hB : mk A ++ mk [d] = mk B := by rw [HB.out]; apply ByteArray.ext; simp [mk]
    have hzk : (mk (Lib.decDigits k)).size = (Lib.decDigits k).length := mk_size _
    have hzA : (mk A).size = (Lib.decDigits k).length + 1 := by rw [mk_size, HA.out]; simp
    have HT : Hid (∀ w, Calls Tryz.prog 46 #[.int .i64 (k : Int)] w fun e w' => e = .returned (.string (mk (Lib.decDigits k))) ∧ Below w.heap.size w w') := fun w => rtext_pos k w (by omega)
    generalize mk (Lib.decDigits k) = D at hA hzk HT
    generalize (Lib.decDigits k).length = L at hzk hzA hdl
    go_enter Tryz.func46, Tryz.ntmps46
    go_wp2_with fail
    refine (HT.out _).mono ?_
    rintro e w1 ⟨rfl, hb1⟩
    have hcv1 := hcv w1
    go_wp2
    go_ret
    refine ⟨?_, hb1.alloc hb1.size _⟩
    rw [HIT.out]
    exact ret_str (by rw [HB.out, HA.out]; rfl)
  · have hle : ¬ n ≤ -10 := fun h => hc (hkz.1 h)
    have HIT : Hid (Lib.itoa n = [45, d]) := by
      rw [HI]; unfold dz; rw [if_pos (by omega)]; rfl
    clear HI hkz
    have hA : (⟨#[45]⟩ : ByteArray) ++ (⟨#[]⟩ : ByteArray) = ⟨#[45]⟩ := by decide
    have hB : (⟨#[45]⟩ : ByteArray) ++ mk [d] = mk [45, d] := app_mk1 45 [d]
    have hcv1 := hcv w
    go_enter Tryz.func46, Tryz.ntmps46
    go_wp2
    go_ret
    refine ⟨?_, (Below.refl _ _).alloc (Nat.le_refl _) _⟩
    rw [HIT.out]
    exact ret_str rfl

theorem rtext_any (n : Int) (w : World) (h : inI n) : Calls Tryz.prog 46 #[.int .i64 n] w fun e w' => e = .returned (.string (mk (Lib.itoa n))) ∧ Below w.heap.size w w' := by
  by_cases hn : n < 0
  · exact rtext_neg n w hn h.1
  · obtain ⟨u, rfl⟩ : ∃ u : Nat, n = u := ⟨n.toNat, by omega⟩
    rw [itoa_pos (by omega), Int.toNat_natCast]
    exact rtext_pos u w (by have := h.2; omega)

end Go.Proofs.YtaphijgbebhdlaaGreatDoor.Pln
end

section
/- The reference's Number, Resolve, by their contracts. -/
namespace Go.Proofs.YtaphijgbebhdlaaGreatDoor.Pln
open Utf Rws
open Go.RowKit
set_option linter.unusedSimpArgs false
set_option linter.unusedVariables false
set_option maxRecDepth 100000

/-- one digit more, below 0, going round -/
def stp (n : Int) (b : UInt8) : Int := wrap64 (wrap64 (n * 10) - ((b.toNat : Int) - 48))
def sgk (l : List UInt8) : Nat := if (l.getD 0 0 == 45) = true then 1 else 0
def rvf (l : List UInt8) : Int := (l.drop (sgk l)).foldl stp 0
def rn (l : List UInt8) : Int := if (l.getD 0 0 == 45) = true then rvf l else wrap64 (-(rvf l))

theorem wrap_in (x : Int) : inI (wrap64 x) := by unfold inI wrap64; omega
theorem wrap_id {x : Int} (h : inI x) : wrap64 x = x := by unfold inI at h; unfold wrap64; omega
theorem stp_in (n : Int) (b : UInt8) : inI (stp n b) := wrap_in _
theorem fold_in (l : List UInt8) (n : Int) (h : inI n) : inI (l.foldl stp n) := by
  induction l generalizing n with
  | nil => exact h
  | cons b r ih => exact ih _ (stp_in n b)
theorem rvf_in (l : List UInt8) : inI (rvf l) := fold_in _ 0 ⟨by decide, by decide⟩
theorem rn_in (l : List UInt8) : inI (rn l) := by
  unfold rn; split
  · exact rvf_in l
  · exact wrap_in _

theorem fold_dd (u : Nat) (h : u ≤ 9223372036854775808) : (Lib.decDigits u).foldl stp 0 = -(u : Int) := by
  induction u using Nat.strongRecOn with
  | ind u ih =>
    by_cases hu : u < 10
    · rw [dd_small hu]
      show stp 0 _ = _
      unfold stp
      rw [of48 u hu]
      unfold wrap64; omega
    · rw [dd_big hu, List.foldl_append, ih (u / 10) (by omega) (by omega)]
      show stp _ _ = _
      unfold stp
      rw [of48 (u % 10) (by omega), wrap_id (x := -((u / 10 : Nat) : Int) * 10) ⟨by omega, by omega⟩]
      rw [wrap_id ⟨by omega, by omega⟩]
      omega
theorem rn_itoa (v : Int) (h : inI v) : rn (Lib.itoa v) = v := by
  have hh := h
  unfold inI at hh
  by_cases hv : 0 ≤ v
  · have e := itoa_pos hv
    obtain ⟨c, r, e2, hc⟩ := dd_head v.toNat
    have hs : (Lib.itoa v).getD 0 0 = c := by rw [e, e2]; rfl
    have hn : (c == 45) = false := by
      rw [beq_eq_false_iff_ne]; rintro rfl; revert hc; decide
    unfold rn rvf sgk
    rw [hs, hn, e]
    simp only [Bool.false_eq_true, if_false, List.drop_zero]
    rw [fold_dd v.toNat (by omega), wrap_id ⟨by omega, by omega⟩]
    omega
  · have e := itoa_neg (v := v) (by omega)
    unfold rn rvf sgk
    rw [e]
    show (Lib.decDigits v.natAbs).foldl stp 0 = v
    rw [fold_dd v.natAbs (by omega)]
    omega
theorem numA_rn (l : List UInt8) : numA l = if Lib.itoa (rn l) = l then some (rn l) else none := by
  by_cases h : Lib.itoa (rn l) = l
  · rw [if_pos h]
    have := numA_itoa (rn l) (rn_in l)
    rw [h] at this; exact this
  · rw [if_neg h]
    cases hq : numA l with
    | none => rfl
    | some v =>
      obtain ⟨h1, h2⟩ := numA_some hq
      exfalso; apply h
      rw [← h1, rn_itoa v h2]
/-- what is a number's text has digits behind the sign, and not too many -/
theorem numA_len {l : List UInt8} (h : numA l ≠ none) : 1 ≤ l.length ∧ l.length ≤ 20 := by
  cases hq : numA l with
  | none => exact absurd hq h
  | some v =>
    obtain ⟨h1, h2⟩ := numA_some hq
    have a := itoa_len v h2
    have b := (itoa_dg v).2.1
    rw [h1] at a b
    exact ⟨List.length_pos_iff.2 b, a⟩
theorem numA_dig {l : List UInt8} (h : numA l ≠ none) (j : Nat) (hj : sgk l ≤ j) (hl : j < l.length) : dig (l.getD j 0) = true := by
  cases hq : numA l with
  | none => exact absurd hq h
  | some v =>
    obtain ⟨h1, h2⟩ := numA_some hq
    have hall : ∀ u, ∀ b ∈ Lib.decDigits u, dig b = true := fun u b hb => List.all_eq_true.1 (dd_dig u).1 b hb
    by_cases hv : 0 ≤ v
    · rw [itoa_pos hv] at h1
      exact hall v.toNat _ (by rw [h1]; exact getD_mem l j hl)
    · rw [itoa_neg (by omega)] at h1
      subst h1
      cases j with
      | zero => exact absurd hj (by show ¬ 1 ≤ 0; omega)
      | succ j =>
        have e : (45 :: Lib.decDigits v.natAbs).getD (j + 1) 0 = (Lib.decDigits v.natAbs).getD j 0 := rfl
        rw [e]
        exact hall _ _ (getD_mem _ j (by simpa using hl))
theorem take_drop_snoc (l : List UInt8) (k n : Nat) (hk : k ≤ n) (h : n < l.length) : (l.take (n + 1)).drop k = (l.take n).drop k ++ [l.getD n 0] := by
  rw [take_snoc l n h, List.drop_append_of_le_length (by rw [List.length_take]; omega)]

theorem rnumber_any (l : List UInt8) (w : World) (hs : l.length ≤ 140737488351232) : Calls Tryz.prog 110 #[.string (mk l)] w fun e w' => e = .returned (.tuple #[.int .i64 (numN l), .bool (numB l)]) ∧ Below w.heap.size w w' := by
  have hsz := mk_size l
  by_cases hlen : 1 ≤ l.length ∧ l.length ≤ 20
  · obtain ⟨hl1, hl2⟩ := hlen
    have hl1' : ¬ (l.length : Int) < 1 := by omega
    have hl2' : (l.length : Int) ≤ 20 := by omega
    have hg0 : ∀ h, (mk l)[0]'h = l.getD 0 0 := fun h => mk_getD l 0 h
    have h0z : 0 < (mk l).size := by rw [mk_size]; omega
    have y0 := b45 (l.getD 0 0)
    go_enter Tryz.func110, Tryz.ntmps110
    go_wp2
    go_loop [4, 5] (fun n i => ∃ j : Nat, j ≤ l.length ∧ i = .int .i64 j ∧ n = .int .i64 (((l.take j).drop (sgk l)).foldl stp 0)) (fun _ i => l.length - (intOf i).toNat)
    case atStart => exact ⟨0, Nat.zero_le _, rfl, by simp⟩
    case round =>
      obtain ⟨j, hj, rfl, rfl⟩ := hrel
      have hin := fold_in ((l.take j).drop (sgk l)) 0 ⟨by decide, by decide⟩
      by_cases hlt : j < l.length
      · have hg : ∀ h, (mk l)[j]'h = l.getD j 0 := fun h => mk_getD l j h
        have hlt' : j < (mk l).size := by rw [mk_size]; exact hlt
        have HSN0 : Hid (sgk l ≤ j → ((l.take (j + 1)).drop (sgk l)).foldl stp 0 = stp (((l.take j).drop (sgk l)).foldl stp 0) (l.getD j 0)) := fun hk => by
          rw [take_drop_snoc l (sgk l) j hk hlt, List.foldl_append]; rfl
        have HDG0 : Hid (numA l ≠ none → sgk l ≤ j → dig (l.getD j 0) = true) := fun h1 h2 => numA_dig h1 j h2 hlt
        generalize hN : ((l.take j).drop (sgk l)).foldl stp 0 = N at hin HSN0 ⊢
        have hin1 := hin.1
        have hin2 := hin.2
        by_cases hj0 : j = 0
        · subst hj0
          cases c45 : (l.getD 0 0 == 45)
          · rw [c45] at y0
            have hk : sgk l = 0 := by unfold sgk; rw [c45]; rfl
            have HSN : Hid (((l.take (0 + 1)).drop (sgk l)).foldl stp 0 = stp N (l.getD 0 0)) := HSN0.out (by omega)
            have HDG : Hid (numA l ≠ none → dig (l.getD 0 0) = true) := fun h => HDG0.out h (by omega)
            have HK : Hid (sgk l = 0) := hk
            clear HSN0 HDG0 hN c45 hk
            generalize l.getD 0 0 = b at hg0 hg y0 HSN HDG
            clear hg
            obtain ⟨j, hj9⟩ : ∃ j, j = 0 := ⟨0, rfl⟩
            subst hj9
            cases hd : dig b
            · have HE : Hid (numN l = 0 ∧ numB l = false) := by
                have e : numA l = none := by
                  cases hq : numA l with
                  | none => rfl
                  | some v => exact absurd (HDG.out (by rw [hq]; simp)) (by rw [hd]; simp)
                unfold numN numB; rw [e]; exact ⟨rfl, rfl⟩
              have hdd : ¬ (48 ≤ b.toNat ∧ b.toNat ≤ 57) := by
                intro h9; unfold dig at hd; simp at hd; omega
              by_cases h48 : (b.toNat : Int) < 48
              · go_wp2
                go_ret2
                rw [HE.out.1, HE.out.2]
                exact ⟨rfl, Below.refl _ _⟩
              · have h57 : (57 : Int) < (b.toNat : Int) := by omega
                go_wp2
                go_ret2
                rw [HE.out.1, HE.out.2]
                exact ⟨rfl, Below.refl _ _⟩
            · obtain ⟨d1, d2⟩ : 48 ≤ b.toNat ∧ b.toNat ≤ 57 := by unfold dig at hd; simpa using hd
              have h48 : (48 : Int) ≤ (b.toNat : Int) := by omega
              have h57 : (b.toNat : Int) ≤ 57 := by omega
              clear d1 d2 hd HDG
              go_wp2
              go_round
              case rel => exact ⟨0 + 1, by omega, by go_num, by rw [HSN.out]; rfl⟩
              case measure => simp [intOf]; omega
          · rw [c45] at y0
            have hk : sgk l = 1 := by unfold sgk; rw [c45]; rfl
            have HN0 : Hid (((l.take 1).drop (sgk l)).foldl stp 0 = N) := by
              rw [← hN, hk]; simp [Hid]
            clear HSN0 HDG0 hN c45 hk
            generalize l.getD 0 0 = b at hg0 hg y0
            clear hg
            go_wp2
            go_round
            case rel => exact ⟨1, by omega, by go_num, by rw [HN0.out]⟩
            case measure => simp [intOf]; omega
        · have hk : sgk l ≤ j := by unfold sgk; split <;> omega
          have HSN : Hid (((l.take (j + 1)).drop (sgk l)).foldl stp 0 = stp N (l.getD j 0)) := HSN0.out hk
          have HDG : Hid (numA l ≠ none → dig (l.getD j 0) = true) := fun h => HDG0.out h hk
          have hjz : ((j : Int) == 0) = false := by rw [beq_eq_false_iff_ne]; omega
          clear HSN0 HDG0 hN hk hj0
          generalize l.getD j 0 = b at hg HSN HDG
          clear hg0 y0
          cases hd : dig b
          · have HE : Hid (numN l = 0 ∧ numB l = false) := by
              have e : numA l = none := by
                cases hq : numA l with
                | none => rfl
                | some v => exact absurd (HDG.out (by rw [hq]; simp)) (by rw [hd]; simp)
              unfold numN numB; rw [e]; exact ⟨rfl, rfl⟩
            have hdd : ¬ (48 ≤ b.toNat ∧ b.toNat ≤ 57) := by
              intro h9; unfold dig at hd; simp at hd; omega
            by_cases h48 : (b.toNat : Int) < 48
            · go_wp2
              go_ret2
              rw [HE.out.1, HE.out.2]
              exact ⟨rfl, Below.refl _ _⟩
            · have h57 : (57 : Int) < (b.toNat : Int) := by omega
              go_wp2
              go_ret2
              rw [HE.out.1, HE.out.2]
              exact ⟨rfl, Below.refl _ _⟩
          · obtain ⟨d1, d2⟩ : 48 ≤ b.toNat ∧ b.toNat ≤ 57 := by unfold dig at hd; simpa using hd
            have h48 : (48 : Int) ≤ (b.toNat : Int) := by omega
            have h57 : (b.toNat : Int) ≤ 57 := by omega
            clear d1 d2 hd HDG
            go_wp2
            go_round
            case rel => exact ⟨j + 1, by omega, by go_num, by rw [HSN.out]; rfl⟩
            case measure => simp [intOf]; omega
      · have e : (l.take j).drop (sgk l) = l.drop (sgk l) := by rw [List.take_of_length_le (by omega)]
        rw [e]
        have HRV : Hid (rvf l = (l.drop (sgk l)).foldl stp 0) := rfl
        rw [← HRV.out]
        clear e hin
        have hin := rvf_in l
        have hin1 := hin.1
        have hin2 := hin.2
        have hA := numA_rn l
        have hrn : rn l = if (l.getD 0 0 == 45) = true then rvf l else wrap64 (-(rvf l)) := rfl
        have hX := fun w => rtext_any (rn l) w (rn_in l)
        have heq := eq_mk (Lib.itoa (rn l)) l
        have hrin := rn_in l
        generalize rvf l = N at hin1 hin2 hrn ⊢
        cases c45 : (l.getD 0 0 == 45)
        · rw [c45] at y0 hrn
          have y1 : (((l.getD 0 0).toNat : Int) != 45) = true := by rw [bne, y0]; rfl
          have hR : wrap64 (-N) = rn l := by rw [hrn]; rfl
          clear hrn c45
          generalize rn l = R at hX heq hrin hR hA
          have hr1 := hrin.1
          have hr2 := hrin.2
          clear y0
          generalize l.getD 0 0 = b at hg0 y1
          have HX : Hid (∀ w, Calls Tryz.prog 46 #[.int .i64 R] w fun e w' => e = .returned (.string (mk (Lib.itoa R))) ∧ Below w.heap.size w w') := hX
          clear hX
          by_cases he : Lib.itoa R = l
          · have HE : Hid (numN l = R ∧ numB l = true) := by unfold numN numB; rw [hA, if_pos he]; exact ⟨rfl, rfl⟩
            have hq : ((mk (Lib.itoa R)).toList == (mk l).toList) = true := by rw [heq, he]; simp
            clear he hA heq
            generalize mk (Lib.itoa R) = D at HX hq
            go_wp2_with fail
            refine (HX.out _).mono ?_
            rintro e w1 ⟨rfl, hb1⟩
            go_wp2
            go_ret2
            rw [HE.out.1, HE.out.2]
            exact ⟨rfl, hb1⟩
          · have HE : Hid (numN l = 0 ∧ numB l = false) := by unfold numN numB; rw [hA, if_neg he]; exact ⟨rfl, rfl⟩
            have hq : ((mk (Lib.itoa R)).toList == (mk l).toList) = false := by rw [heq]; simpa using he
            clear he hA heq
            generalize mk (Lib.itoa R) = D at HX hq
            go_wp2_with fail
            refine (HX.out _).mono ?_
            rintro e w1 ⟨rfl, hb1⟩
            go_wp2
            go_ret2
            rw [HE.out.1, HE.out.2]
            exact ⟨rfl, hb1⟩
        · rw [c45] at y0 hrn
          have y1 : (((l.getD 0 0).toNat : Int) != 45) = false := by rw [bne, y0]; rfl
          have hR : rn l = N := by rw [hrn]; rfl
          rw [hR] at hX heq hrin hA
          clear hrn c45 hR
          clear y0
          generalize l.getD 0 0 = b at hg0 y1
          have HX : Hid (∀ w, Calls Tryz.prog 46 #[.int .i64 N] w fun e w' => e = .returned (.string (mk (Lib.itoa N))) ∧ Below w.heap.size w w') := hX
          clear hX
          by_cases he : Lib.itoa N = l
          · have HE : Hid (numN l = N ∧ numB l = true) := by unfold numN numB; rw [hA, if_pos he]; exact ⟨rfl, rfl⟩
            have hq : ((mk (Lib.itoa N)).toList == (mk l).toList) = true := by rw [heq, he]; simp
            clear he hA heq
            generalize mk (Lib.itoa N) = D at HX hq
            go_wp2_with fail
            refine (HX.out _).mono ?_
            rintro e w1 ⟨rfl, hb1⟩
            go_wp2
            go_ret2
            rw [HE.out.1, HE.out.2]
            exact ⟨rfl, hb1⟩
          · have HE : Hid (numN l = 0 ∧ numB l = false) := by unfold numN numB; rw [hA, if_neg he]; exact ⟨rfl, rfl⟩
            have hq : ((mk (Lib.itoa N)).toList == (mk l).toList) = false := by rw [heq]; simpa using he
            clear he hA heq
            generalize mk (Lib.itoa N) = D at HX hq
            go_wp2_with fail
            refine (HX.out _).mono ?_
            rintro e w1 ⟨rfl, hb1⟩
            go_wp2
            go_ret2
            rw [HE.out.1, HE.out.2]
            exact ⟨rfl, hb1⟩
  · have HE : Hid (numN l = 0 ∧ numB l = false) := by
      have e : numA l = none := by
        cases hq : numA l with
        | none => rfl
        | some v => exact absurd (numA_len (l := l) (by rw [hq]; simp)) hlen
      unfold numN numB; rw [e]; exact ⟨rfl, rfl⟩
    by_cases hl1 : (l.length : Int) < 1
    · clear hlen
      go_enter Tryz.func110, Tryz.ntmps110
      go_wp2
      go_ret2
      rw [HE.out.1, HE.out.2]
      exact ⟨rfl, Below.refl _ _⟩
    · have hl2 : (20 : Int) < (l.length : Int) := by omega
      clear hlen
      go_enter Tryz.func110, Tryz.ntmps110
      go_wp2
      go_ret2
      rw [HE.out.1, HE.out.2]
      exact ⟨rfl, Below.refl _ _⟩

theorem rresolve_any (l : List UInt8) (w : World) (hs : l.length ≤ 140737488351232) : Calls Tryz.prog 91 #[.string (mk l)] w fun e w' => e = .returned (.int .i64 (kind l)) ∧ Below w.heap.size w w' := by
  have q1 := eq_l l []
  have q2 := eq_l l [126]
  have q3 := eq_l l [110, 117, 108, 108]
  have q4 := eq_l l [116, 114, 117, 101]
  have q5 := eq_l l [102, 97, 108, 115, 101]
  have HN : Hid (∀ w, Calls Tryz.prog 110 #[.string (mk l)] w fun e w' => e = .returned (.tuple #[.int .i64 (numN l), .bool (numB l)]) ∧ Below w.heap.size w w') := fun w => rnumber_any l w hs
  have hkd : kind l = if (l == [] || l == [126] || l == [110, 117, 108, 108]) = true then 1 else if (l == [116, 114, 117, 101] || l == [102, 97, 108, 115, 101]) = true then 2 else if numB l = true then 3 else 4 := rfl
  generalize (l == []) = v1 at q1 hkd
  generalize (l == [126]) = v2 at q2 hkd
  generalize (l == [110, 117, 108, 108]) = v3 at q3 hkd
  generalize (l == [116, 114, 117, 101]) = v4 at q4 hkd
  generalize (l == [102, 97, 108, 115, 101]) = v5 at q5 hkd
  generalize numB l = v6 at HN hkd
  generalize numN l = n at HN
  cases v1
  · cases v2
    · cases v3
      · cases v4
        · cases v5
          · cases v6
            · have HE : Hid (kind l = 4) := hkd
              clear hkd
              go_enter Tryz.func91, Tryz.ntmps91
              go_wp2_with (first | (go_at_call 110; refine (HN.out _).mono ?_; rintro e w1 ⟨rfl, hb1⟩))
              go_ret
              rw [HE.out]
              exact ⟨rfl, hb1⟩
            · have HE : Hid (kind l = 3) := hkd
              clear hkd
              go_enter Tryz.func91, Tryz.ntmps91
              go_wp2_with (first | (go_at_call 110; refine (HN.out _).mono ?_; rintro e w1 ⟨rfl, hb1⟩))
              go_ret
              rw [HE.out]
              exact ⟨rfl, hb1⟩
          · have HE : Hid (kind l = 2) := hkd
            clear hkd
            go_enter Tryz.func91, Tryz.ntmps91
            go_wp2_with (first | (go_at_call 110; refine (HN.out _).mono ?_; rintro e w1 ⟨rfl, hb1⟩))
            go_ret
            rw [HE.out]
            exact ⟨rfl, hb1⟩
        · have HE : Hid (kind l = 2) := hkd
          clear hkd
          go_enter Tryz.func91, Tryz.ntmps91
          go_wp2_with (first | (go_at_call 110; refine (HN.out _).mono ?_; rintro e w1 ⟨rfl, hb1⟩))
          go_ret
          rw [HE.out]
          exact ⟨rfl, hb1⟩
      · have HE : Hid (kind l = 1) := hkd
        clear hkd
        go_enter Tryz.func91, Tryz.ntmps91
        go_wp2_with (first | (go_at_call 110; refine (HN.out _).mono ?_; rintro e w1 ⟨rfl, hb1⟩))
        go_ret
        rw [HE.out]
        exact ⟨rfl, hb1⟩
    · have HE : Hid (kind l = 1) := hkd
      clear hkd
      go_enter Tryz.func91, Tryz.ntmps91
      go_wp2_with (first | (go_at_call 110; refine (HN.out _).mono ?_; rintro e w1 ⟨rfl, hb1⟩))
      go_ret
      rw [HE.out]
      exact ⟨rfl, hb1⟩
  · have HE : Hid (kind l = 1) := hkd
    clear hkd
    go_enter Tryz.func91, Tryz.ntmps91
    go_wp2_with (first | (go_at_call 110; refine (HN.out _).mono ?_; rintro e w1 ⟨rfl, hb1⟩))
    go_ret
    rw [HE.out]
    exact ⟨rfl, hb1⟩

end Go.Proofs.YtaphijgbebhdlaaGreatDoor.Pln
end
