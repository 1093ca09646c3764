/- The reference's Text, by its contract. -/
import Derived.Test.YtlocmdiljfkhkaaDoorPlainNum
import Derived.Test.YtlocmdiljfkhkaaDoorPlainRef
import Derived.Laws.BytesArg
namespace Go.Proofs.YtlocmdiljfkhkaaDoor.Pln
open Utf Rws
open Go.RowKit
set_option linter.unusedSimpArgs false
set_option linter.unusedVariables false
set_option maxRecDepth 100000

/-- a number's digits, but those of none where it is 0 -/
def dz (v : Nat) : List UInt8 := if v = 0 then [] else Lib.decDigits v
theorem dd_dz (v : Nat) : Lib.decDigits v = dz (v / 10) ++ [UInt8.ofNat (48 + v % 10)] := by
  unfold dz
  by_cases h : v < 10
  · rw [if_pos (by omega), dd_small h, show v % 10 = v by omega]; rfl
  · rw [if_neg (by omega)]; exact dd_big h
def fb : Value → Nat
  | .bool true => 1
  | _ => 0

theorem str_one (x : Int) : strOfNums [x] = mk [UInt8.ofNat x.toNat] := rfl
theorem app_mk1 (d : UInt8) (t : List UInt8) : mk [d] ++ mk t = mk (d :: t) := by
  apply ByteArray.ext
  simp [mk]

theorem conv1 (w : World) (x : Int) : (convert 46 9 (.slice (some ⟨w.heap.size, 0, none⟩) 1 1)).run Tryd.prog (w.alloc (.cells #[.int .u8 x] 5)) = .ok (.string (strOfNums [x])) (w.alloc (.cells #[.int .u8 x] 5)) := by
  refine run_convert_bytes_arg _ 46 5 Tryd.underlying46 Tryd.underlying5 w.heap.size 0 1 1 [x] rfl ?_ 9 Tryd.underlying9
  intro i hi
  obtain rfl : i = 0 := by omega
  simp [go_sem]

theorem rtext_pos (u : Nat) (w : World) (hu : u ≤ 9223372036854775807) : Calls Tryd.prog 20 #[.int .i64 u] w fun e w' => e = .returned (.string (mk (Lib.decDigits u))) ∧ Below w.heap.size w w' := by
  have hlen := dd_len 18 u (by omega)
  go_enter Tryd.func20, Tryd.ntmps20
  go_wp2
  go_loopw [0, 4, 5] (fun n s b wr => ∃ (v : Nat) (t : List UInt8) (c : Bool), v ≤ u ∧ n = .int .i64 v ∧ s = .string (mk t) ∧ b = .bool c ∧ Below w.heap.size w wr ∧ Lib.decDigits u = (if (c || decide (0 < v)) = true then Lib.decDigits v else []) ++ t) (fun n _ b _ => (intOf n).toNat * 2 + fb b)
  case atStart => exact ⟨u, [], true, Nat.le_refl _, rfl, rfl, rfl, Below.refl _ _, by simp⟩
  case round =>
    obtain ⟨v, t, c, hv, rfl, rfl, rfl, hbe, ht⟩ := hrel
    have htl : t.length ≤ 19 := by
      have := congrArg List.length ht
      rw [List.length_append] at this
      omega
    have htz := mk_size t
    cases hc : (c || decide (0 < v))
    · rw [hc] at ht
      have HT : Hid (Lib.decDigits u = t) := by rw [ht]; rfl
      clear ht
      obtain ⟨h1, h2⟩ : c = false ∧ ¬ 0 < v := by simpa using hc
      subst h1
      obtain rfl : v = 0 := by omega
      clear hc
      go_wp2
      go_ret
      rw [HT.out]
      exact ⟨rfl, hbe⟩
    · rw [hc, if_pos rfl] at ht
      obtain ⟨d, Hd⟩ : ∃ d, Hid (UInt8.ofNat (48 + v % 10) = d) := ⟨_, rfl⟩
      obtain ⟨T, HTT⟩ : ∃ T, Hid (T = d :: t) := ⟨d :: t, rfl⟩
      have HT : Hid (Lib.decDigits u = dz (v / 10) ++ (d :: t)) := by rw [ht, dd_dz v, Hd.out]; simp [Hid]
      clear ht
      have hcv : (convert 46 9 (.slice (some ⟨wr.heap.size, 0, none⟩) 1 1)).run Tryd.prog (wr.alloc (.cells #[.int .u8 (48 + (v : Int) % 10)] 5)) = .ok (.string (mk [d])) (wr.alloc (.cells #[.int .u8 (48 + (v : Int) % 10)] 5)) := by
        rw [conv1, str_one, show (48 + (v : Int) % 10).toNat = 48 + v % 10 by omega, Hd.out]
      have happ : mk [d] ++ mk t = mk T := by rw [HTT.out]; exact app_mk1 d t
      have hz1 : (mk [d]).size = 1 := rfl
      have hr1 : 0 ≤ (v : Int) % 10 := by omega
      have hr2 : (v : Int) % 10 < 10 := by omega
      cases c
      · have h0 : 0 < v := by simpa using hc
        clear hc
        go_wp2
        go_roundw
        case rel => exact ⟨v / 10, T, false, by omega, by go_num, rfl, rfl, hbe.alloc hbe.size _, by rw [HT.out, HTT.out]; unfold dz; by_cases h10 : v / 10 = 0 <;> simp [h10, Nat.pos_iff_ne_zero]⟩
        case measure => simp [intOf, fb]; omega
      · clear hc
        go_wp2
        go_roundw
        case rel => exact ⟨v / 10, T, false, by omega, by go_num, rfl, rfl, hbe.alloc hbe.size _, by rw [HT.out, HTT.out]; unfold dz; by_cases h10 : v / 10 = 0 <;> simp [h10, Nat.pos_iff_ne_zero]⟩
        case measure => simp [intOf, fb]; omega

theorem neg_tdiv (m : Nat) : (-(m : Int)).tdiv 10 = -((m / 10 : Nat) : Int) := by rw [Int.neg_tdiv]; rfl
theorem neg_tmod (m : Nat) : (-(m : Int)).tmod 10 = -((m % 10 : Nat) : Int) := by rw [Int.neg_tmod]; rfl
theorem itoa_dz (n : Int) (h : n < 0) : Lib.itoa n = 45 :: (dz (n.natAbs / 10) ++ [UInt8.ofNat (48 + n.natAbs % 10)]) := by rw [itoa_neg h, dd_dz]

theorem rtext_neg (n : Int) (w : World) (h : n < 0) (h0 : -9223372036854775808 ≤ n) : Calls Tryd.prog 20 #[.int .i64 n] w fun e w' => e = .returned (.string (mk (Lib.itoa n))) ∧ Below w.heap.size w w' := by
  obtain ⟨k, hk⟩ : ∃ k : Nat, k = n.natAbs / 10 := ⟨_, rfl⟩
  obtain ⟨r, hr⟩ : ∃ r : Nat, r = n.natAbs % 10 := ⟨_, rfl⟩
  have HI := itoa_dz n h
  rw [← hk, ← hr] at HI
  have hnm : n = -(n.natAbs : Int) := by omega
  have hdv : n.tdiv 10 = -(k : Int) := by rw [hk, hnm, neg_tdiv]; simp
  have hmd : n.tmod 10 = -(r : Int) := by rw [hr, hnm, neg_tmod]; simp
  clear hnm
  have hkb : (k : Int) ≤ 922337203685477580 := by omega
  have hr9 : (r : Int) ≤ 9 := by omega
  have hkz : n ≤ -10 ↔ 0 < k := by omega
  obtain ⟨d, Hd⟩ : ∃ d, Hid (UInt8.ofNat (48 + r) = d) := ⟨_, rfl⟩
  rw [Hd.out] at HI
  have hcv : ∀ w, (convert 46 9 (.slice (some ⟨World.heap w |>.size, 0, none⟩) 1 1)).run Tryd.prog (w.alloc (.cells #[.int .u8 (48 + (r : Int))] 5)) = .ok (.string (mk [d])) (w.alloc (.cells #[.int .u8 (48 + (r : Int))] 5)) := fun w => by
    rw [conv1, str_one, show (48 + (r : Int)).toNat = 48 + r by omega, Hd.out]
  clear hk hr
  have hz1 : (mk [d]).size = 1 := rfl
  by_cases hc : 0 < k
  · have hle : n ≤ -10 := hkz.2 hc
    have hdl := dd_len 18 k (by omega)
    have HIT : Hid (Lib.itoa n = 45 :: (Lib.decDigits k ++ [d])) := by rw [HI]; unfold dz; rw [if_neg (by omega)]; rfl
    clear HI hkz
    obtain ⟨A, HA⟩ : ∃ A, Hid (A = 45 :: Lib.decDigits k) := ⟨45 :: Lib.decDigits k, rfl⟩
    obtain ⟨B, HB⟩ : ∃ B, Hid (B = A ++ [d]) := ⟨A ++ [d], rfl⟩
    have hA : (⟨#[45]⟩ : ByteArray) ++ mk (Lib.decDigits k) = mk A := by rw [HA.out]; exact app_mk1 45 _
    have hB : mk A ++ mk [d] = mk B := by rw [HB.out]; apply ByteArray.ext; simp [mk]
    have hzk : (mk (Lib.decDigits k)).size = (Lib.decDigits k).length := mk_size _
    have hzA : (mk A).size = (Lib.decDigits k).length + 1 := by rw [mk_size, HA.out]; simp
    have HT : Hid (∀ w, Calls Tryd.prog 20 #[.int .i64 (k : Int)] w fun e w' => e = .returned (.string (mk (Lib.decDigits k))) ∧ Below w.heap.size w w') := fun w => rtext_pos k w (by omega)
    generalize mk (Lib.decDigits k) = D at hA hzk HT
    generalize (Lib.decDigits k).length = L at hzk hzA hdl
    go_enter Tryd.func20, Tryd.ntmps20
    go_wp2_with fail
    refine (HT.out _).mono ?_
    rintro e w1 ⟨rfl, hb1⟩
    have hcv1 := hcv w1
    go_wp2
    go_ret
    refine ⟨?_, hb1.alloc hb1.size _⟩
    rw [HIT.out]
    exact ret_str (by rw [HB.out, HA.out]; rfl)
  · have hle : ¬ n ≤ -10 := fun h => hc (hkz.1 h)
    have HIT : Hid (Lib.itoa n = [45, d]) := by
      rw [HI]; unfold dz; rw [if_pos (by omega)]; rfl
    clear HI hkz
    have hA : (⟨#[45]⟩ : ByteArray) ++ (⟨#[]⟩ : ByteArray) = ⟨#[45]⟩ := by decide
    have hB : (⟨#[45]⟩ : ByteArray) ++ mk [d] = mk [45, d] := app_mk1 45 [d]
    have hcv1 := hcv w
    go_enter Tryd.func20, Tryd.ntmps20
    go_wp2
    go_ret
    refine ⟨?_, (Below.refl _ _).alloc (Nat.le_refl _) _⟩
    rw [HIT.out]
    exact ret_str rfl

theorem rtext_any (n : Int) (w : World) (h : inI n) : Calls Tryd.prog 20 #[.int .i64 n] w fun e w' => e = .returned (.string (mk (Lib.itoa n))) ∧ Below w.heap.size w w' := by
  by_cases hn : n < 0
  · exact rtext_neg n w hn h.1
  · obtain ⟨u, rfl⟩ : ∃ u : Nat, n = u := ⟨n.toNat, by omega⟩
    rw [itoa_pos (by omega), Int.toNat_natCast]
    exact rtext_pos u w (by have := h.2; omega)

end Go.Proofs.YtlocmdiljfkhkaaDoor.Pln
