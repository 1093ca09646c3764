/- The reference's hex, escaped, Simple, Single, Double, by their contracts. -/
import Derived.Test.YtiipndfogofhgaaDoorQuoteOb
import Derived.Test.YtiipndfogofhgaaDoorQuoteSng
import Derived.Test.YtiipndfogofhgaaDoorQuoteDbl
import Derived.Lib.SlBytesConst
namespace Go.Proofs.YtiipndfogofhgaaDoor.Quo
open Utf Rws
open Go.RowKit
set_option linter.unusedSimpArgs false
set_option linter.unusedVariables false
set_option maxRecDepth 100000

theorem hexL_div : ∀ (k n : Nat), hexL (k + 1) n = hexL k (n / 16) ++ [hxd (n % 16)]
  | 0, n => by simp [hexL]
  | k + 1, n => by
    have ih := hexL_div k n
    rw [hexL, ih, hexL]
    have e : n / 16 ^ (k + 1) = n / 16 / 16 ^ k := by rw [Nat.pow_succ, Nat.mul_comm, Nat.div_div_eq_div_mul]
    rw [e]
    rfl
theorem rtmod (n : Nat) : (n : Int).tmod 16 = ((n % 16 : Nat) : Int) := by rw [Int.tmod_eq_emod_of_nonneg (by omega)]; omega
theorem rtdiv (n : Nat) : (n : Int).tdiv 16 = ((n / 16 : Nat) : Int) := by rw [Int.tdiv_eq_ediv_of_nonneg (by omega)]; omega

set_option maxHeartbeats 1000000 in
theorem rhex_any (n k : Nat) (w : World) (hn : n ≤ 1114111) (hk : k ≤ 8) : Calls Tryd.prog 52 #[.int .i64 (n : Int), .int .i64 (k : Int)] w fun e w' => e = .returned (.string (mk (hexL k n))) ∧ Below w.heap.size w w' := by
  go_enter Tryd.func52, Tryd.ntmps52
  go_wp2
  go_loopw [0, 5, 6] (fun a s i wr => ∃ (j m : Nat) (o : List UInt8), j ≤ k ∧ m ≤ 1114111 ∧ o.length = j ∧ a = .int .i64 (m : Int) ∧ i = .int .i64 (j : Int) ∧ s = .string (mk o) ∧ hexL k n = hexL (k - j) m ++ o ∧ Below w.heap.size w wr) (fun _ _ i _ => k - (intOf i).toNat)
  case atStart => exact ⟨0, n, [], Nat.zero_le _, hn, rfl, rfl, rfl, rfl, by simp, Below.refl _ _⟩
  case round =>
    obtain ⟨j, m, o, hj, hm, hol, rfl, rfl, rfl, hE, hbe⟩ := hrel
    have HE : Hid (hexL k n = hexL (k - j) m ++ o) := hE
    have HO : Hid (o.length = j) := hol
    have hoz : (mk o).size ≤ 8 := by rw [mk_size, hol]; omega
    clear hE hol
    by_cases hlt : j < k
    · obtain ⟨r, hr⟩ : ∃ r, k - j = r + 1 := ⟨k - j - 1, by omega⟩
      have HN : Hid (hexL k n = hexL (k - (j + 1)) (m / 16) ++ (hxd (m % 16) :: o)) := by
        rw [HE.out, hr, hexL_div, show k - (j + 1) = r by omega]; simp [Hid]
      obtain ⟨d, hd⟩ : ∃ d, d = m % 16 := ⟨_, rfl⟩
      have hd16 : d < 16 := by omega
      have ht := rtmod m
      have hq := rtdiv m
      rw [← hd] at ht HN
      have HD : Hid (d = m % 16) := hd
      have hdx : ∀ h, (⟨#[48, 49, 50, 51, 52, 53, 54, 55, 56, 57, 97, 98, 99, 100, 101, 102]⟩ : ByteArray)[d]'h = hxd d := fun h => digs ⟨d, hd16⟩ h
      have hcat : mk [hxd d] ++ mk o = mk (hxd d :: o) := by
        apply ByteArray.ext; apply Array.ext'; simp [mk]
      have hcv : (convert 42 9 (.slice (some ⟨wr.heap.size, 0, none⟩) 1 1)).run Tryd.prog (wr.alloc (.cells #[.int .u8 ((hxd d).toNat : Int)] 5)) = .ok (.string (mk [hxd d])) (wr.alloc (.cells #[.int .u8 ((hxd d).toNat : Int)] 5)) := by
        have q := run_convert_bytes_arg (wr.alloc (.cells #[.int .u8 ((hxd d).toNat : Int)] 5)) 42 5 Tryd.underlying42 Tryd.underlying5 wr.heap.size 0 1 1 [((hxd d).toNat : Int)] rfl (by
          intro i hi
          obtain rfl : i = 0 := by omega
          rw [cell_of_row _ wr.heap.size (0 + 0) _ _ (0, 0) (heap_alloc_new wr _)]
          rfl) 9 Tryd.underlying9
        rw [q]
        have e : strOfNums [((hxd d).toNat : Int)] = mk [hxd d] := str_bytes [hxd d]
        rw [e]
      have hws := hbe.size
      have h1z : (mk [hxd d]).size = 1 := rfl
      clear hd hr HE
      go_wp2
      go_roundw
      case rel => exact ⟨j + 1, m / 16, hxd d :: o, by omega, by omega, by rw [List.length_cons, HO.out], by go_num, by go_num, rfl, HN.out, hbe.alloc hws _⟩
      case measure => simp [intOf]; omega
    · have HX : Hid (hexL k n = o) := by rw [HE.out, show k - j = 0 by omega]; exact rfl
      go_wp2
      go_ret
      exact ⟨by rw [HX.out]; rfl, hbe⟩

set_option maxHeartbeats 2000000 in
theorem rescaped_any (n : Int) (w : World) (hsg : sgn n = true) : Calls Tryd.prog 31 #[.int .i64 n] w fun e w' => e = .returned (.string (mk (esc n))) ∧ Below w.heap.size w w' := by
  have hbd := sgn_bd hsg
  obtain ⟨V, HV⟩ : ∃ V, Hid (V = esc n) := ⟨_, rfl⟩
  rw [← HV.out]
  by_cases c34 : n = 34
  · have HVV : Hid (V = [92, 34]) := by rw [HV.out, c34]; exact rfl
    have q34 : (n == 34) = true := by simpa using c34
    clear c34 hsg hbd
    go_enter Tryd.func31, Tryd.ntmps31
    go_wp2
    go_ret
    exact ⟨by rw [HVV.out]; rfl, Below.refl _ _⟩
  by_cases c92 : n = 92
  · have HVV : Hid (V = [92, 92]) := by rw [HV.out, c92]; exact rfl
    have q34 : (n == 34) = false := by simpa using c34
    have q92 : (n == 92) = true := by simpa using c92
    clear c34 c92 hsg hbd
    go_enter Tryd.func31, Tryd.ntmps31
    go_wp2
    go_ret
    exact ⟨by rw [HVV.out]; rfl, Below.refl _ _⟩
  by_cases c9 : n = 9
  · have HVV : Hid (V = [92, 116]) := by rw [HV.out, c9]; exact rfl
    have q34 : (n == 34) = false := by simpa using c34
    have q92 : (n == 92) = false := by simpa using c92
    have q9 : (n == 9) = true := by simpa using c9
    clear c34 c92 c9 hsg hbd
    go_enter Tryd.func31, Tryd.ntmps31
    go_wp2
    go_ret
    exact ⟨by rw [HVV.out]; rfl, Below.refl _ _⟩
  by_cases c10 : n = 10
  · have HVV : Hid (V = [92, 110]) := by rw [HV.out, c10]; exact rfl
    have q34 : (n == 34) = false := by simpa using c34
    have q92 : (n == 92) = false := by simpa using c92
    have q9 : (n == 9) = false := by simpa using c9
    have q10 : (n == 10) = true := by simpa using c10
    clear c34 c92 c9 c10 hsg hbd
    go_enter Tryd.func31, Tryd.ntmps31
    go_wp2
    go_ret
    exact ⟨by rw [HVV.out]; rfl, Below.refl _ _⟩
  by_cases c13 : n = 13
  · have HVV : Hid (V = [92, 114]) := by rw [HV.out, c13]; exact rfl
    have q34 : (n == 34) = false := by simpa using c34
    have q92 : (n == 92) = false := by simpa using c92
    have q9 : (n == 9) = false := by simpa using c9
    have q10 : (n == 10) = false := by simpa using c10
    have q13 : (n == 13) = true := by simpa using c13
    clear c34 c92 c9 c10 c13 hsg hbd
    go_enter Tryd.func31, Tryd.ntmps31
    go_wp2
    go_ret
    exact ⟨by rw [HVV.out]; rfl, Below.refl _ _⟩
  by_cases c0 : n = 0
  · have HVV : Hid (V = [92, 48]) := by rw [HV.out, c0]; exact rfl
    have q34 : (n == 34) = false := by simpa using c34
    have q92 : (n == 92) = false := by simpa using c92
    have q9 : (n == 9) = false := by simpa using c9
    have q10 : (n == 10) = false := by simpa using c10
    have q13 : (n == 13) = false := by simpa using c13
    have q0 : (n == 0) = true := by simpa using c0
    clear c34 c92 c9 c10 c13 c0 hsg hbd
    go_enter Tryd.func31, Tryd.ntmps31
    go_wp2
    go_ret
    exact ⟨by rw [HVV.out]; rfl, Below.refl _ _⟩
  have q34 : (n == 34) = false := by simpa using c34
  have q92 : (n == 92) = false := by simpa using c92
  have q9 : (n == 9) = false := by simpa using c9
  have q10 : (n == 10) = false := by simpa using c10
  have q13 : (n == 13) = false := by simpa using c13
  have q0 : (n == 0) = false := by simpa using c0
  have hE : esc n = if may n = true then u8s (byt n) else if n < 256 then 92 :: 120 :: hexL 2 n.toNat else if n < 65536 then 92 :: 117 :: hexL 4 n.toNat else 92 :: 85 :: hexL 8 n.toNat := by
    unfold esc
    rw [if_neg c34, if_neg c92, if_neg c9, if_neg c10, if_neg c13, if_neg c0]
  obtain ⟨N, hN⟩ : ∃ N : Nat, n = (N : Int) := ⟨n.toNat, by omega⟩
  have hNt : n.toNat = N := by omega
  rw [hNt] at hE
  have hN2 : N ≤ 1114111 := by omega
  obtain ⟨n0, n1, n2⟩ := hbd
  have HSG : Hid (sgn n = true) := hsg
  have HN : Hid (n = (N : Int)) := hN
  clear c34 c92 c9 c10 c13 c0 hNt hsg
  have hhx : ∀ k : Nat, k ≤ 8 → ∀ w, Calls Tryd.prog 52 #[.int .i64 n, .int .i64 (k : Int)] w fun e w' => e = .returned (.string (mk (hexL k N))) ∧ Below w.heap.size w w' := fun k hk w => by rw [hN]; exact rhex_any N k w hN2 hk
  have hsz : ∀ k : Nat, (mk (hexL k N)).size = k := fun k => by rw [mk_size, hexL_len]
  cases hm : may n
  · rw [hm, if_neg (by decide)] at hE
    by_cases a1 : n < 256
    · rw [if_pos a1] at hE
      have HX : Hid (∀ w, Calls Tryd.prog 52 #[.int .i64 n, .int .i64 2] w fun e w' => e = .returned (.string (mk (hexL 2 N))) ∧ Below w.heap.size w w') := fun w => hhx 2 (by decide) w
      have hz := hsz 2
      have HVV : Hid ((⟨#[92, 120]⟩ : ByteArray) ++ mk (hexL 2 N) = mk V) := by
        rw [HV.out, hE]; apply ByteArray.ext; apply Array.ext'; simp [mk]
      clear hN hhx hsz hE
      go_enter Tryd.func31, Tryd.ntmps31
      go_wp2_with (first | (go_at_call 26; refine (rmay_any _ _).mono ?_; rintro e w' ⟨rfl, rfl⟩) | (go_at_call 52; refine (HX.out _).mono ?_; rintro e w1 ⟨rfl, b1⟩))
      go_ret
      exact ⟨by rw [HVV.out]; rfl, b1⟩
    by_cases a2 : n < 65536
    · rw [if_neg a1, if_pos a2] at hE
      have HX : Hid (∀ w, Calls Tryd.prog 52 #[.int .i64 n, .int .i64 4] w fun e w' => e = .returned (.string (mk (hexL 4 N))) ∧ Below w.heap.size w w') := fun w => hhx 4 (by decide) w
      have hz := hsz 4
      have HVV : Hid ((⟨#[92, 117]⟩ : ByteArray) ++ mk (hexL 4 N) = mk V) := by
        rw [HV.out, hE]; apply ByteArray.ext; apply Array.ext'; simp [mk]
      clear hN hhx hsz hE
      go_enter Tryd.func31, Tryd.ntmps31
      go_wp2_with (first | (go_at_call 26; refine (rmay_any _ _).mono ?_; rintro e w' ⟨rfl, rfl⟩) | (go_at_call 52; refine (HX.out _).mono ?_; rintro e w1 ⟨rfl, b1⟩))
      go_ret
      exact ⟨by rw [HVV.out]; rfl, b1⟩
    · rw [if_neg a1, if_neg a2] at hE
      have HX : Hid (∀ w, Calls Tryd.prog 52 #[.int .i64 n, .int .i64 8] w fun e w' => e = .returned (.string (mk (hexL 8 N))) ∧ Below w.heap.size w w') := fun w => hhx 8 (by decide) w
      have hz := hsz 8
      have HVV : Hid ((⟨#[92, 85]⟩ : ByteArray) ++ mk (hexL 8 N) = mk V) := by
        rw [HV.out, hE]; apply ByteArray.ext; apply Array.ext'; simp [mk]
      clear hN hhx hsz hE
      go_enter Tryd.func31, Tryd.ntmps31
      go_wp2_with (first | (go_at_call 26; refine (rmay_any _ _).mono ?_; rintro e w' ⟨rfl, rfl⟩) | (go_at_call 52; refine (HX.out _).mono ?_; rintro e w1 ⟨rfl, b1⟩))
      go_ret
      exact ⟨by rw [HVV.out]; rfl, b1⟩
  · have HVV : Hid (mk (sgb n) = mk V) := by rw [HV.out, hE, if_pos hm]; unfold sgb; rw [if_pos HSG.out]; exact rfl
    clear hN hhx hsz hE
    go_enter Tryd.func31, Tryd.ntmps31
    go_wp2_with (first | (go_at_call 26; refine (rmay_any _ _).mono ?_; rintro e w' ⟨rfl, rfl⟩) | (go_at_call 24; refine (rtext_any _ _).mono ?_; rintro e w1 ⟨rfl, b1⟩))
    go_ret
    exact ⟨by rw [HVV.out]; rfl, b1⟩

end Go.Proofs.YtiipndfogofhgaaDoor.Quo
