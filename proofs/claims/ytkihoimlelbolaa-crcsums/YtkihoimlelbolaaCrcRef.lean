/- The reference's sums: bit by bit. -/
import Derived.Test.YtkihoimlelbolaaCrcSum
namespace Go.Proofs.Ytkihoimlelbolaa.Crc
open Go.RowKit
set_option linter.unusedSimpArgs false
set_option linter.unusedVariables false

theorem halfs_succ (n : Nat) (x : W32) : halfs (n + 1) x = half (halfs n x) := by rw [← halfs_half]; rfl

theorem rbytes_any (s : W32) (a : Option Addr) (len cap : Nat) (l : List UInt8) (w : World) (hl : Bys w a len l) (hm : len ≤ maxLen) :
    Calls Try.prog 19 #[.int .u32 (nm s), .slice a len cap] w fun e w' => e = .returned (.int .u32 (nm (bys s l))) ∧ w = w' := by
  have hs0 := nm_lo s
  have hs1 := nm_hi s
  have HZ : Hid (Bys w a len l) := hl
  have HL : Hid (len = l.length) := hl.1
  unfold maxLen at hm
  clear hl
  go_enter Try.func19, Try.ntmps19
  go_wp2
  go_loop [0, 5] (fun x i => ∃ (k : Nat) (st : W32), k ≤ len ∧ i = .int .i64 k ∧ x = .int .u32 (nm st) ∧ st = bys s (l.take k)) (fun _ i => len - (intOf i).toNat)
  case atStart => exact ⟨0, s, Nat.zero_le _, rfl, rfl, rfl⟩
  case round =>
    obtain ⟨k, st, hk, rfl, rfl, hst⟩ := hrel
    have HST : Hid (st = bys s (l.take k)) := hst
    clear hst
    have hx0 := nm_lo st
    have hx1 := nm_hi st
    by_cases hlt : k < len
    · have hlz : decide ((k : Int) < (len : Int)) = true := decide_eq_true (by omega)
      obtain ⟨b, off, rfl, hb, hc⟩ := HZ.out.2 (by omega)
      have hck := hc k hlt
      have HNX : Hid (_ = _) := bys_snoc s l k (by rw [← HL.out]; exact hlt)
      clear hc
      generalize l.getD k 0 = x at *
      have hy0 := nm_lo (wd x)
      have hy1 := nm_wd_hi x
      obtain ⟨s1, e1⟩ : ∃ s1, Hid (s1 = st ^^^ wd x) := ⟨_, rfl⟩
      have x1 : bits .xor .u32 (nm st) (nm (wd x)) = nm s1 := by rw [nm_xor, e1.out]
      go_wp2
      go_loop [0, 6] (fun x j => ∃ (m : Nat), m ≤ 8 ∧ j = .int .i64 m ∧ x = .int .u32 (nm (halfs m s1))) (fun _ j => 8 - (intOf j).toNat)
      case atStart => exact ⟨0, by omega, rfl, rfl⟩
      case round =>
        obtain ⟨m, hm8, rfl, rfl⟩ := hrel
        have hz0 := nm_lo (halfs m s1)
        have hz1 := nm_hi (halfs m s1)
        by_cases hm : m < 8
        · go_wp2_with (go_at_call 21; refine (rhalf_any _ _).mono ?_; rintro e w' ⟨rfl, rfl⟩)
          go_round
          case rel => exact ⟨m + 1, by omega, by go_num, int_u (by rw [halfs_succ])⟩
          case measure => simp [intOf]; omega
        · have HM : Hid (m = 8) := by show m = 8; omega
          go_wp2
          go_round
          case rel => exact ⟨k + 1, halfs m s1, by omega, by go_num, rfl, by rw [HNX.out, ← HST.out, ← e1.out, HM.out]⟩
          case measure => simp [intOf]; omega
    · have HF : Hid (l.take k = l) := by
        show l.take k = l
        exact List.take_of_length_le (by have := HL.out; omega)
      go_wp2
      go_ret
      exact ⟨ret_u (by rw [HST.out, HF.out]), rfl⟩

theorem radd_any (s : W32) (a : Option Addr) (len cap : Nat) (l : List UInt8) (w : World) (hl : Bys w a len l) (hm : len ≤ maxLen) :
    Calls Try.prog 13 #[.int .u32 (nm s), .slice a len cap] w fun e w' => e = .returned (.int .u32 (nm (add s l))) ∧ w = w' := by
  have hs0 := nm_lo s
  have hs1 := nm_hi s
  have HZ : Hid (Bys w a len l) := hl
  have HM : Hid (len ≤ maxLen) := hm
  clear hl hm
  go_enter Try.func13, Try.ntmps13
  go_wp2_with (first | (go_at_call 18; refine (rturned_any _ _).mono ?_; rintro e w' ⟨rfl, rfl⟩) | (go_at_call 19; refine (rbytes_any _ _ _ _ _ _ HZ.out HM.out).mono ?_; rintro e w' ⟨rfl, rfl⟩))
  go_ret
  exact ⟨rfl, rfl⟩

theorem rsum_any (a : Option Addr) (len cap : Nat) (ps : List (List UInt8)) (w : World) (hl : Parts w a len ps) (hm : len ≤ maxLen) :
    Calls Try.prog 10 #[.slice a len cap] w fun e w' => e = .returned (.int .u32 (nm (sums ps))) ∧ w = w' := by
  have HZ : Hid (Parts w a len ps) := hl
  have HL : Hid (len = ps.length) := hl.1
  unfold maxLen at hm
  clear hl
  go_enter Try.func10, Try.ntmps10
  go_wp2
  go_loop [3, 4] (fun x i => ∃ (k : Nat) (st : W32), k ≤ len ∧ i = .int .i64 k ∧ x = .int .u32 (nm st) ∧ st = sums (ps.take k)) (fun _ i => len - (intOf i).toNat)
  case atStart => exact ⟨0, 0, Nat.zero_le _, rfl, int_u nm_zero.symm, rfl⟩
  case round =>
    obtain ⟨k, st, hk, rfl, rfl, hst⟩ := hrel
    have HST : Hid (st = sums (ps.take k)) := hst
    clear hst
    have hx0 := nm_lo st
    have hx1 := nm_hi st
    by_cases hlt : k < len
    · obtain ⟨b, off, rfl, hb, hc⟩ := HZ.out.2 (by omega)
      obtain ⟨pa, pl, pc, hck, hB, hM⟩ := hc k hlt
      have HB : Hid (Bys w pa pl (ps.getD k [])) := hB
      have HM : Hid (pl ≤ maxLen) := hM
      have HNX : Hid (_ = _) := sums_snoc ps k (by rw [← HL.out]; exact hlt)
      clear hc hB hM
      go_wp2_with (go_at_call 13; refine (radd_any _ _ _ _ _ _ HB.out HM.out).mono ?_; rintro e w' ⟨rfl, rfl⟩)
      go_round
      case rel => exact ⟨k + 1, add st (ps.getD k []), by omega, by go_num, rfl, by rw [HNX.out, ← HST.out]⟩
      case measure => simp [intOf]; omega
    · have HF : Hid (ps.take k = ps) := by
        show ps.take k = ps
        exact List.take_of_length_le (by have := HL.out; omega)
      go_wp2
      go_ret
      exact ⟨ret_u (by rw [HST.out, HF.out]), rfl⟩

end Go.Proofs.Ytkihoimlelbolaa.Crc
