/- A number of bytes, and a number's bytes: the program's and the reference's. -/
import Derived.Test.YthmoapigjafijaaCrcOwn
import Derived.Test.YthmoapigjafijaaFramePlain
import Derived.Laws.CopyOwn
import Derived.Laws.Bits64b
namespace Go.Proofs.Ythmoapigjafijaa.Frm
open Go.RowKit Crc
set_option linter.unusedSimpArgs false
set_option linter.unusedVariables false

theorem val_take_succ (l : List UInt8) (k : Nat) (h : k < l.length) : val (l.take (k + 1)) = val (l.take k) * 256 + (l.getD k 0).toNat := by
  rw [List.take_succ_eq_append_getElem h, val_snoc, List.getD_eq_getElem?_getD, List.getElem?_eq_getElem h]
  rfl
theorem val_take_lt (l : List UInt8) (k : Nat) (h : k < 8) : val (l.take k) < 72057594037927936 := by
  have h1 := val_lt (l.take k)
  have h2 : (l.take k).length ≤ k := by rw [List.length_take]; omega
  have h3 : 256 ^ (l.take k).length ≤ 256 ^ 7 := Nat.pow_le_pow_right (by decide) (by omega)
  exact Nat.lt_of_lt_of_le h1 (Nat.le_trans h3 (by decide))
theorem val_lt8 (l : List UInt8) (h : l.length ≤ 8) : val l < 18446744073709551616 := by
  have h1 := val_lt l
  have h3 : 256 ^ l.length ≤ 256 ^ 8 := Nat.pow_le_pow_right (by decide) h
  exact Nat.lt_of_lt_of_le h1 (Nat.le_trans h3 (by decide))
theorem ret64 {a b : Int} (h : a = b) : Ending.returned (.int .u64 a) = .returned (.int .u64 b) := by rw [h]
theorem int64 {a b : Int} (h : a = b) : Value.int .u64 a = .int .u64 b := by rw [h]
theorem or_low (n x : Nat) (hn : n < 72057594037927936) (hx : x < 256) : n * 256 ||| x = n * 256 + x := by
  have := Nat.two_pow_add_eq_or_of_lt (i := 8) (b := x) hx n
  rw [Nat.mul_comm] at this
  exact this.symm
theorem or_byte (n : Nat) (hn : n < 72057594037927936) (x : UInt8) : bits .or .u64 ((n : Int) * 256) (nm (wd x)) = ((n * 256 + x.toNat : Nat) : Int) := by
  have hx := x.toNat_lt
  rw [nm_wd, show (n : Int) * 256 = ((n * 256 : Nat) : Int) by omega, bits_or_u64_nat _ _ (by omega) (by omega), or_low n _ hn hx]

theorem number_any (a : Option Addr) (len cap : Nat) (l : List UInt8) (w : World) (hl : Bys w a len l) (hm : len ≤ 8) :
    Calls Try.prog 25 #[.slice a len cap] w fun e w' => e = .returned (.int .u64 (val l)) ∧ w = w' := by
  have HZ : Hid (Bys w a len l) := hl
  have HL : Hid (len = l.length) := hl.1
  clear hl
  go_enter Try.func25, Try.ntmps25
  go_wp2
  go_loop [3, 8] (fun x i => ∃ (k : Nat) (n : Nat), k ≤ len ∧ i = .int .i64 k ∧ x = .int .u64 n ∧ n = val (l.take k)) (fun _ i => len - (intOf i).toNat)
  case atStart => exact ⟨0, 0, Nat.zero_le _, rfl, rfl, rfl⟩
  case round =>
    obtain ⟨k, n, hk, rfl, rfl, hst⟩ := hrel
    have HST : Hid (n = val (l.take k)) := hst
    clear hst
    by_cases hlt : k < len
    · obtain ⟨b, off, rfl, hb, hc⟩ := HZ.out.2 (by omega)
      have hck := hc k hlt
      have HNX : Hid (_ = _) := val_take_succ l k (by rw [← HL.out]; exact hlt)
      have hn : n < 72057594037927936 := by rw [HST.out]; exact val_take_lt l k (by omega)
      clear hc
      generalize l.getD k 0 = x at *
      have hy0 := nm_lo (wd x)
      have hy1 := nm_wd_hi x
      go_wp2
      go_round
      case rel => exact ⟨k + 1, n * 256 + x.toNat, by omega, by go_num, int64 (or_byte n hn x), by rw [HNX.out, ← HST.out]⟩
      case measure => simp [intOf]; omega
    · have HF : Hid (l.take k = l) := by
        show l.take k = l
        exact List.take_of_length_le (by have := HL.out; omega)
      go_wp2
      go_ret
      exact ⟨ret64 (by rw [HST.out, HF.out]), rfl⟩

theorem rvalue_any (a : Option Addr) (len cap : Nat) (l : List UInt8) (w : World) (hl : Bys w a len l) (hm : len ≤ 8) :
    Calls Try.prog 29 #[.slice a len cap] w fun e w' => e = .returned (.int .u64 (val l)) ∧ w = w' := by
  have HZ : Hid (Bys w a len l) := hl
  have HL : Hid (len = l.length) := hl.1
  clear hl
  go_enter Try.func29, Try.ntmps29
  go_wp2
  go_loop [3, 4] (fun x i => ∃ (k : Nat) (n : Nat), k ≤ len ∧ i = .int .i64 k ∧ x = .int .u64 n ∧ n = val (l.take k)) (fun _ i => len - (intOf i).toNat)
  case atStart => exact ⟨0, 0, Nat.zero_le _, rfl, rfl, rfl⟩
  case round =>
    obtain ⟨k, n, hk, rfl, rfl, hst⟩ := hrel
    have HST : Hid (n = val (l.take k)) := hst
    clear hst
    by_cases hlt : k < len
    · obtain ⟨b, off, rfl, hb, hc⟩ := HZ.out.2 (by omega)
      have hck := hc k hlt
      have HNX : Hid (_ = _) := val_take_succ l k (by rw [← HL.out]; exact hlt)
      have hn : n < 72057594037927936 := by rw [HST.out]; exact val_take_lt l k (by omega)
      clear hc
      generalize l.getD k 0 = x at *
      have hy0 := nm_lo (wd x)
      have hy1 := nm_wd_hi x
      have HX : Hid (nm (wd x) = (x.toNat : Int)) := nm_wd x
      go_wp2
      go_round
      case rel => exact ⟨k + 1, n * 256 + x.toNat, by omega, by go_num, int64 (by rw [HX.out]; omega), by rw [HNX.out, ← HST.out]⟩
      case measure => simp [intOf]; omega
    · have HF : Hid (l.take k = l) := by
        show l.take k = l
        exact List.take_of_length_le (by have := HL.out; omega)
      go_wp2
      go_ret
      exact ⟨ret64 (by rw [HST.out, HF.out]), rfl⟩

end Go.Proofs.Ythmoapigjafijaa.Frm
