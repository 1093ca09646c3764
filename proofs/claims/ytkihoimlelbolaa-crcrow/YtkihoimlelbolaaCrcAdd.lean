/- (turns).add: a sum of more bytes, four bits at once. -/
import Derived.Test.YtkihoimlelbolaaCrcTurns
namespace Go.Proofs.Ytkihoimlelbolaa.Crc
open Go.RowKit
set_option linter.unusedSimpArgs false
set_option linter.unusedVariables false

/-- a slice of bytes that holds the bytes l -/
def Bys (w : World) (a : Option Addr) (len : Nat) (l : List UInt8) : Prop :=
  len = l.length ∧ (0 < len → ∃ b off, a = some ⟨b, off, none⟩ ∧ b < w.heap.size ∧ ∀ i, i < len → w.cell? ⟨b, off + i, none⟩ = some (.int .u8 (nm (wd (l.getD i 0)))))
theorem Bys.later {w w' : World} {a : Option Addr} {len : Nat} {l : List UInt8} (h : Bys w a len l) {B : Nat} (hb : Below B w w') (hB : w.heap.size ≤ B) : Bys w' a len l := by
  refine ⟨h.1, fun hp => ?_⟩
  obtain ⟨b, off, ha, hlt, hc⟩ := h.2 hp
  refine ⟨b, off, ha, Nat.lt_of_lt_of_le hlt hb.size, fun i hi => ?_⟩
  rw [hb.cell (p := ⟨b, off + i, none⟩) (Nat.lt_of_lt_of_le hlt hB)]
  exact hc i hi
/-- an argument []byte -/
def BArg (w : World) (a : Option Addr) (len cap : Nat) (l : List UInt8) : Prop := Bys w a len l ∧ len ≤ 140737488351232 ∧ len ≤ cap ∧ cap ≤ maxLen
theorem nm_wd (x : UInt8) : nm (wd x) = (x.toNat : Int) := by
  rw [nm_eq, wd, BitVec.toNat_ofNat, Nat.mod_eq_of_lt (by have := x.toNat_lt; omega)]
theorem nm_wd_hi (x : UInt8) : nm (wd x) < 256 := by rw [nm_wd]; have := x.toNat_lt; omega
theorem bys_snoc (s : W32) (l : List UInt8) (k : Nat) (h : k < l.length) : bys s (l.take (k + 1)) = halfs 8 (bys s (l.take k) ^^^ wd (l.getD k 0)) := by
  rw [List.take_succ_eq_append_getElem h, bys_app]
  simp only [bys]
  rw [List.getD_eq_getElem?_getD, List.getElem?_eq_getElem h]
  rfl
/-- the entry that a word's four lowest bits name -/
theorem tr_get (w : World) (b : Nat) (h : w.rangeAt b 0 trL) (x : W32) : ∃ q : Nat, q < 16 ∧ bits .and .u32 (nm x) 15 = (q : Int) ∧ w.cell? ⟨b, q, none⟩ = some (.int .u32 (nm (halfs 4 (x &&& 15#32)))) := by
  have hq : (x &&& 15#32).toNat < 16 := by rw [BitVec.toNat_and]; exact Nat.lt_of_le_of_lt Nat.and_le_right (by decide)
  refine ⟨(x &&& 15#32).toNat, hq, ?_, ?_⟩
  · rw [nm_and15, nm_eq]
  · have := h (x &&& 15#32).toNat (trV 16 (x &&& 15#32).toNat) (by simp only [trL, List.getElem?_map]; rw [List.getElem?_range hq]; rfl)
    rw [Nat.zero_add] at this
    rw [this, trV, if_pos hq, BitVec.ofNat_toNat]
    simp
theorem tr_turn (x : W32) : bits .xor .u32 (nm x / (16 : Int)) (nm (halfs 4 (x &&& 15#32))) = nm (halfs 4 x) := by
  rw [nm_shr4, nm_xor, ← halfs_four]

theorem tadd_any (b0 : Nat) (s : W32) (a : Option Addr) (len cap : Nat) (l : List UInt8) (w : World) (ht : w.rangeAt b0 0 trL) (hl : Bys w a len l) (hm : len ≤ maxLen) :
    Calls Try.prog 17 #[.pointer (some ⟨b0, 0, none⟩), .int .u32 (nm s), .slice a len cap] w fun e w' => e = .returned (.int .u32 (nm (add s l))) ∧ w = w' := by
  have hs0 := nm_lo s
  have hs1 := nm_hi s
  have HT : Hid (w.rangeAt b0 0 trL) := ht
  have HZ : Hid (Bys w a len l) := hl
  have HL : Hid (len = l.length) := hl.1
  have HN : Hid (bits .xor .u32 IntKind.u32.max (nm s) = nm (~~~ s)) := nm_not2 s
  unfold maxLen at hm
  clear ht hl
  go_enter Try.func17, Try.ntmps17
  go_wp2
  go_loop [7, 14] (fun x i => ∃ (k : Nat) (st : W32), k ≤ len ∧ i = .int .i64 k ∧ x = .int .u32 (nm st) ∧ st = bys (~~~ s) (l.take k)) (fun _ i => len - (intOf i).toNat)
  case atStart => exact ⟨0, ~~~ s, Nat.zero_le _, rfl, int_u HN.out, rfl⟩
  case round =>
    obtain ⟨k, st, hk, rfl, rfl, hst⟩ := hrel
    have HST : Hid (st = bys (~~~ s) (l.take k)) := hst
    clear hst
    have hx0 := nm_lo st
    have hx1 := nm_hi st
    by_cases hlt : k < len
    · obtain ⟨b, off, rfl, hb, hc⟩ := HZ.out.2 (by omega)
      have hck := hc k hlt
      have HNX : Hid (_ = _) := bys_snoc (~~~ s) l k (by rw [← HL.out]; exact hlt)
      clear hc
      generalize l.getD k 0 = x at *
      have hy0 := nm_lo (wd x)
      have hy1 := nm_wd_hi x
      obtain ⟨s1, e1⟩ : ∃ s1, Hid (s1 = st ^^^ wd x) := ⟨_, rfl⟩
      obtain ⟨s2, e2⟩ : ∃ s2, Hid (s2 = halfs 4 s1) := ⟨_, rfl⟩
      obtain ⟨s3, e3⟩ : ∃ s3, Hid (s3 = halfs 4 s2) := ⟨_, rfl⟩
      have x1 : bits .xor .u32 (nm st) (nm (wd x)) = nm s1 := by rw [nm_xor, e1.out]
      obtain ⟨q1, hq1, a1, c1⟩ := tr_get w b0 HT.out s1
      have t1 := tr_turn s1
      rw [← e2.out] at t1
      obtain ⟨q2, hq2, a2, c2⟩ := tr_get w b0 HT.out s2
      have t2 := tr_turn s2
      rw [← e3.out] at t2
      generalize halfs 4 (s1 &&& 15#32) = z1 at *
      generalize halfs 4 (s2 &&& 15#32) = z2 at *
      have b10 := nm_lo s1
      have b11 := nm_hi s1
      have b20 := nm_lo s2
      have b21 := nm_hi s2
      have d10 := nm_lo z1
      have d11 := nm_hi z1
      have d20 := nm_lo z2
      have d21 := nm_hi z2
      go_wp2
      go_round
      case rel => exact ⟨k + 1, s3, by omega, by go_num, rfl, by rw [HNX.out, ← HST.out, ← e1.out, halfs_eight, ← e2.out, ← e3.out]⟩
      case measure => simp [intOf]; omega
    · have HF : Hid (l.take k = l) := by
        show l.take k = l
        exact List.take_of_length_le (by have := HL.out; omega)
      have HN2 : Hid (bits .xor .u32 IntKind.u32.max (nm st) = nm (~~~ st)) := nm_not2 st
      go_wp2
      go_ret
      refine ⟨ret_u (HN2.out.trans ?_), rfl⟩
      rw [HST.out, HF.out]; rfl

end Go.Proofs.Ytkihoimlelbolaa.Crc
