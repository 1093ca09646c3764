/- A number's bytes: the program's and the reference's. -/
import Derived.Test.YthmoapigjafijaaFrameNum
namespace Go.Proofs.Ythmoapigjafijaa.Frm
open Go.RowKit Crc
set_option linter.unusedSimpArgs false
set_option linter.unusedVariables false

theorem be_cons (k n : Nat) : be (k + 1) n = UInt8.ofNat (n / 256 ^ k % 256) :: be k n := by
  induction k generalizing n with
  | zero => simp [be]
  | succ k ih =>
    rw [be, ih, be, List.cons_append, Nat.div_div_eq_div_mul, Nat.pow_succ, Nat.mul_comm (256 ^ k)]
/-- a row that the call itself made -/
def Row (w : World) (g : Nat) (t : TypeId) (cur : List Value) : Prop := w.heap[g]? = some (.cells cur.toArray t (0, 0))
theorem Row.cell {w : World} {g : Nat} {t : TypeId} {cur : List Value} (h : Row w g t cur) (i : Nat) : w.cell? ⟨g, i, none⟩ = cur[i]? := by
  rw [cell_of_row w g i cur.toArray t (0, 0) h]; simp
theorem Row.free {w : World} {g : Nat} {t : TypeId} {cur : List Value} (h : Row w g t cur) (i : Nat) : w.frozen? ⟨g, i, none⟩ = false := by
  unfold Row at h
  simp only [World.frozen?]; rw [h]; simp
theorem Row.set {w : World} {g : Nat} {t : TypeId} {cur : List Value} (h : Row w g t cur) (i : Nat) (v : Value) : Row (w.setCell ⟨g, i, none⟩ v) g t (cur.set i v) := by
  unfold Row at *
  rw [setCell_eq_setRow w g i _ t (0, 0) _ h, setRow_heap w g _ _ t _ h]
  simp
theorem splice_set {α : Type} (L : List α) (p : Nat) (v : α) (cs : List α) (h : p + 1 + cs.length ≤ L.length) : (splice L (p + 1) cs).set p v = splice L p (v :: cs) := by
  unfold splice
  rw [List.take_succ_eq_append_getElem (by omega), List.append_assoc, List.set_append_right _ _ (by rw [List.length_take]; omega), List.length_take, Nat.min_eq_left (by omega), Nat.sub_self]
  simp only [List.singleton_append, List.cons_append, List.set_cons_zero, List.length_cons]
  rw [show p + 1 + cs.length = p + (cs.length + 1) by omega]
  rfl
theorem splice_len {α : Type} (L : List α) (p : Nat) (cs : List α) (h : p + cs.length ≤ L.length) : (splice L p cs).length = L.length := length_splice L p cs h
theorem splice_nil {α : Type} (L : List α) (p : Nat) : splice L p [] = L := by simp [splice]
theorem byC_cons (x : UInt8) (l : List UInt8) : byC (x :: l) = .int .u8 (nm (wd x)) :: byC l := rfl
theorem low_byte (n : Nat) : ((n : Int) % 256) = nm (wd (UInt8.ofNat (n % 256))) := by
  rw [nm_wd, UInt8.toNat_ofNat']; omega
/-- the rest of a number, and the bytes that stand -/
def numL (cur : List Value) (off len n k : Nat) : List Value := splice cur (off + (len - k)) (byC (be k n))

theorem putNumber_any (g off len cap n : Nat) (cur : List Value) (t : TypeId) (w : World) (hg : Row w g t cur) (hfit : off + len ≤ cur.length) (hl : len ≤ 8) (hn : n < 18446744073709551616) :
    Calls Try.prog 33 #[.slice (some ⟨g, off, none⟩) len cap, .int .u64 n] w fun e w' => e = .returned (.tuple #[]) ∧ Row w' g t (splice cur off (byC (be len n))) ∧ Below g w w' := by
  have HG : Hid (Row w g t cur) := hg
  clear hg
  go_enter Try.func33, Try.ntmps33
  go_wp2
  go_loopw [1, 7] (fun x i wr => ∃ (k m : Nat), k ≤ len ∧ i = .int .i64 k ∧ x = .int .u64 m ∧ m = n / 256 ^ k ∧ Row wr g t (numL cur off len n k) ∧ Below g w wr) (fun _ i _ => len - (intOf i).toNat)
  case atStart => exact ⟨0, n, Nat.zero_le _, rfl, rfl, by simp, by simpa [numL, be, byC, splice_nil] using HG.out, Below.refl _ _⟩
  case round =>
    obtain ⟨k, m, hk, rfl, rfl, hm, hR, hbe⟩ := hrel
    have HM : Hid (m = n / 256 ^ k) := hm
    have HR : Hid (Row wr g t (numL cur off len n k)) := hR
    have HBE : Hid (Below g w wr) := hbe
    have hm1 : m < 18446744073709551616 := by rw [hm]; exact Nat.lt_of_le_of_lt (Nat.div_le_self _ _) hn
    clear hm hR hbe
    by_cases hlt : k < len
    · obtain ⟨p, hp, hpe⟩ : ∃ p : Nat, p + k + 1 = len ∧ (len : Int) - 1 - k = (p : Int) := ⟨len - 1 - k, by omega, by omega⟩
      have hnl : (numL cur off len n k).length = cur.length := by
        unfold numL; rw [splice_len _ _ _ (by rw [byC_len, be_len]; omega)]
      have hck : wr.cell? ⟨g, off + p, none⟩ = some ((numL cur off len n k)[off + p]'(by omega)) := by
        rw [HR.out.cell, List.getElem?_eq_getElem (by omega)]
      have hfr := HR.out.free (off + p)
      generalize ((numL cur off len n k)[off + p]'(by omega)) = old at hck
      have HW : Hid (Row (wr.setCell ⟨g, off + p, none⟩ (.int .u8 ((m : Int) % 256))) g t (numL cur off len n (k + 1))) := by
        have h := HR.out.set (off + p) (.int .u8 ((m : Int) % 256))
        have e : (numL cur off len n k).set (off + p) (.int .u8 ((m : Int) % 256)) = numL cur off len n (k + 1) := by
          unfold numL
          rw [show off + (len - k) = off + p + 1 by omega, show off + (len - (k + 1)) = off + p by omega, splice_set _ _ _ _ (by rw [byC_len, be_len]; omega), be_cons, byC_cons, low_byte, HM.out]
        rw [e] at h
        exact h
      have HB2 : Hid (Below g w (wr.setCell ⟨g, off + p, none⟩ (.int .u8 ((m : Int) % 256)))) := HBE.out.setCell (p := ⟨g, off + p, none⟩) (Nat.le_refl _) _
      clear hnl
      go_wp2
      go_round
      case rel => exact ⟨k + 1, m / 256, by omega, by go_num, int64 (by omega), by rw [HM.out, Nat.div_div_eq_div_mul, Nat.pow_succ], HW.out, HB2.out⟩
      case measure => simp [intOf]; omega
    · have HK : Hid (numL cur off len n k = splice cur off (byC (be len n))) := by
        show _ = _
        rw [show k = len by omega, numL, Nat.sub_self, Nat.add_zero]
      rw [HK.out] at HR
      go_wp2
      go_end0
      exact ⟨rfl, HR.out, HBE.out⟩

theorem made_len (n : Nat) : (madeCells (Value.cells (.int .u8 0)) (n * 1)).toList.length = n := by
  simp [madeCells]
theorem rnumber_any (n many : Nat) (w : World) (hn : n < 18446744073709551616) (h0 : 0 < many) (hl : many ≤ 8) :
    Calls Try.prog 22 #[.int .u64 n, .int .i64 many] w fun e w' => e = .returned (.slice (some ⟨w.heap.size, 0, none⟩) many many) ∧ Row w' w.heap.size 5 (byC (be many n)) ∧ Below w.heap.size w w' := by
  obtain ⟨i0, hi, hz0, hz1, hz2⟩ := info_parts infoByte
  go_enter Try.func22, Try.ntmps22
  go_wp2_with (at_make; refine wpList_make_full _ rfl _ _ 22 rfl w.heap.size 5 i0 (.int .u8 0) 1 Try.underlying22 hi hz0 hz1 _ _ _ _ many rfl rfl rfl rfl ?_ ?_ (Nat.le_refl _) ?_)
  · rw [hz2]; omega
  · unfold maxLen; omega
  intro w1 hown hgrow
  have HB : Hid (Below w.heap.size w w1) := (Below.refl _ w).grown hgrow (Nat.le_refl _) (fun k hk => by cases hk)
  have hR : ∃ cur, cur.length = many ∧ Row w1 w.heap.size 5 cur := by
    obtain ⟨_, hown⟩ := hown
    rcases hown with ⟨hv, _⟩ | ⟨g, cap', cur, hv, hgB, hblk, hcl, hcm, hcs, hct⟩
    · simp at hv
    · simp at hv
      obtain ⟨rfl, rfl⟩ := hv
      exact ⟨cur.toList, by simpa using hcs, by unfold Row; simpa using hblk⟩
  obtain ⟨cur, hcl, hRow⟩ := hR
  have HL : Hid (cur.length = many) := hcl
  have HR : Hid (Row w1 w.heap.size 5 cur) := hRow
  clear hown hgrow hcl hRow
  obtain ⟨g, HGS⟩ : ∃ g, Hid (g = w.heap.size) := ⟨_, rfl⟩
  rw [← HGS.out] at HR HB ⊢
  go_wp2
  go_loopw [0, 6] (fun x i wr => ∃ (k m : Nat), k ≤ many ∧ i = .int .i64 ((many : Int) - 1 - k) ∧ x = .int .u64 m ∧ m = n / 256 ^ k ∧ Row wr g 5 (numL cur 0 many n k) ∧ Below g w wr) (fun _ i _ => (intOf i + 1).toNat)
  case atStart => exact ⟨0, n, Nat.zero_le _, by simp, rfl, by simp, by simpa [numL, be, byC, splice_nil] using HR.out, HB.out⟩
  case round =>
    obtain ⟨k, m, hk, rfl, rfl, hm, hR, hbe⟩ := hrel
    have HM : Hid (m = n / 256 ^ k) := hm
    have HR : Hid (Row wr g 5 (numL cur 0 many n k)) := hR
    have HBE : Hid (Below g w wr) := hbe
    have hm1 : m < 18446744073709551616 := by rw [hm]; exact Nat.lt_of_le_of_lt (Nat.div_le_self _ _) hn
    clear hm hR hbe
    by_cases hlt : k < many
    · obtain ⟨p, hp, hpe⟩ : ∃ p : Nat, p + k + 1 = many ∧ (many : Int) - 1 - k = (p : Int) := ⟨many - 1 - k, by omega, by omega⟩
      have hnl : (numL cur 0 many n k).length = many := by
        unfold numL; rw [splice_len _ _ _ (by rw [byC_len, be_len, HL.out]; omega), HL.out]
      have hck : wr.cell? ⟨g, p, none⟩ = some ((numL cur 0 many n k)[p]'(by omega)) := by
        rw [HR.out.cell, List.getElem?_eq_getElem (by omega)]
      have hfr := HR.out.free p
      generalize ((numL cur 0 many n k)[p]'(by omega)) = old at hck
      have HW : Hid (Row (wr.setCell ⟨g, p, none⟩ (.int .u8 ((m : Int) % 256))) g 5 (numL cur 0 many n (k + 1))) := by
        have h := HR.out.set p (.int .u8 ((m : Int) % 256))
        have e : (numL cur 0 many n k).set p (.int .u8 ((m : Int) % 256)) = numL cur 0 many n (k + 1) := by
          unfold numL
          rw [show 0 + (many - k) = p + 1 by omega, show 0 + (many - (k + 1)) = p by omega, splice_set _ _ _ _ (by rw [byC_len, be_len, HL.out]; omega), be_cons, byC_cons, low_byte, HM.out]
        rw [e] at h
        exact h
      have HB2 : Hid (Below g w (wr.setCell ⟨g, p, none⟩ (.int .u8 ((m : Int) % 256)))) := HBE.out.setCell (p := ⟨g, p, none⟩) (Nat.le_refl _) _
      clear hnl
      rw [hpe]
      go_wp2
      go_round
      case rel => exact ⟨k + 1, m / 256, by omega, by rw [show (p : Int) - 1 = (many : Int) - 1 - ((k + 1 : Nat) : Int) by omega], int64 (by omega), by rw [HM.out, Nat.div_div_eq_div_mul, Nat.pow_succ], HW.out, HB2.out⟩
      case measure => simp [intOf]
    · have HK : Hid (numL cur 0 many n k = byC (be many n)) := by
        show _ = _
        rw [show k = many by omega, numL, Nat.sub_self]
        unfold splice
        rw [byC_len, be_len, List.drop_eq_nil_of_le (by rw [HL.out]; omega)]
        simp
      have hpe : (many : Int) - 1 - k = -1 := by omega
      rw [HK.out] at HR
      rw [hpe]
      go_wp2
      go_ret
      rw [← HGS.out]
      exact ⟨rfl, HR.out, HBE.out⟩

end Go.Proofs.Ythmoapigjafijaa.Frm
