/- The reference's Encode and Decode, by their contracts. -/
import Derived.Test.YtiipndfogofhgaaDoorUtfRef3a
import Derived.Test.YtiipndfogofhgaaDoorUtfEncd
import Derived.Test.YtiipndfogofhgaaDoorUtfDec
import Derived.Test.YtiipndfogofhgaaDoorUtfPlain3
import Derived.BigQuiet
import Derived.Deep.QuietTactic
namespace Go.Proofs.YtiipndfogofhgaaDoor.Utf
open Go.RowKit
set_option linter.unusedSimpArgs false
set_option linter.unusedVariables false
set_option maxRecDepth 100000

theorem allS_short (zs : List Int) (k : Nat) (h : k < zs.length) (hn : sgn (zs.getD k 0) = false) : encS zs = ⟨#[]⟩ ∧ encE zs = 8 :=
  ⟨encS_no (allS_false zs k h hn), encE_no (allS_false zs k h hn)⟩

set_option maxHeartbeats 1000000 in
theorem rencode_any (a : Option Addr) (len cap : Nat) (zs : List Int) (w : World) (hz : Ints w a len zs) (hl : len ≤ 17592186044416) :
    Calls Tryd.prog 43 #[.slice a len cap] w fun e w' => e = .returned (.tuple #[.string (encS zs), .int .i64 (encE zs)]) ∧ Below w.heap.size w w' := by
  have HZ : Hid (Ints w a len zs) := hz
  have HL : Hid (len = zs.length) := hz.1
  clear hz
  obtain ⟨i0, hi, hz0, hz1, hz2⟩ := info_parts Tryd.info5
  go_enter Tryd.func43, Tryd.ntmps43
  go_wp2
  go_loopw [4, 5] (fun v i wr => ∃ k : Nat, k ≤ len ∧ i = .int .i64 k ∧ allS (zs.take k) = true ∧ wr.ownsRow w.heap.size 5 1 v (bytes (zs.take k)).length ((bytes (zs.take k)).map (Value.int .u8)) ∧ Below w.heap.size w wr) (fun _ i _ => len - (intOf i).toNat)
  case atStart => exact ⟨0, Nat.zero_le _, rfl, rfl, World.ownsRow_nil _ _ _ _, Below.refl _ _⟩
  case round =>
    obtain ⟨k, hk, rfl, ha, hown, hbe⟩ := hrel
    have HA : Hid (allS (zs.take k) = true) := ha
    clear ha
    by_cases hlt : k < len
    · obtain ⟨b, off, rfl, hb, hc⟩ := HZ.out.2 (by omega)
      have hck := (hbe.cell (p := ⟨b, off + k, none⟩) hb).trans (hc k hlt)
      have hkz : k < zs.length := by rw [← HL.out]; exact hlt
      have hbl := bytes_len (zs.take k)
      have hbl2 : (bytes (zs.take k)).length ≤ 4 * k := by have := List.length_take_le k zs; omega
      have HBT : Hid (bytes (zs.take (k + 1)) = bytes (zs.take k) ++ byt (zs.getD k 0)) := bytes_take zs k hkz
      have HAT : Hid (allS (zs.take (k + 1)) = (allS (zs.take k) && sgn (zs.getD k 0))) := allS_take zs k hkz
      obtain ⟨n, hn⟩ : ∃ n, n = zs.getD k 0 := ⟨_, rfl⟩
      have HSH : Hid (sgn n = false → encS zs = ⟨#[]⟩ ∧ encE zs = 8) := fun h => allS_short zs k hkz (by rw [← hn]; exact h)
      rw [← hn] at hck HBT HAT
      rw [HA.out] at HAT
      clear hn hc hkz hbl
      cases hsg : sgn n
      · obtain ⟨x1, x2⟩ := HSH.out hsg
        have X1 : Hid (encS zs = ⟨#[]⟩) := x1
        have X2 : Hid (encE zs = 8) := x2
        clear x1 x2
        go_wp2_with (first | (go_at_call 42; refine (rsign_any _ _).mono ?_; rintro e w' ⟨rfl, rfl⟩))
        go_ret2
        exact ⟨by rw [X1.out, X2.out]; rfl, hbe⟩
      · obtain ⟨b0, b1, _⟩ := sgn_bd hsg
        have h4 := byt_len n
        have HXT : Hid (allS (zs.take (k + 1)) = true) := by have := HAT.out; rw [hsg] at this; exact this
        clear HSH HAT
        generalize bytes (zs.take k) = bs at *
        go_wp2_with (first | (go_at_call 42; refine (rsign_any _ _).mono ?_; rintro e w' ⟨rfl, rfl⟩) | (go_at_call 45; refine (rbytes_any _ _ b0 b1).mono ?_; rintro e w' ⟨rfl, rfl⟩) | (at_builtin; refine wpList_append_own _ rfl _ _ 42 rfl w.heap.size 5 i0 (.int .u8 0) 1 1 Tryd.underlying42 hi hz0 hz1 hz2 rfl (by decide) _ _ _ rfl (hown.alloc _) ⟨wr.heap.size, 0, none⟩ (byt n).length (byt n).length ((byt n).map (Value.int .u8)) rfl (by simp) (news_cells _ _ _) (news_one _) ?_ ?_ ?_ ?_))
        · unfold maxLen; omega
        · omega
        · have := hbe.size; simp; omega
        intro v' w1 hown' hgrow _
        obtain ⟨R1, R2⟩ := step (news := byt n) hown hbe hown' hgrow rfl
        clear hown' hgrow hown hbe hck
        go_wp2
        go_roundw
        case rel => exact ⟨k + 1, by omega, by go_num, HXT.out, by rw [HBT.out]; exact R1, R2⟩
        case measure => simp [intOf]; omega
    · have e : zs.take k = zs := List.take_of_length_le (by rw [← HL.out]; omega)
      have hA := HA.out
      rw [e] at hA hown
      have X1 : Hid (encS zs = strOfNums (bytes zs)) := encS_yes hA
      have X2 : Hid (encE zs = 0) := encE_yes hA
      have hcv := conv_own hown
      clear hA hown e
      go_wp2
      go_ret2
      exact ⟨by rw [X1.out, X2.out]; rfl, hbe⟩

set_option maxHeartbeats 1000000 in
theorem rdecode_any (s : ByteArray) (w : World) (hs : s.size ≤ 140737488355328) (hx : (dec s.data.toList).1.length ≤ 17592186044416) : Calls Tryd.prog 30 #[.string s] w fun e w' => DecRes s.data.toList w e w' := by
  have hs' : s.size ≤ maxLen := by unfold maxLen; omega
  have HX : Hid ((dec s.data.toList).1.length ≤ 17592186044416) := hx
  clear hx
  obtain ⟨i0, hi, hz0, hz1, hz2⟩ := info_parts Tryd.info3
  go_enter Tryd.func30, Tryd.ntmps30
  go_wp2
  go_loopw [4, 5] (fun v i wr => ∃ (p : Nat) (xs : List Int), p ≤ s.size ∧ xs.length ≤ p ∧ i = .int .i64 p ∧ wr.ownsRow (w.heap.size + 1) 3 1 v xs.length (xs.map (Value.int .i64)) ∧ dec s.data.toList = (xs ++ (dec (s.data.toList.drop p)).1, (dec (s.data.toList.drop p)).2.map (· + p)) ∧
      Below (w.heap.size + 1) (w.alloc (.cells #[.int .i64 0, .int .i64 0] 24)) wr ∧ w.heap.size + 1 ≤ wr.heap.size) (fun _ i _ => s.size - (intOf i).toNat)
  case atStart => exact ⟨0, [], Nat.zero_le _, Nat.le_refl _, rfl, World.ownsRow_nil _ _ _ _, by simp, Below.refl _ _, by simp⟩
  case round =>
    obtain ⟨p, xs, hp, hxl, rfl, hown, hd, hbe, hsz⟩ := hrel
    have HD : Hid (dec s.data.toList = (xs ++ (dec (s.data.toList.drop p)).1, (dec (s.data.toList.drop p)).2.map (· + p))) := hd
    clear hd
    have hc0 : wr.cell? ⟨w.heap.size, 0, none⟩ = some (.int .i64 0) := (hbe.cell (p := ⟨w.heap.size, 0, none⟩) (by simp)).trans (by rw [cell_of_row _ w.heap.size 0 _ _ (0, 0) (heap_alloc_new w _)]; rfl)
    have hc1 : wr.cell? ⟨w.heap.size, 1, none⟩ = some (.int .i64 0) := (hbe.cell (p := ⟨w.heap.size, 1, none⟩) (by simp)).trans (by rw [cell_of_row _ w.heap.size 1 _ _ (0, 0) (heap_alloc_new w _)]; rfl)
    have hf0 : wr.frozen? ⟨w.heap.size, 0, none⟩ = false := (hbe.frozen (p := ⟨w.heap.size, 0, none⟩) (by simp)).trans (by simp)
    have hf1 : wr.frozen? ⟨w.heap.size, 1, none⟩ = false := (hbe.frozen (p := ⟨w.heap.size, 1, none⟩) (by simp)).trans (by simp)
    by_cases hlt : p < s.size
    · have hne := drop_ne s p hlt
      have hf := fk_pos _ hne
      rw [List.length_drop, len_data] at hf
      obtain ⟨f1, f2, f3, f4⟩ := hf
      have hb0 : 0 ≤ (fst (s.data.toList.drop p)).2 := by omega
      have hb4 : (fst (s.data.toList.drop p)).2 ≤ 4 := by omega
      have hb5 : (p : Int) + (fst (s.data.toList.drop p)).2 ≤ s.size := by omega
      have H4 : Hid (((fk (s.data.toList.drop p) : Nat) : Int) = (fst (s.data.toList.drop p)).2) := f4
      clear f4
      by_cases hn : (fst (s.data.toList.drop p)).1 < 0
      · have HB : Hid ((dec s.data.toList).2 = some p) := by
          have h1 := HD.out
          rw [dec_bad _ hne hn] at h1
          rw [h1]; simp [Hid]
        clear hne
        go_wp2_with (first | (go_at_call 25; refine (rfirstAt_any _ _ _ hs').mono ?_; rintro e w0 ⟨rfl, hb1⟩; have ic0 := (hb1.cell (p := ⟨w.heap.size, 0, none⟩) hsz).trans hc0; have ic1 := (hb1.cell (p := ⟨w.heap.size, 1, none⟩) hsz).trans hc1; have if0 := (hb1.frozen (p := ⟨w.heap.size, 0, none⟩) hsz).trans hf0; have if1 := (hb1.frozen (p := ⟨w.heap.size, 1, none⟩) hsz).trans hf1; have jown := own_later hown hb1; have jbe := hbe.trans (hb1.mono hsz); have jsz := Nat.le_trans hsz hb1.size))
        refine bodyPost_ret (v := .tuple #[.slice none 0 0, .agg #[.int .i64 8, .int .i64 p]]) (by simp [results, Tryd.results30, go_sem, ic0, ic1]) rfl ?_
        refine ⟨.slice none 0 0, by rw [HB.out]; rfl, ?_, ?_⟩
        · have e : decXs s.data.toList = [] := by unfold decXs; rw [HB.out]; rfl
          rw [e]; exact World.ownsRow_nil _ _ _ _
        exact ((((Below.refl _ _).alloc (Nat.le_refl _) _).trans (jbe.mono (Nat.le_succ _))).setCell (Nat.le_refl _) _).setCell (Nat.le_refl _) _
      · have HN := dec_split HD.out hne hn
        have HN : Hid (dec s.data.toList = ((xs ++ [(fst (s.data.toList.drop p)).1]) ++ (dec (s.data.toList.drop (p + fk (s.data.toList.drop p)))).1, (dec (s.data.toList.drop (p + fk (s.data.toList.drop p)))).2.map (· + (p + fk (s.data.toList.drop p))))) := HN
        have hxx : xs.length + 1 ≤ 17592186044416 := by
          have h1 := HX.out
          rw [HN.out] at h1
          simp only [List.length_append, List.length_cons, List.length_nil] at h1
          omega
        clear HD hne
        go_wp2_with (first | (go_at_call 25; refine (rfirstAt_any _ _ _ hs').mono ?_; rintro e w0 ⟨rfl, hb1⟩; have ic0 := (hb1.cell (p := ⟨w.heap.size, 0, none⟩) hsz).trans hc0; have ic1 := (hb1.cell (p := ⟨w.heap.size, 1, none⟩) hsz).trans hc1; have if0 := (hb1.frozen (p := ⟨w.heap.size, 0, none⟩) hsz).trans hf0; have if1 := (hb1.frozen (p := ⟨w.heap.size, 1, none⟩) hsz).trans hf1; have jown := own_later hown hb1; have jbe := hbe.trans (hb1.mono hsz); have jsz := Nat.le_trans hsz hb1.size) | (at_builtin; refine wpList_append_own _ rfl _ _ 34 rfl (w.heap.size + 1) 3 i0 (.int .i64 0) 1 8 Tryd.underlying34 hi hz0 hz1 hz2 rfl (by decide) _ _ _ rfl (jown.alloc _) ⟨w0.heap.size, 0, none⟩ 1 1 [Value.int .i64 (fst (s.data.toList.drop p)).1] rfl rfl (new_cells _ _ _) (new_one _) ?_ ?_ ?_ ?_))
        · unfold maxLen; omega
        · omega
        · simp; omega
        intro v' w1 hown' hgrow _
        have R := step1 jown jbe jsz hown' hgrow
        obtain ⟨R1, R2, R3⟩ := R
        clear hown' hgrow hown hbe hc0 hc1 hf0 hf1 ic0 ic1 if0 if1 jown jbe jsz hb1
        go_wp2
        have h4 := H4.out
        go_roundw
        case rel => exact ⟨p + fk (s.data.toList.drop p), xs ++ [(fst (s.data.toList.drop p)).1], by omega, by simp; omega, by rw [← H4.out]; go_num, R1, HN.out, R2, R3⟩
        case measure => simp [intOf]; omega
    · have HB : Hid (dec s.data.toList = (xs, none)) := by
        have h1 := HD.out
        rw [List.drop_of_length_le (by rw [len_data]; omega), dec_nil] at h1
        simp at h1; exact h1
      clear HD
      go_wp2
      refine bodyPost_ret (v := .tuple #[u4, .agg #[.int .i64 0, .int .i64 0]]) (by simp [results, Tryd.results30, go_sem, hc0, hc1]) rfl ?_
      refine ⟨u4, by rw [HB.out]; rfl, ?_, ?_⟩
      · have e : decXs s.data.toList = xs := by unfold decXs; rw [HB.out]; rfl
        rw [e]
        exact ownsRow_lower (ownsRow_setCell_below (ownsRow_setCell_below hown (Nat.lt_succ_self _) _) (Nat.lt_succ_self _) _) (Nat.le_succ _)
      · exact ((((Below.refl _ _).alloc (Nat.le_refl _) _).trans (hbe.mono (Nat.le_succ _))).setCell (Nat.le_refl _) _).setCell (Nat.le_refl _) _



end Go.Proofs.YtiipndfogofhgaaDoor.Utf
