/- Several texts as one: UtfRef4a, QuoteRefC, QuoteOb, QuoteRdbC, QuoteRsmC. -/
import Derived.Test.YteokhnielbmifaaGreatDoorFbRA
import Derived.Test.YteokhnielbmifaaGreatDoorFbJ
import Derived.Test.YteokhnielbmifaaGreatDoorFbA
import Derived.BigQuiet
import Derived.Deep.QuietTactic
import Derived.Test.YteokhnielbmifaaGreatDoorFbK
import Derived.Test.YteokhnielbmifaaGreatDoorFbL
import Derived.Test.YteokhnielbmifaaGreatDoorFbM
import Derived.Lib.AppendStr
import Derived.Test.YteokhnielbmifaaGreatDoorFbS
import Derived.Lib.SlBytesConst
section
/- The reference's Encode and Decode, by their contracts. -/
namespace Go.Proofs.YteokhnielbmifaaGreatDoor.Utf
open Go.RowKit
set_option linter.unusedSimpArgs false
set_option linter.unusedVariables false
set_option maxRecDepth 100000

theorem allS_short (zs : List Int) (k : Nat) (h : k < zs.length) (hn : sgn (zs.getD k 0) = false) : encS zs = ⟨#[]⟩ ∧ encE zs = 8 :=
  ⟨encS_no (allS_false zs k h hn), encE_no (allS_false zs k h hn)⟩

set_option maxHeartbeats 1000000 in
theorem rencode_any (a : Option Addr) (len cap : Nat) (zs : List Int) (w : World) (hz : Ints w a len zs) (hl : len ≤ 17592186044416) :
    Calls Tryz.prog 122 #[.slice a len cap] w fun e w' => e = .returned (.tuple #[.string (encS zs), .int .i64 (encE zs)]) ∧ Below w.heap.size w w' := by
  have HZ : Hid (Ints w a len zs) := hz
  have HL : Hid (len = zs.length) := hz.1
  clear hz
  obtain ⟨i0, hi, hz0, hz1, hz2⟩ := info_parts Tryz.info5
  go_enter Tryz.func122, Tryz.ntmps122
  go_wp2
  go_loopw [4, 5] (fun v i wr => ∃ k : Nat, k ≤ len ∧ i = .int .i64 k ∧ allS (zs.take k) = true ∧ wr.ownsRow w.heap.size 5 1 v (bytes (zs.take k)).length ((bytes (zs.take k)).map (Value.int .u8)) ∧ Below w.heap.size w wr) (fun _ i _ => len - (intOf i).toNat)
  case atStart => exact ⟨0, Nat.zero_le _, rfl, rfl, World.ownsRow_nil _ _ _ _, Below.refl _ _⟩
  case round =>
    obtain ⟨k, hk, rfl, ha, hown, hbe⟩ := hrel
    have HA : Hid (allS (zs.take k) = true) := ha
    clear ha
    by_cases hlt : k < len
    · obtain ⟨b, off, rfl, hb, hc⟩ := HZ.out.2 (by omega)
      have hck := (hbe.cell (p := ⟨b, off + k, none⟩) hb).trans (hc k hlt)
      have hkz : k < zs.length := by rw [← HL.out]; exact hlt
      have hbl := bytes_len (zs.take k)
      have hbl2 : (bytes (zs.take k)).length ≤ 4 * k := by have := List.length_take_le k zs; omega
      have HBT : Hid (bytes (zs.take (k + 1)) = bytes (zs.take k) ++ byt (zs.getD k 0)) := bytes_take zs k hkz
      have HAT : Hid (allS (zs.take (k + 1)) = (allS (zs.take k) && sgn (zs.getD k 0))) := allS_take zs k hkz
      obtain ⟨n, hn⟩ : ∃ n, n = zs.getD k 0 := ⟨_, rfl⟩
      have HSH : Hid (sgn n = false → encS zs = ⟨#[]⟩ ∧ encE zs = 8) := fun h => allS_short zs k hkz (by rw [← hn]; exact h)
      rw [← hn] at hck HBT HAT
      rw [HA.out] at HAT
      clear hn hc hkz hbl
      cases hsg : sgn n
      · obtain ⟨x1, x2⟩ := HSH.out hsg
        have X1 : Hid (encS zs = ⟨#[]⟩) := x1
        have X2 : Hid (encE zs = 8) := x2
        clear x1 x2
        go_wp2_with (first | (go_at_call 119; refine (rsign_any _ _).mono ?_; rintro e w' ⟨rfl, rfl⟩))
        go_ret2
        exact ⟨by rw [X1.out, X2.out]; rfl, hbe⟩
      · obtain ⟨b0, b1, _⟩ := sgn_bd hsg
        have h4 := byt_len n
        have HXT : Hid (allS (zs.take (k + 1)) = true) := by have := HAT.out; rw [hsg] at this; exact this
        clear HSH HAT
        generalize bytes (zs.take k) = bs at *
        go_wp2_with (first | (go_at_call 119; refine (rsign_any _ _).mono ?_; rintro e w' ⟨rfl, rfl⟩) | (go_at_call 120; refine (rbytes_any _ _ b0 b1).mono ?_; rintro e w' ⟨rfl, rfl⟩) | (at_builtin; refine wpList_append_own _ rfl _ _ 45 rfl w.heap.size 5 i0 (.int .u8 0) 1 1 Tryz.underlying45 hi hz0 hz1 hz2 rfl (by decide) _ _ _ rfl (hown.alloc _) ⟨wr.heap.size, 0, none⟩ (byt n).length (byt n).length ((byt n).map (Value.int .u8)) rfl (by simp) (news_cells _ _ _) (news_one _) ?_ ?_ ?_ ?_))
        · unfold maxLen; omega
        · omega
        · have := hbe.size; simp; omega
        intro v' w1 hown' hgrow _
        obtain ⟨R1, R2⟩ := step (news := byt n) hown hbe hown' hgrow rfl
        clear hown' hgrow hown hbe hck
        go_wp2
        go_roundw
        case rel => exact ⟨k + 1, by omega, by go_num, HXT.out, by rw [HBT.out]; exact R1, R2⟩
        case measure => simp [intOf]; omega
    · have e : zs.take k = zs := List.take_of_length_le (by rw [← HL.out]; omega)
      have hA := HA.out
      rw [e] at hA hown
      have X1 : Hid (encS zs = strOfNums (bytes zs)) := encS_yes hA
      have X2 : Hid (encE zs = 0) := encE_yes hA
      have hcv := conv_own hown
      clear hA hown e
      go_wp2
      go_ret2
      exact ⟨by rw [X1.out, X2.out]; rfl, hbe⟩

set_option maxHeartbeats 1000000 in
theorem rdecode_any (s : ByteArray) (w : World) (hs : s.size ≤ 140737488355328) (hx : (dec s.data.toList).1.length ≤ 17592186044416) : Calls Tryz.prog 59 #[.string s] w fun e w' => DecRes s.data.toList w e w' := by
  have hs' : s.size ≤ maxLen := by unfold maxLen; omega
  have HX : Hid ((dec s.data.toList).1.length ≤ 17592186044416) := hx
  clear hx
  obtain ⟨i0, hi, hz0, hz1, hz2⟩ := info_parts Tryz.info3
  go_enter Tryz.func59, Tryz.ntmps59
  go_wp2
  go_loopw [4, 5] (fun v i wr => ∃ (p : Nat) (xs : List Int), p ≤ s.size ∧ xs.length ≤ p ∧ i = .int .i64 p ∧ wr.ownsRow (w.heap.size + 1) 3 1 v xs.length (xs.map (Value.int .i64)) ∧ dec s.data.toList = (xs ++ (dec (s.data.toList.drop p)).1, (dec (s.data.toList.drop p)).2.map (· + p)) ∧
      Below (w.heap.size + 1) (w.alloc (.cells #[.int .i64 0, .int .i64 0] 37)) wr ∧ w.heap.size + 1 ≤ wr.heap.size) (fun _ i _ => s.size - (intOf i).toNat)
  case atStart => exact ⟨0, [], Nat.zero_le _, Nat.le_refl _, rfl, World.ownsRow_nil _ _ _ _, by simp, Below.refl _ _, by simp⟩
  case round =>
    obtain ⟨p, xs, hp, hxl, rfl, hown, hd, hbe, hsz⟩ := hrel
    have HD : Hid (dec s.data.toList = (xs ++ (dec (s.data.toList.drop p)).1, (dec (s.data.toList.drop p)).2.map (· + p))) := hd
    clear hd
    have hc0 : wr.cell? ⟨w.heap.size, 0, none⟩ = some (.int .i64 0) := (hbe.cell (p := ⟨w.heap.size, 0, none⟩) (by simp)).trans (by rw [cell_of_row _ w.heap.size 0 _ _ (0, 0) (heap_alloc_new w _)]; rfl)
    have hc1 : wr.cell? ⟨w.heap.size, 1, none⟩ = some (.int .i64 0) := (hbe.cell (p := ⟨w.heap.size, 1, none⟩) (by simp)).trans (by rw [cell_of_row _ w.heap.size 1 _ _ (0, 0) (heap_alloc_new w _)]; rfl)
    have hf0 : wr.frozen? ⟨w.heap.size, 0, none⟩ = false := (hbe.frozen (p := ⟨w.heap.size, 0, none⟩) (by simp)).trans (by simp)
    have hf1 : wr.frozen? ⟨w.heap.size, 1, none⟩ = false := (hbe.frozen (p := ⟨w.heap.size, 1, none⟩) (by simp)).trans (by simp)
    by_cases hlt : p < s.size
    · have hne := drop_ne s p hlt
      have hf := fk_pos _ hne
      rw [List.length_drop, len_data] at hf
      obtain ⟨f1, f2, f3, f4⟩ := hf
      have hb0 : 0 ≤ (fst (s.data.toList.drop p)).2 := by omega
      have hb4 : (fst (s.data.toList.drop p)).2 ≤ 4 := by omega
      have hb5 : (p : Int) + (fst (s.data.toList.drop p)).2 ≤ s.size := by omega
      have H4 : Hid (((fk (s.data.toList.drop p) : Nat) : Int) = (fst (s.data.toList.drop p)).2) := f4
      clear f4
      by_cases hn : (fst (s.data.toList.drop p)).1 < 0
      · have HB : Hid ((dec s.data.toList).2 = some p) := by
          have h1 := HD.out
          rw [dec_bad _ hne hn] at h1
          rw [h1]; simp [Hid]
        clear hne
        go_wp2_with (first | (go_at_call 84; refine (rfirstAt_any _ _ _ hs').mono ?_; rintro e w0 ⟨rfl, hb1⟩; have ic0 := (hb1.cell (p := ⟨w.heap.size, 0, none⟩) hsz).trans hc0; have ic1 := (hb1.cell (p := ⟨w.heap.size, 1, none⟩) hsz).trans hc1; have if0 := (hb1.frozen (p := ⟨w.heap.size, 0, none⟩) hsz).trans hf0; have if1 := (hb1.frozen (p := ⟨w.heap.size, 1, none⟩) hsz).trans hf1; have jown := own_later hown hb1; have jbe := hbe.trans (hb1.mono hsz); have jsz := Nat.le_trans hsz hb1.size))
        refine bodyPost_ret (v := .tuple #[.slice none 0 0, .agg #[.int .i64 8, .int .i64 p]]) (by simp [results, Tryz.results59, go_sem, ic0, ic1]) rfl ?_
        refine ⟨.slice none 0 0, by rw [HB.out]; rfl, ?_, ?_⟩
        · have e : decXs s.data.toList = [] := by unfold decXs; rw [HB.out]; rfl
          rw [e]; exact World.ownsRow_nil _ _ _ _
        exact ((((Below.refl _ _).alloc (Nat.le_refl _) _).trans (jbe.mono (Nat.le_succ _))).setCell (Nat.le_refl _) _).setCell (Nat.le_refl _) _
      · have HN := dec_split HD.out hne hn
        have HN : Hid (dec s.data.toList = ((xs ++ [(fst (s.data.toList.drop p)).1]) ++ (dec (s.data.toList.drop (p + fk (s.data.toList.drop p)))).1, (dec (s.data.toList.drop (p + fk (s.data.toList.drop p)))).2.map (· + (p + fk (s.data.toList.drop p))))) := HN
        have hxx : xs.length + 1 ≤ 17592186044416 := by
          have h1 := HX.out
          rw [HN.out] at h1
          simp only [List.length_append, List.length_cons, List.length_nil] at h1
          omega
        clear HD hne
        go_wp2_with (first | (go_at_call 84; refine (rfirstAt_any _ _ _ hs').mono ?_; rintro e w0 ⟨rfl, hb1⟩; have ic0 := (hb1.cell (p := ⟨w.heap.size, 0, none⟩) hsz).trans hc0; have ic1 := (hb1.cell (p := ⟨w.heap.size, 1, none⟩) hsz).trans hc1; have if0 := (hb1.frozen (p := ⟨w.heap.size, 0, none⟩) hsz).trans hf0; have if1 := (hb1.frozen (p := ⟨w.heap.size, 1, none⟩) hsz).trans hf1; have jown := own_later hown hb1; have jbe := hbe.trans (hb1.mono hsz); have jsz := Nat.le_trans hsz hb1.size) | (at_builtin; refine wpList_append_own _ rfl _ _ 77 rfl (w.heap.size + 1) 3 i0 (.int .i64 0) 1 8 Tryz.underlying77 hi hz0 hz1 hz2 rfl (by decide) _ _ _ rfl (jown.alloc _) ⟨w0.heap.size, 0, none⟩ 1 1 [Value.int .i64 (fst (s.data.toList.drop p)).1] rfl rfl (new_cells _ _ _) (new_one _) ?_ ?_ ?_ ?_))
        · unfold maxLen; omega
        · omega
        · simp; omega
        intro v' w1 hown' hgrow _
        have R := step1 jown jbe jsz hown' hgrow
        obtain ⟨R1, R2, R3⟩ := R
        clear hown' hgrow hown hbe hc0 hc1 hf0 hf1 ic0 ic1 if0 if1 jown jbe jsz hb1
        go_wp2
        have h4 := H4.out
        go_roundw
        case rel => exact ⟨p + fk (s.data.toList.drop p), xs ++ [(fst (s.data.toList.drop p)).1], by omega, by simp; omega, by rw [← H4.out]; go_num, R1, HN.out, R2, R3⟩
        case measure => simp [intOf]; omega
    · have HB : Hid (dec s.data.toList = (xs, none)) := by
        have h1 := HD.out
        rw [List.drop_of_length_le (by rw [len_data]; omega), dec_nil] at h1
        simp at h1; exact h1
      clear HD
      go_wp2
      refine bodyPost_ret (v := .tuple #[u4, .agg #[.int .i64 0, .int .i64 0]]) (by simp [results, Tryz.results59, go_sem, hc0, hc1]) rfl ?_
      refine ⟨u4, by rw [HB.out]; rfl, ?_, ?_⟩
      · have e : decXs s.data.toList = xs := by unfold decXs; rw [HB.out]; rfl
        rw [e]
        exact ownsRow_lower (ownsRow_setCell_below (ownsRow_setCell_below hown (Nat.lt_succ_self _) _) (Nat.lt_succ_self _) _) (Nat.le_succ _)
      · exact ((((Below.refl _ _).alloc (Nat.le_refl _) _).trans (hbe.mono (Nat.le_succ _))).setCell (Nat.le_refl _) _).setCell (Nat.le_refl _) _



end Go.Proofs.YteokhnielbmifaaGreatDoor.Utf
end

section
/- The reference's may, digit, text, escape, by their contracts. -/
namespace Go.Proofs.YteokhnielbmifaaGreatDoor.Quo
open Utf Rws
open Go.RowKit
set_option linter.unusedSimpArgs false
set_option linter.unusedVariables false
set_option maxRecDepth 100000

theorem rmay_any (n : Int) (w : World) : Calls Tryz.prog 88 #[.int .i64 n] w fun e w' => e = .returned (.bool (may n)) ∧ w = w' := by
  have HM : Hid (may n = (prn n && !(n == 9) && !(n == 10) && !(n == 13))) := rfl
  cases c0 : prn n
  · go_enter Tryz.func88, Tryz.ntmps88
    go_wp2_with (first | (go_at_call 85; refine (rprintable_any _ _).mono ?_; rintro e w' ⟨rfl, rfl⟩))
    go_ret
    exact ⟨by rw [HM.out, c0]; rfl, rfl⟩
  cases c1 : (n == 9)
  · have d1 : (n != 9) = true := by rw [bne, c1]; rfl
    cases c2 : (n == 10)
    · have d2 : (n != 10) = true := by rw [bne, c2]; rfl
      cases c3 : (n == 13)
      · have d3 : (n != 13) = true := by rw [bne, c3]; rfl
        go_enter Tryz.func88, Tryz.ntmps88
        go_wp2_with (first | (go_at_call 85; refine (rprintable_any _ _).mono ?_; rintro e w' ⟨rfl, rfl⟩))
        go_ret
        exact ⟨by rw [HM.out, c0, c1, c2, c3]; rfl, rfl⟩
      · have d3 : (n != 13) = false := by rw [bne, c3]; rfl
        go_enter Tryz.func88, Tryz.ntmps88
        go_wp2_with (first | (go_at_call 85; refine (rprintable_any _ _).mono ?_; rintro e w' ⟨rfl, rfl⟩))
        go_ret
        exact ⟨by rw [HM.out, c0, c1, c2, c3]; rfl, rfl⟩
    · have d2 : (n != 10) = false := by rw [bne, c2]; rfl
      go_enter Tryz.func88, Tryz.ntmps88
      go_wp2_with (first | (go_at_call 85; refine (rprintable_any _ _).mono ?_; rintro e w' ⟨rfl, rfl⟩))
      go_ret
      exact ⟨by rw [HM.out, c0, c1, c2]; rfl, rfl⟩
  · have d1 : (n != 9) = false := by rw [bne, c1]; rfl
    go_enter Tryz.func88, Tryz.ntmps88
    go_wp2_with (first | (go_at_call 85; refine (rprintable_any _ _).mono ?_; rintro e w' ⟨rfl, rfl⟩))
    go_ret
    exact ⟨by rw [HM.out, c0, c1]; rfl, rfl⟩

theorem rtext_any (n : Int) (w : World) : Calls Tryz.prog 89 #[.int .i64 n] w fun e w' => e = .returned (.string (mk (sgb n))) ∧ Below w.heap.size w w' := by
  have HE := rencode_any (some ⟨w.heap.size, 0, none⟩) 1 1 [n] (w.alloc (.cells #[.int .i64 n] 3)) (ints_one w n 3) (by decide)
  have hb0 : Below w.heap.size w (w.alloc (.cells #[.int .i64 n] 3)) := below_alloc _ _
  have e1 : encS [n] = mk (sgb n) := by
    unfold encS sgb
    rw [allS_one, bytes_one]
    split <;> rfl
  rw [e1] at HE
  have HC : Hid (Calls Tryz.prog 122 #[.slice (some ⟨w.heap.size, 0, none⟩) 1 1] (w.alloc (.cells #[.int .i64 n] 3)) fun e w' => e = .returned (.tuple #[.string (mk (sgb n)), .int .i64 (encE [n])]) ∧ Below w.heap.size w w') := HE.mono (by
    rintro e w' ⟨h1, h2⟩
    exact ⟨h1, hb0.trans (h2.mono (by simp))⟩)
  clear HE hb0 e1
  go_enter Tryz.func89, Tryz.ntmps89
  go_wp2_with (first | (go_at_call 122; refine HC.out.mono ?_; rintro e w1 ⟨rfl, hb1⟩))
  go_ret
  exact ⟨rfl, hb1⟩

theorem blit (c d : UInt8) : ((c.toNat : Int) == (d.toNat : Int)) = (c == d) := by
  rw [Bool.eq_iff_iff, beq_iff_eq, beq_iff_eq, ← UInt8.toNat_inj]; omega

theorem getD_dropR (l : List UInt8) (p i : Nat) : (l.drop p).getD i 0 = l.getD (p + i) 0 := by
  rw [List.getD_eq_getElem?_getD, List.getD_eq_getElem?_getD, List.getElem?_drop]
end Go.Proofs.YteokhnielbmifaaGreatDoor.Quo
end

section
/- Rows of bytes of the call's own; words for the reference's Read. -/
namespace Go.Proofs.YteokhnielbmifaaGreatDoor.Quo
open Utf Rws
open Go.RowKit
set_option linter.unusedSimpArgs false
set_option linter.unusedVariables false
set_option maxRecDepth 100000

/-- a row of bytes of the call's own that holds out -/
def Ob (B : Nat) (v : Value) (out : List UInt8) (w : World) : Prop := w.ownsRow B 5 1 v out.length (Lib.byteCells out)
variable {B : Nat} {v : Value} {out : List UInt8} {w w1 w2 : World}
theorem cells_nums (l : List UInt8) : Lib.byteCells l = (l.map fun b => (b.toNat : Int)).map (Value.int .u8) := by simp [Lib.byteCells]
theorem str_bytes (l : List UInt8) : strOfNums (l.map fun b => (b.toNat : Int)) = mk l := by
  unfold strOfNums mk
  rw [List.map_map]
  congr 2
  conv => rhs; rw [← List.map_id l]
  refine List.map_congr_left fun b _ => ?_
  simp
theorem Ob.conv (h : Ob B v out w) : (convert 45 9 v).run Tryz.prog w = .ok (.string (mk out)) w := by
  unfold Ob at h
  rw [cells_nums] at h
  rw [← str_bytes]
  exact conv_own h
theorem Ob.later (h : Ob B v out w) (hb : Below w.heap.size w w1) : Ob B v out w1 := own_later h hb
theorem Ob.shape (h : Ob B v out w) : ∃ a cap, v = .slice a out.length cap := by
  rcases h.2 with ⟨rfl, h0⟩ | ⟨g, cap, cur, rfl, _⟩
  · exact ⟨none, 0, by rw [h0]⟩
  · exact ⟨_, _, rfl⟩
theorem Ob.set (h : Ob B v out w) {k : Nat} (hk : k < B) (i : Nat) (x : Value) : Ob B v out (w.setCell ⟨k, i, none⟩ x) := ownsRow_setCell_below h hk x
theorem Ob.snoc {u' : Value} {o : Obj} {c : UInt8} (h : Ob B v out w) (hbe : Below B w1 w) (hB : B ≤ w.heap.size) (hown' : w2.ownsRow B 5 1 u' (out.length + 1) (Lib.byteCells out ++ [.int .u8 (c.toNat : Int)])) (hg : (w.alloc o).grownBy w2 v.ownBlock) :
    Ob B u' (out ++ [c]) w2 ∧ Below B w1 w2 ∧ B ≤ w2.heap.size := by
  refine ⟨?_, (hbe.alloc hB o).grown hg (by simp; omega) (fun k hk => (h.lt k hk).1), ?_⟩
  · unfold Ob
    rw [cells_app, List.length_append]
    exact hown'
  · have := hg.size; simp at this; omega
theorem Ob.more {u' : Value} {s : List UInt8} (h : Ob B v out w) (hbe : Below B w1 w) (hB : B ≤ w.heap.size) (hown' : w2.ownsRow B 5 1 u' (out.length + (mk s).size) (Lib.byteCells out ++ Lib.strCells (mk s))) (hg : w.grownBy w2 v.ownBlock) :
    Ob B u' (out ++ s) w2 ∧ Below B w1 w2 ∧ B ≤ w2.heap.size := by
  refine ⟨?_, hbe.grown hg hB (fun k hk => (h.lt k hk).1), ?_⟩
  · unfold Ob
    rw [cells_app, List.length_append]
    rw [mk_size, strCells_mk] at hown'
    exact hown'
  · have := hg.size; omega

theorem escR_two' (m : List UInt8) : (escR m).2.2 = 0 ∨ (escR m).2.2 = 3 ∨ (escR m).2.2 = 4 := by
  by_cases h : m.length < 2
  · unfold escR; rw [if_pos h]; exact .inr (.inr rfl)
  cases hm : mnt (m.getD 1 0) with
  | some n => rw [mnt_esc (n := n) (by omega) hm]; exact .inl rfl
  | none =>
    rw [dgs_esc (by omega) hm]
    split
    · exact .inr (.inl rfl)
    · unfold escH
      split
      · split
        · exact .inl rfl
        · exact .inr (.inl rfl)
      · exact hexR_two _ _ _

end Go.Proofs.YteokhnielbmifaaGreatDoor.Quo
end

section
/- The reference's hex, escaped, Simple, Single, Double, by their contracts. -/
namespace Go.Proofs.YteokhnielbmifaaGreatDoor.Quo
open Utf Rws
open Go.RowKit
set_option linter.unusedSimpArgs false
set_option linter.unusedVariables false
set_option maxRecDepth 100000

theorem hexL_div : ∀ (k n : Nat), hexL (k + 1) n = hexL k (n / 16) ++ [hxd (n % 16)]
  | 0, n => by simp [hexL]
  | k + 1, n => by
    have ih := hexL_div k n
    rw [hexL, ih, hexL]
    have e : n / 16 ^ (k + 1) = n / 16 / 16 ^ k := by rw [Nat.pow_succ, Nat.mul_comm, Nat.div_div_eq_div_mul]
    rw [e]
    rfl
theorem rtmod (n : Nat) : (n : Int).tmod 16 = ((n % 16 : Nat) : Int) := by rw [Int.tmod_eq_emod_of_nonneg (by omega)]; omega
theorem rtdiv (n : Nat) : (n : Int).tdiv 16 = ((n / 16 : Nat) : Int) := by rw [Int.tdiv_eq_ediv_of_nonneg (by omega)]; omega

set_option maxHeartbeats 1000000 in
theorem rhex_any (n k : Nat) (w : World) (hn : n ≤ 1114111) (hk : k ≤ 8) : Calls Tryz.prog 90 #[.int .i64 (n : Int), .int .i64 (k : Int)] w fun e w' => e = .returned (.string (mk (hexL k n))) ∧ Below w.heap.size w w' := by
  go_enter Tryz.func90, Tryz.ntmps90
  go_wp2
  go_loopw [0, 5, 6] (fun a s i wr => ∃ (j m : Nat) (o : List UInt8), j ≤ k ∧ m ≤ 1114111 ∧ o.length = j ∧ a = .int .i64 (m : Int) ∧ i = .int .i64 (j : Int) ∧ s = .string (mk o) ∧ hexL k n = hexL (k - j) m ++ o ∧ Below w.heap.size w wr) (fun _ _ i _ => k - (intOf i).toNat)
  case atStart => exact ⟨0, n, [], Nat.zero_le _, hn, rfl, rfl, rfl, rfl, by simp, Below.refl _ _⟩
  case round =>
    obtain ⟨j, m, o, hj, hm, hol, rfl, rfl, rfl, hE, hbe⟩ := hrel
    have HE : Hid (hexL k n = hexL (k - j) m ++ o) := hE
    have HO : Hid (o.length = j) := hol
    have hoz : (mk o).size ≤ 8 := by rw [mk_size, hol]; omega
    clear hE hol
    by_cases hlt : j < k
    · obtain ⟨r, hr⟩ : ∃ r, k - j = r + 1 := ⟨k - j - 1, by omega⟩
      have HN : Hid (hexL k n = hexL (k - (j + 1)) (m / 16) ++ (hxd (m % 16) :: o)) := by
        rw [HE.out, hr, hexL_div, show k - (j + 1) = r by omega]; simp [Hid]
      obtain ⟨d, hd⟩ : ∃ d, d = m % 16 := ⟨_, rfl⟩
      have hd16 : d < 16 := by omega
      have ht := rtmod m
      have hq := rtdiv m
      rw [← hd] at ht HN
      have HD : Hid (d = m % 16) := hd
      have hdx : ∀ h, (⟨#[48, 49, 50, 51, 52, 53, 54, 55, 56, 57, 97, 98, 99, 100, 101, 102]⟩ : ByteArray)[d]'h = hxd d := fun h => digs ⟨d, hd16⟩ h
      have hcat : mk [hxd d] ++ mk o = mk (hxd d :: o) := by
        apply ByteArray.ext; apply Array.ext'; simp [mk]
      have hcv : (convert 45 9 (.slice (some ⟨wr.heap.size, 0, none⟩) 1 1)).run Tryz.prog (wr.alloc (.cells #[.int .u8 ((hxd d).toNat : Int)] 5)) = .ok (.string (mk [hxd d])) (wr.alloc (.cells #[.int .u8 ((hxd d).toNat : Int)] 5)) := by
        have q := run_convert_bytes_arg (wr.alloc (.cells #[.int .u8 ((hxd d).toNat : Int)] 5)) 45 5 Tryz.underlying45 Tryz.underlying5 wr.heap.size 0 1 1 [((hxd d).toNat : Int)] rfl (by
          intro i hi
          obtain rfl : i = 0 := by omega
          rw [cell_of_row _ wr.heap.size (0 + 0) _ _ (0, 0) (heap_alloc_new wr _)]
          rfl) 9 Tryz.underlying9
        rw [q]
        have e : strOfNums [((hxd d).toNat : Int)] = mk [hxd d] := str_bytes [hxd d]
        rw [e]
      have hws := hbe.size
      have h1z : (mk [hxd d]).size = 1 := rfl
      clear hd hr HE
      go_wp2
      go_roundw
      case rel => exact ⟨j + 1, m / 16, hxd d :: o, by omega, by omega, by rw [List.length_cons, HO.out], by go_num, by go_num, rfl, HN.out, hbe.alloc hws _⟩
      case measure => simp [intOf]; omega
    · have HX : Hid (hexL k n = o) := by rw [HE.out, show k - j = 0 by omega]; exact rfl
      go_wp2
      go_ret
      exact ⟨by rw [HX.out]; rfl, hbe⟩

set_option maxHeartbeats 2000000 in
theorem rescaped_any (n : Int) (w : World) (hsg : sgn n = true) : Calls Tryz.prog 60 #[.int .i64 n] w fun e w' => e = .returned (.string (mk (esc n))) ∧ Below w.heap.size w w' := by
  have hbd := sgn_bd hsg
  obtain ⟨V, HV⟩ : ∃ V, Hid (V = esc n) := ⟨_, rfl⟩
  rw [← HV.out]
  by_cases c34 : n = 34
  · have HVV : Hid (V = [92, 34]) := by rw [HV.out, c34]; exact rfl
    have q34 : (n == 34) = true := by simpa using c34
    clear c34 hsg hbd
    go_enter Tryz.func60, Tryz.ntmps60
    go_wp2
    go_ret
    exact ⟨by rw [HVV.out]; rfl, Below.refl _ _⟩
  by_cases c92 : n = 92
  · have HVV : Hid (V = [92, 92]) := by rw [HV.out, c92]; exact rfl
    have q34 : (n == 34) = false := by simpa using c34
    have q92 : (n == 92) = true := by simpa using c92
    clear c34 c92 hsg hbd
    go_enter Tryz.func60, Tryz.ntmps60
    go_wp2
    go_ret
    exact ⟨by rw [HVV.out]; rfl, Below.refl _ _⟩
  by_cases c9 : n = 9
  · have HVV : Hid (V = [92, 116]) := by rw [HV.out, c9]; exact rfl
    have q34 : (n == 34) = false := by simpa using c34
    have q92 : (n == 92) = false := by simpa using c92
    have q9 : (n == 9) = true := by simpa using c9
    clear c34 c92 c9 hsg hbd
    go_enter Tryz.func60, Tryz.ntmps60
    go_wp2
    go_ret
    exact ⟨by rw [HVV.out]; rfl, Below.refl _ _⟩
  by_cases c10 : n = 10
  · have HVV : Hid (V = [92, 110]) := by rw [HV.out, c10]; exact rfl
    have q34 : (n == 34) = false := by simpa using c34
    have q92 : (n == 92) = false := by simpa using c92
    have q9 : (n == 9) = false := by simpa using c9
    have q10 : (n == 10) = true := by simpa using c10
    clear c34 c92 c9 c10 hsg hbd
    go_enter Tryz.func60, Tryz.ntmps60
    go_wp2
    go_ret
    exact ⟨by rw [HVV.out]; rfl, Below.refl _ _⟩
  by_cases c13 : n = 13
  · have HVV : Hid (V = [92, 114]) := by rw [HV.out, c13]; exact rfl
    have q34 : (n == 34) = false := by simpa using c34
    have q92 : (n == 92) = false := by simpa using c92
    have q9 : (n == 9) = false := by simpa using c9
    have q10 : (n == 10) = false := by simpa using c10
    have q13 : (n == 13) = true := by simpa using c13
    clear c34 c92 c9 c10 c13 hsg hbd
    go_enter Tryz.func60, Tryz.ntmps60
    go_wp2
    go_ret
    exact ⟨by rw [HVV.out]; rfl, Below.refl _ _⟩
  by_cases c0 : n = 0
  · have HVV : Hid (V = [92, 48]) := by rw [HV.out, c0]; exact rfl
    have q34 : (n == 34) = false := by simpa using c34
    have q92 : (n == 92) = false := by simpa using c92
    have q9 : (n == 9) = false := by simpa using c9
    have q10 : (n == 10) = false := by simpa using c10
    have q13 : (n == 13) = false := by simpa using c13
    have q0 : (n == 0) = true := by simpa using c0
    clear c34 c92 c9 c10 c13 c0 hsg hbd
    go_enter Tryz.func60, Tryz.ntmps60
    go_wp2
    go_ret
    exact ⟨by rw [HVV.out]; rfl, Below.refl _ _⟩
  have q34 : (n == 34) = false := by simpa using c34
  have q92 : (n == 92) = false := by simpa using c92
  have q9 : (n == 9) = false := by simpa using c9
  have q10 : (n == 10) = false := by simpa using c10
  have q13 : (n == 13) = false := by simpa using c13
  have q0 : (n == 0) = false := by simpa using c0
  have hE : esc n = if may n = true then u8s (byt n) else if n < 256 then 92 :: 120 :: hexL 2 n.toNat else if n < 65536 then 92 :: 117 :: hexL 4 n.toNat else 92 :: 85 :: hexL 8 n.toNat := by
    unfold esc
    rw [if_neg c34, if_neg c92, if_neg c9, if_neg c10, if_neg c13, if_neg c0]
  obtain ⟨N, hN⟩ : ∃ N : Nat, n = (N : Int) := ⟨n.toNat, by omega⟩
  have hNt : n.toNat = N := by omega
  rw [hNt] at hE
  have hN2 : N ≤ 1114111 := by omega
  obtain ⟨n0, n1, n2⟩ := hbd
  have HSG : Hid (sgn n = true) := hsg
  have HN : Hid (n = (N : Int)) := hN
  clear c34 c92 c9 c10 c13 c0 hNt hsg
  have hhx : ∀ k : Nat, k ≤ 8 → ∀ w, Calls Tryz.prog 90 #[.int .i64 n, .int .i64 (k : Int)] w fun e w' => e = .returned (.string (mk (hexL k N))) ∧ Below w.heap.size w w' := fun k hk w => by rw [hN]; exact rhex_any N k w hN2 hk
  have hsz : ∀ k : Nat, (mk (hexL k N)).size = k := fun k => by rw [mk_size, hexL_len]
  cases hm : may n
  · rw [hm, if_neg (by decide)] at hE
    by_cases a1 : n < 256
    · rw [if_pos a1] at hE
      have HX : Hid (∀ w, Calls Tryz.prog 90 #[.int .i64 n, .int .i64 2] w fun e w' => e = .returned (.string (mk (hexL 2 N))) ∧ Below w.heap.size w w') := fun w => hhx 2 (by decide) w
      have hz := hsz 2
      have HVV : Hid ((⟨#[92, 120]⟩ : ByteArray) ++ mk (hexL 2 N) = mk V) := by
        rw [HV.out, hE]; apply ByteArray.ext; apply Array.ext'; simp [mk]
      clear hN hhx hsz hE
      go_enter Tryz.func60, Tryz.ntmps60
      go_wp2_with (first | (go_at_call 88; refine (rmay_any _ _).mono ?_; rintro e w' ⟨rfl, rfl⟩) | (go_at_call 90; refine (HX.out _).mono ?_; rintro e w1 ⟨rfl, b1⟩))
      go_ret
      exact ⟨by rw [HVV.out]; rfl, b1⟩
    by_cases a2 : n < 65536
    · rw [if_neg a1, if_pos a2] at hE
      have HX : Hid (∀ w, Calls Tryz.prog 90 #[.int .i64 n, .int .i64 4] w fun e w' => e = .returned (.string (mk (hexL 4 N))) ∧ Below w.heap.size w w') := fun w => hhx 4 (by decide) w
      have hz := hsz 4
      have HVV : Hid ((⟨#[92, 117]⟩ : ByteArray) ++ mk (hexL 4 N) = mk V) := by
        rw [HV.out, hE]; apply ByteArray.ext; apply Array.ext'; simp [mk]
      clear hN hhx hsz hE
      go_enter Tryz.func60, Tryz.ntmps60
      go_wp2_with (first | (go_at_call 88; refine (rmay_any _ _).mono ?_; rintro e w' ⟨rfl, rfl⟩) | (go_at_call 90; refine (HX.out _).mono ?_; rintro e w1 ⟨rfl, b1⟩))
      go_ret
      exact ⟨by rw [HVV.out]; rfl, b1⟩
    · rw [if_neg a1, if_neg a2] at hE
      have HX : Hid (∀ w, Calls Tryz.prog 90 #[.int .i64 n, .int .i64 8] w fun e w' => e = .returned (.string (mk (hexL 8 N))) ∧ Below w.heap.size w w') := fun w => hhx 8 (by decide) w
      have hz := hsz 8
      have HVV : Hid ((⟨#[92, 85]⟩ : ByteArray) ++ mk (hexL 8 N) = mk V) := by
        rw [HV.out, hE]; apply ByteArray.ext; apply Array.ext'; simp [mk]
      clear hN hhx hsz hE
      go_enter Tryz.func60, Tryz.ntmps60
      go_wp2_with (first | (go_at_call 88; refine (rmay_any _ _).mono ?_; rintro e w' ⟨rfl, rfl⟩) | (go_at_call 90; refine (HX.out _).mono ?_; rintro e w1 ⟨rfl, b1⟩))
      go_ret
      exact ⟨by rw [HVV.out]; rfl, b1⟩
  · have HVV : Hid (mk (sgb n) = mk V) := by rw [HV.out, hE, if_pos hm]; unfold sgb; rw [if_pos HSG.out]; exact rfl
    clear hN hhx hsz hE
    go_enter Tryz.func60, Tryz.ntmps60
    go_wp2_with (first | (go_at_call 88; refine (rmay_any _ _).mono ?_; rintro e w' ⟨rfl, rfl⟩) | (go_at_call 89; refine (rtext_any _ _).mono ?_; rintro e w1 ⟨rfl, b1⟩))
    go_ret
    exact ⟨by rw [HVV.out]; rfl, b1⟩

end Go.Proofs.YteokhnielbmifaaGreatDoor.Quo
end

section
/- The reference's Simple, Single, Double, by their contracts. -/
namespace Go.Proofs.YteokhnielbmifaaGreatDoor.Quo
open Utf Rws
open Go.RowKit
set_option linter.unusedSimpArgs false
set_option linter.unusedVariables false
set_option maxRecDepth 100000

/-- the reference's Decode, as its results are used -/
theorem rdec_no (l : List UInt8) (w : World) (hl : l.length ≤ 4194304) {p : Nat} (hd : (dec l).2 = some p) : Calls Tryz.prog 59 #[.string (mk l)] w fun e w' => e = .returned (.tuple #[.slice none 0 0, .agg #[.int .i64 8, .int .i64 (p : Int)]]) ∧ Below w.heap.size w w' ∨ ∃ a cap, e = .returned (.tuple #[.slice a 0 cap, .agg #[.int .i64 8, .int .i64 (p : Int)]]) ∧ Below w.heap.size w w' := by
  have hdl := dec_len l.length l (Nat.le_refl _)
  have HD := rdecode_any (mk l) w (by rw [mk_size]; omega) (by rw [mk_data]; omega)
  rw [mk_data] at HD
  refine HD.mono ?_
  rintro e w' ⟨v, h1, h2, h3⟩
  rw [hd] at h1
  have hx : decXs l = [] := by unfold decXs; rw [if_neg (by rw [hd]; simp)]
  rw [hx] at h2
  obtain ⟨a, cap, rfl, _⟩ := ints_of_own h2
  exact .inr ⟨a, cap, h1, h3⟩
theorem rdec_yes (l : List UInt8) (w : World) (hl : l.length ≤ 4194304) (zs : List Int) (hz : zs = (dec l).1) (hd : (dec l).2 = none) : Calls Tryz.prog 59 #[.string (mk l)] w fun e w' => ∃ a cap, e = .returned (.tuple #[.slice a zs.length cap, .agg #[.int .i64 0, .int .i64 0]]) ∧ Ints w' a zs.length zs ∧ Below w.heap.size w w' := by
  have hdl := dec_len l.length l (Nat.le_refl _)
  have HD := rdecode_any (mk l) w (by rw [mk_size]; omega) (by rw [mk_data]; omega)
  rw [mk_data] at HD
  refine HD.mono ?_
  rintro e w' ⟨v, h1, h2, h3⟩
  rw [hd] at h1
  unfold decXs at h2
  rw [if_pos hd, ← hz] at h2
  obtain ⟨a, cap, rfl, hI⟩ := ints_of_own h2
  exact ⟨a, cap, h1, hI, h3⟩

theorem one_news (c : UInt8) (w : World) : ∀ j u, ([(c.toNat : Int)].map (Value.int .u8))[j]? = some u → (w.alloc (.cells ([(c.toNat : Int)].map (Value.int .u8)).toArray 5)).cell? ((⟨w.heap.size, 0, none⟩ : Addr).add j) = some u := news_cells w [(c.toNat : Int)] 5
theorem own_one (w : World) (c : UInt8) : Ob w.heap.size (.slice (some ⟨w.heap.size, 0, none⟩) 1 1) [c] (w.alloc (.cells #[.int .u8 (c.toNat : Int)] 5)) := by
  refine ⟨rfl, .inr ⟨w.heap.size, 1, #[.int .u8 (c.toNat : Int)], rfl, Nat.le_refl _, heap_alloc_new w _, Nat.le_refl _, by unfold maxLen; decide, rfl, rfl⟩⟩

set_option maxHeartbeats 2000000 in
theorem rdouble_any (l : List UInt8) (w : World) (hl : l.length ≤ 4194304) : Calls Tryz.prog 34 #[.string (mk l)] w fun e w' => e = .returned (.tuple #[.string (mk (dblS l)), .int .i64 (dblE l)]) ∧ Below w.heap.size w w' := by
  obtain ⟨i0, hi, hz0, hz1, hz2⟩ := info_parts Tryz.info5
  have hdl := dec_len l.length l (Nat.le_refl _)
  cases hd : (dec l).2 with
  | some p =>
    have HV : Hid (dblS l = [] ∧ dblE l = 8) := ⟨dblS_no (by rw [hd]; simp), dblE_no (by rw [hd]; simp)⟩
    have HDD : Hid (Calls Tryz.prog 59 #[.string (mk l)] w fun e w' => ∃ a cap, e = .returned (.tuple #[.slice a 0 cap, .agg #[.int .i64 8, .int .i64 (p : Int)]]) ∧ Below w.heap.size w w') := (rdec_no l w hl hd).mono (by
      rintro e w' (⟨h1, h2⟩ | h)
      · exact ⟨none, 0, h1, h2⟩
      · exact h)
    clear hd hdl
    go_enter Tryz.func34, Tryz.ntmps34
    go_wp2_with fail
    refine HDD.out.mono ?_
    rintro e w1 ⟨a, cap, rfl, b1⟩
    go_wp2
    go_ret2
    rw [HV.out.1, HV.out.2]
    exact ⟨rfl, b1.trans ((below_alloc _ _).mono b1.size)⟩
  | none =>
    obtain ⟨zs, hz⟩ : ∃ zs, zs = (dec l).1 := ⟨_, rfl⟩
    have hS : ∀ n ∈ zs, sgn n = true := fun n hn => by
      have := ((dec_sound l.length l (Nat.le_refl _)).1 hd).1
      unfold allS at this
      exact List.all_eq_true.1 this n (by rw [← hz]; exact hn)
    have HV : Hid (mk (dblS l) = mk (34 :: (escs zs ++ [34])) ∧ dblE l = 0) := ⟨by rw [dblS_yes hd]; unfold dbl; rw [hz], dblE_yes hd⟩
    have HDD : Hid (Calls Tryz.prog 59 #[.string (mk l)] w fun e w' => ∃ a cap, e = .returned (.tuple #[.slice a zs.length cap, .agg #[.int .i64 0, .int .i64 0]]) ∧ Ints w' a zs.length zs ∧ Below w.heap.size w w') := rdec_yes l w hl zs hz hd
    rw [← hz] at hdl
    obtain ⟨M, hM⟩ : ∃ M, M = zs.length := ⟨_, rfl⟩
    have HM : Hid (M = zs.length) := hM
    rw [← hM] at HDD hdl
    have HS : Hid (∀ n ∈ zs, sgn n = true) := hS
    rw [HV.out.1, HV.out.2]
    clear hd hS hz hM
    go_enter Tryz.func34, Tryz.ntmps34
    go_wp2_with fail
    refine HDD.out.mono ?_
    rintro e w1 ⟨a, cap, rfl, hI, b1⟩
    obtain ⟨w2, hw2⟩ : ∃ w2, w2 = w1.alloc (.cells #[.int .i64 0, .int .i64 0] 37) := ⟨_, rfl⟩
    have b2 : Below w1.heap.size w1 w2 := by rw [hw2]; exact below_alloc _ _
    have HI : Hid (Ints w2 a M zs) := hI.later b2 (Nat.le_refl _)
    have HB : Hid (Below w.heap.size w w2) := b1.trans (b2.mono b1.size)
    have HW : Hid (w2 = w1.alloc (.cells #[.int .i64 0, .int .i64 0] 37)) := hw2
    clear hI b1 b2 hw2 HDD
    go_wp2
    rw [← HW.out]
    go_loopw [6, 7] (fun v i wr => ∃ k : Nat, k ≤ M ∧ i = .int .i64 (k : Int) ∧ Ob w2.heap.size v (escs (zs.take k)) wr ∧ Below w2.heap.size w2 wr ∧ w2.heap.size ≤ wr.heap.size) (fun _ i _ => M - (intOf i).toNat)
    case atStart => exact ⟨0, Nat.zero_le _, rfl, World.ownsRow_nil _ _ _ _, Below.refl _ _, Nat.le_refl _⟩
    case round =>
      clear HW
      obtain ⟨k, hk, rfl, hO, hBe, hB⟩ := hrel
      have HO : Hid (Ob w2.heap.size u6 (escs (zs.take k)) wr) := hO
      have HBe : Hid (Below w2.heap.size w2 wr) := hBe
      have hel : (escs (zs.take k)).length ≤ 10 * k := by have := escs_le (zs.take k); have := List.length_take_le k zs; omega
      clear hO hBe
      by_cases hlt : k < M
      · have hkz : k < zs.length := by rw [← HM.out]; exact hlt
        obtain ⟨b', off, rfl, hbb, hc⟩ := HI.out.2 (by omega)
        have hck := (HBe.out.cell (p := ⟨b', off + k, none⟩) hbb).trans (hc k hlt)
        have hsn := HS.out (zs.getD k 0) (by rw [List.getD_eq_getElem?_getD, List.getElem?_eq_getElem hkz]; simp)
        have HE : Hid (escs (zs.take (k + 1)) = escs (zs.take k) ++ esc (zs.getD k 0)) := escs_take zs k hkz
        have hen := esc_le (zs.getD k 0)
        generalize zs.getD k 0 = n at *
        have HX : Hid (∀ w, Calls Tryz.prog 60 #[.int .i64 n] w fun e w' => e = .returned (.string (mk (esc n))) ∧ Below w.heap.size w w') := fun w => rescaped_any n w hsn
        generalize esc n = o at *
        clear hc hsn hkz
        go_wp2_with (first | (go_at_call 60; refine (HX.out _).mono ?_; rintro e w3 ⟨rfl, b3⟩) | (at_builtin; refine Lib.wpList_append_own_string _ rfl _ _ 45 9 rfl w2.heap.size 5 i0 Tryz.underlying45 Tryz.underlying9 hi hz0 hz1 hz2 _ _ _ rfl (HO.out.later b3) (mk o) rfl ?_ ?_ ?_ ?_))
        · rw [mk_size]; unfold maxLen; omega
        · rw [mk_size]; omega
        · have := b3.size; omega
        intro v' w4 hown' hgrow _
        obtain ⟨R1, R2, R3⟩ := Ob.more (HO.out.later b3) (HBe.out.trans (b3.mono hB)) (by have := b3.size; omega) hown' hgrow
        rw [← HE.out] at R1
        have HR1 : Hid (Ob w2.heap.size v' (escs (zs.take (k + 1))) w4) := R1
        have HR2 : Hid (Below w2.heap.size w2 w4) := R2
        clear hown' hgrow HO HBe R1 R2 b3 hck
        go_wp2
        go_roundw
        case rel => exact ⟨k + 1, by omega, by go_num, HR1.out, HR2.out, R3⟩
        case measure => simp [intOf]; omega
      · have HE : Hid (escs (zs.take k) = escs zs) := by rw [List.take_of_length_le (by rw [← HM.out]; omega)]; exact rfl
        rw [HE.out] at HO hel
        have hcv := HO.out.conv
        have hez : (mk (escs zs)).size ≤ 100000000 := by rw [mk_size]; omega
        have HJ : Hid ((⟨#[34]⟩ ++ mk (escs zs) ++ ⟨#[34]⟩ : ByteArray) = mk (34 :: (escs zs ++ [34]))) := by
          unfold Hid
          apply ByteArray.ext
          apply Array.ext'
          simp [mk]
        clear HO
        go_wp2
        go_ret2
        rw [HJ.out]
        exact ⟨rfl, HB.out.trans (HBe.out.mono HB.out.size)⟩

end Go.Proofs.YteokhnielbmifaaGreatDoor.Quo
end
