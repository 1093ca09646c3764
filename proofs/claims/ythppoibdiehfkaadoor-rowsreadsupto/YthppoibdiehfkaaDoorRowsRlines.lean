/- grommetref02.Lines, Texts, row, by their contracts. -/
import Derived.Test.YthppoibdiehfkaaDoorRowsLines
import Derived.Test.YthppoibdiehfkaaDoorRowsNote
import Derived.BigQuiet
import Derived.Deep.QuietTactic
namespace Go.Proofs.YthppoibdiehfkaaDoor.Rws
open Utf
open Go.RowKit
set_option linter.unusedSimpArgs false
set_option linter.unusedVariables false
set_option maxRecDepth 100000

theorem grow_below {B : Nat} {w wr w1 : World} {e : TypeId} {k n : Nat} {u : Value} {xs : List Value} {o : Obj} (hown : wr.ownsRow B e k u n xs) (hbe : Below B w wr) (hB : B ≤ wr.heap.size) (hgrow : (wr.alloc o).grownBy w1 u.ownBlock) :
    Below B w w1 ∧ B ≤ w1.heap.size := by
  refine ⟨(hbe.alloc hB o).grown hgrow (by simp; omega) (fun k hk => (hown.lt k hk).1), ?_⟩
  have := hgrow.size; simp at this; omega
theorem b10 (b : UInt8) : ((b.toNat : Int) == 10) = (b == 10) := by
  rw [Bool.eq_iff_iff]
  simp only [beq_iff_eq]
  constructor
  · intro h; apply UInt8.toNat_inj.1; have : b.toNat = 10 := by omega
    rw [this]; rfl
  · rintro rfl; rfl
theorem b13 (b : UInt8) : ((b.toNat : Int) == 13) = (b == 13) := by
  rw [Bool.eq_iff_iff]
  simp only [beq_iff_eq]
  constructor
  · intro h; apply UInt8.toNat_inj.1; have : b.toNat = 13 := by omega
    rw [this]; rfl
  · rintro rfl; rfl

/-- a text without a feed, and one with its first -/
theorem no10 (l : List UInt8) (h : ∀ j, j < l.length → l.getD j 0 ≠ 10) : has 10 l = false := by
  induction l with
  | nil => rfl
  | cons b r ih =>
    rw [has_cons, ih (fun j hj => by have := h (j + 1) (by simp; omega); rwa [List.getD_cons_succ] at this)]
    have := h 0 (by simp)
    simpa using this
theorem first10 (l : List UInt8) (n : Nat) (hn : n < l.length) (h : ∀ j, j < n → l.getD j 0 ≠ 10) (he : l.getD n 0 = 10) : bef l = l.take n ∧ has 10 l = true ∧ aft l = l.drop (n + 1) := by
  have hb : bef l = l.take n ∧ has 10 l = true := by
    induction l generalizing n with
    | nil => simp at hn
    | cons b r ih =>
      cases n with
      | zero =>
        simp at he; subst he
        exact ⟨by unfold bef not10; rw [List.takeWhile_cons]; rfl, by rw [has_cons]; rfl⟩
      | succ n =>
        have h0 : b ≠ 10 := by have := h 0 (by omega); simpa using this
        obtain ⟨i1, i2⟩ := ih n (by simp at hn; omega) (fun j hj => by have := h (j + 1) (by omega); rwa [List.getD_cons_succ] at this) (by rwa [List.getD_cons_succ] at he)
        have h3 : not10 b = true := by unfold not10; simpa using h0
        refine ⟨?_, by rw [has_cons, i2]; simp⟩
        unfold bef at i1 ⊢
        rw [List.takeWhile_cons, h3, if_pos rfl, i1, List.take_succ_cons]
  refine ⟨hb.1, hb.2, ?_⟩
  unfold aft
  rw [hb.1, List.length_take, Nat.min_eq_left (by omega)]
theorem getD_drop (l : List UInt8) (f j : Nat) : (l.drop f).getD j 0 = l.getD (f + j) 0 := by
  rw [List.getD_eq_getElem?_getD, List.getD_eq_getElem?_getD, List.getElem?_drop]
theorem chop_take (l : List UInt8) (n : Nat) (h0 : 0 < n) (h : n ≤ l.length) : chop (l.take n) = if l.getD (n - 1) 0 = 13 then l.take (n - 1) else l.take n := by
  obtain ⟨m, rfl⟩ : ∃ m, n = m + 1 := ⟨n - 1, by omega⟩
  rw [take_snoc l m (by omega), chop_snoc]
  rfl

def strV (L : List (List UInt8)) : List Value := L.map fun l => Value.string (mk l)
theorem strV_snoc (L : List (List UInt8)) (l : List UInt8) : strV (L ++ [l]) = strV L ++ [Value.string (mk l)] := by simp [strV]
theorem one_str (s : ByteArray) : ∀ u ∈ [Value.string s], u.oneCell' = true := by intro u hu; simp at hu; subst hu; rfl
theorem new_str (w : World) (v : Value) (t : TypeId) : ∀ j u, ([v])[j]? = some u → (w.alloc (.cells #[v] t)).cell? ((⟨w.heap.size, 0, none⟩ : Addr).add j) = some u := by
  intro j u hj
  have e : (⟨w.heap.size, 0, none⟩ : Addr).add j = ⟨w.heap.size, j, none⟩ := by unfold Addr.add; split <;> simp_all
  rw [e, cell_of_row _ w.heap.size j #[v] t (0, 0) (heap_alloc_new w _)]
  simpa using hj

set_option maxHeartbeats 4000000 in
theorem rlines_any (l : List UInt8) (hs : l.length ≤ 1048576) (w : World) : Calls Tryd.prog 14 #[.string (mk l)] w fun e w' => LinesRes l w e w' := by
  have hsz := mk_size l
  have hll : (lns l).length ≤ 1048576 := Nat.le_trans (lns_len _ l (Nat.le_refl _)) hs
  obtain ⟨i0, hi, hz0, hz1, hz2⟩ := info_parts Tryd.infoStr
  go_enter Tryd.func14, Tryd.ntmps14
  go_wp2
  go_loopw [3, 4, 5] (fun v f i wr => ∃ (pre : List (List UInt8)) (p q : Nat), p ≤ q ∧ q ≤ l.length ∧ f = .int .i64 p ∧ i = .int .i64 q ∧ wr.ownsRow w.heap.size 9 1 v pre.length (strV pre) ∧ lns l = pre ++ lns (l.drop p) ∧ (∀ j, p ≤ j → j < q → l.getD j 0 ≠ 10) ∧
      Below w.heap.size w wr) (fun _ _ i _ => l.length - (intOf i).toNat)
  case atStart => exact ⟨[], 0, 0, Nat.le_refl _, Nat.zero_le _, rfl, rfl, World.ownsRow_nil _ _ _ _, by simp, fun j _ hj => absurd hj (by omega), Below.refl _ _⟩
  case round =>
    obtain ⟨pre, p, q, hpq, hq, rfl, rfl, hown, hx, hno, hbe⟩ := hrel
    have HX : Hid (lns l = pre ++ lns (l.drop p)) := hx
    have HNO : Hid (∀ j, p ≤ j → j < q → l.getD j 0 ≠ 10) := hno
    have hws := hbe.size
    clear hx hno
    by_cases hlt : q < l.length
    · have hlt' : q < (mk l).size := by rw [mk_size]; exact hlt
      have hg : ∀ h, (mk l)[q]'h = l.getD q 0 := fun h => mk_getD l q h
      have hb := b10 (l.getD q 0)
      cases h10 : (l.getD q 0 == 10)
      · rw [h10] at hb
        have HNO2 : Hid (∀ j, p ≤ j → j < q + 1 → l.getD j 0 ≠ 10) := by
          intro j h1 h2
          by_cases h : j < q
          · exact HNO.out j h1 h
          · obtain rfl : j = q := by omega
            simpa using h10
        clear h10
        generalize l.getD q 0 = b at hg hb
        go_wp2
        go_roundw
        case rel => exact ⟨pre, p, q + 1, by omega, by omega, rfl, by go_num, hown, HX.out, HNO2.out, hbe⟩
        case measure => (simp [intOf] <;> omega)
      · rw [h10] at hb
        have h10' : l.getD q 0 = 10 := by simpa using h10
        obtain ⟨s1, s2, s3⟩ := first10 (l.drop p) (q - p) (by rw [List.length_drop]; omega) (fun j hj => by rw [getD_drop]; exact HNO.out _ (by omega) (by omega)) (by rw [getD_drop, Nat.add_sub_cancel' hpq]; exact h10')
        rw [List.drop_drop] at s3
        have e3 : p + (q - p + 1) = q + 1 := by omega
        rw [e3] at s3
        have hne : l.drop p ≠ [] := by intro e; have := congrArg List.length e; rw [List.length_drop] at this; simp at this; omega
        have HL : Hid (line (l.drop p) = chop ((l.drop p).take (q - p))) := by unfold line; rw [s2, s1]; exact rfl
        have HN : Hid (lns l = (pre ++ [line (l.drop p)]) ++ lns (l.drop (q + 1))) := by rw [HX.out, lns_next _ hne, s3]; simp [Hid]
        have hpl : pre.length + 1 ≤ 1048576 := by
          have := HN.out
          rw [this] at hll
          simp at hll; omega
        clear h10 h10' s1 s2 s3 e3 hne
        generalize l.getD q 0 = b at hg hb
        by_cases hgt : p < q
        · have hlt2 : q - 1 < (mk l).size := by rw [mk_size]; omega
          obtain ⟨r, rfl⟩ : ∃ r, q = r + 1 := ⟨q - 1, by omega⟩
          have hlt3 : r < (mk l).size := by omega
          have hg2 : ∀ h, (mk l)[r]'h = l.getD r 0 := fun h => mk_getD l r h
          have HC := chop_take (l.drop p) (r + 1 - p) (by omega) (by rw [List.length_drop]; omega)
          rw [getD_drop] at HC
          have e4 : p + (r + 1 - p - 1) = r := by omega
          rw [e4] at HC
          have hb2 := b13 (l.getD r 0)
          cases h13 : (l.getD r 0 == 13)
          · rw [h13] at hb2
            rw [if_neg (by simpa using h13)] at HC
            have HE : Hid (mk (line (l.drop p)) = (mk l).extract p (r + 1)) := by rw [HL.out, HC, mk_ext]; exact rfl
            clear h13 HC e4
            generalize l.getD r 0 = b2 at hg2 hb2
            go_wp2_with (first | (at_builtin; refine wpList_append_own _ rfl _ _ 30 rfl w.heap.size 9 i0 (.string ⟨#[]⟩) 1 16 Tryd.underlying30 hi hz0 hz1 hz2 rfl (by decide) _ _ _ rfl (hown.alloc _) ⟨wr.heap.size, 0, none⟩ 1 1 [Value.string ((mk l).extract p (r + 1))] rfl rfl (new_str _ _ _) (one_str _) (by unfold maxLen; omega) (by omega) (by simp; omega) ?_; intro v' w1 hown' hgrow _; obtain ⟨g1, g2⟩ := grow_below hown hbe hws hgrow; clear hgrow))
            have hown2 : w1.ownsRow w.heap.size 9 1 v' (pre ++ [line (l.drop p)]).length (strV (pre ++ [line (l.drop p)])) := by
              rw [strV_snoc, List.length_append, HE.out]; exact hown'
            clear hown' hown
            go_wp2
            go_roundw
            case rel => exact ⟨pre ++ [line (l.drop p)], r + 1 + 1, r + 1 + 1, Nat.le_refl _, by omega, by go_num, by go_num, hown2, HN.out, fun j h1 h2 => absurd h2 (by omega), g1⟩
            case measure => (simp [intOf] <;> omega)
          · rw [h13] at hb2
            rw [if_pos (by simpa using h13)] at HC
            have HE : Hid (mk (line (l.drop p)) = (mk l).extract p r) := by
              have e5 : r + 1 - p - 1 = r - p := by omega
              rw [HL.out, HC, mk_ext, e5]; exact rfl
            clear h13 HC e4
            generalize l.getD r 0 = b2 at hg2 hb2
            go_wp2_with (first | (at_builtin; refine wpList_append_own _ rfl _ _ 30 rfl w.heap.size 9 i0 (.string ⟨#[]⟩) 1 16 Tryd.underlying30 hi hz0 hz1 hz2 rfl (by decide) _ _ _ rfl (hown.alloc _) ⟨wr.heap.size, 0, none⟩ 1 1 [Value.string ((mk l).extract p r)] rfl rfl (new_str _ _ _) (one_str _) (by unfold maxLen; omega) (by omega) (by simp; omega) ?_; intro v' w1 hown' hgrow _; obtain ⟨g1, g2⟩ := grow_below hown hbe hws hgrow; clear hgrow))
            have hown2 : w1.ownsRow w.heap.size 9 1 v' (pre ++ [line (l.drop p)]).length (strV (pre ++ [line (l.drop p)])) := by
              rw [strV_snoc, List.length_append, HE.out]; exact hown'
            clear hown' hown
            go_wp2
            go_roundw
            case rel => exact ⟨pre ++ [line (l.drop p)], r + 1 + 1, r + 1 + 1, Nat.le_refl _, by omega, by go_num, by go_num, hown2, HN.out, fun j h1 h2 => absurd h2 (by omega), g1⟩
            case measure => (simp [intOf] <;> omega)
        · obtain rfl : p = q := by omega
          have HE : Hid (mk (line (l.drop p)) = ByteArray.empty) := by
            have e0 : chop ((l.drop p).take (p - p)) = [] := by rw [Nat.sub_self, List.take_zero]; rfl
            rw [HL.out, e0]; exact rfl
          go_wp2_with (first | (at_builtin; refine wpList_append_own _ rfl _ _ 30 rfl w.heap.size 9 i0 (.string ⟨#[]⟩) 1 16 Tryd.underlying30 hi hz0 hz1 hz2 rfl (by decide) _ _ _ rfl (hown.alloc _) ⟨wr.heap.size, 0, none⟩ 1 1 [Value.string ByteArray.empty] rfl rfl (new_str _ _ _) (one_str _) (by unfold maxLen; omega) (by omega) (by simp; omega) ?_; intro v' w1 hown' hgrow _; obtain ⟨g1, g2⟩ := grow_below hown hbe hws hgrow; clear hgrow))
          have hown2 : w1.ownsRow w.heap.size 9 1 v' (pre ++ [line (l.drop p)]).length (strV (pre ++ [line (l.drop p)])) := by
            rw [strV_snoc, List.length_append, HE.out]; exact hown'
          clear hown' hown
          go_wp2
          go_roundw
          case rel => exact ⟨pre ++ [line (l.drop p)], p + 1, p + 1, Nat.le_refl _, by omega, by go_num, by go_num, hown2, HN.out, fun j h1 h2 => absurd h2 (by omega), g1⟩
          case measure => (simp [intOf] <;> omega)
    · obtain rfl : q = l.length := by omega
      by_cases hlt2 : p < l.length
      · have hne : l.drop p ≠ [] := by intro e; have := congrArg List.length e; rw [List.length_drop] at this; simp at this; omega
        have h10 : has 10 (l.drop p) = false := no10 _ (fun j hj => by rw [getD_drop]; rw [List.length_drop] at hj; exact HNO.out _ (by omega) (by omega))
        have HN : Hid (lns l = pre ++ [l.drop p]) := by
          have e : line (l.drop p) = l.drop p := by unfold line; rw [h10]; rfl
          rw [HX.out, lns_next _ hne, aft_no h10, e, lns_nil]; exact rfl
        have hpl : pre.length + 1 ≤ 1048576 := by
          have := HN.out
          rw [this] at hll
          simp at hll; omega
        have HE : Hid (mk (l.drop p) = (mk l).extract p (mk l).size) := by
          rw [mk_ext, mk_size, List.take_of_length_le (by rw [List.length_drop]; omega)]; exact rfl
        have HE2 : Hid (mk (l.drop p) = (mk l).extract p l.length) := by rw [HE.out, mk_size]; exact rfl
        clear hne h10 HE
        go_wp2_with (first | (at_builtin; refine wpList_append_own _ rfl _ _ 30 rfl w.heap.size 9 i0 (.string ⟨#[]⟩) 1 16 Tryd.underlying30 hi hz0 hz1 hz2 rfl (by decide) _ _ _ rfl (hown.alloc _) ⟨wr.heap.size, 0, none⟩ 1 1 [Value.string ((mk l).extract p l.length)] rfl rfl (new_str _ _ _) (one_str _) (by unfold maxLen; omega) (by omega) (by simp; omega) ?_; intro v' w1 hown' hgrow _; obtain ⟨g1, g2⟩ := grow_below hown hbe hws hgrow; clear hgrow))
        go_wp2
        go_ret
        refine ⟨v', rfl, ?_, g1⟩
        have e : (lns l).map (fun l => Value.string (mk l)) = strV pre ++ [Value.string ((mk l).extract p l.length)] := by
          rw [← HE2.out, ← strV_snoc, HN.out]; rfl
        rw [e, HN.out, List.length_append]
        exact hown'
      · have HN : Hid (lns l = pre) := by
          rw [HX.out, List.drop_of_length_le (by omega), lns_nil]; simp [Hid]
        go_wp2
        go_ret
        refine ⟨_, rfl, ?_, hbe⟩
        have e : (lns l).map (fun l => Value.string (mk l)) = strV pre := by rw [HN.out]; rfl
        rw [e, HN.out]
        exact hown

end Go.Proofs.YthppoibdiehfkaaDoor.Rws
