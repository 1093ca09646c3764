/- grommetref09.many, by its contract. -/
import Derived.Test.YteokhnielbmifaaGreatDoorFbE
import Derived.Deep.RegionWith
namespace Go.Proofs.YteokhnielbmifaaGreatDoor.Flw
open Utf Rws Pln
open Go.RowKit
set_option linter.unusedSimpArgs false
set_option linter.unusedVariables false
set_option maxRecDepth 100000
set_option maxHeartbeats 4000000

/-- one kid after the other, as long as there are not too many -/
def manyL (f : Tr → Nat) : List Tr → Nat → Nat
  | [], n => n
  | k :: ks, n => if n ≤ 4096 then manyL f ks (n + f k) else n
def manyT : Nat → Nat → Tr → Nat
  | 0, _, _ => 1
  | d + 1, deep, t => if deep ≤ 64 then manyL (fun k => manyT d (deep + 1) k) t.kids 1 else 1
theorem manyL_le (f : Tr → Nat) (B : Nat) (hf : ∀ k, f k ≤ B) : ∀ (ks : List Tr) (n : Nat), n ≤ 4096 + B → manyL f ks n ≤ 4096 + B
  | [], n, h => h
  | k :: ks, n, h => by
    unfold manyL
    split
    · exact manyL_le f B hf ks _ (by have := hf k; omega)
    · exact h
theorem manyT_le : ∀ (d deep : Nat) (t : Tr), manyT d deep t ≤ 4096 * (66 - deep) + 1
  | 0, deep, t => by unfold manyT; omega
  | d + 1, deep, t => by
    unfold manyT
    split
    · have := manyL_le (fun k => manyT d (deep + 1) k) (4096 * (66 - (deep + 1)) + 1) (fun k => manyT_le d (deep + 1) k) t.kids 1 (by omega)
      omega
    · omega
theorem manyL_sum (f g : Tr → Nat) (h : ∀ k, f k ≤ g k) : ∀ (ks : List Tr) (n : Nat), manyL f ks n ≤ n + (ks.map g).sum
  | [], n => by simp [manyL]
  | k :: ks, n => by
    unfold manyL
    simp only [List.map_cons, List.sum_cons]
    split
    · have := manyL_sum f g h ks (n + f k)
      have := h k
      omega
    · omega
theorem manyT_cnt : ∀ (d deep : Nat) (t : Tr), manyT d deep t ≤ cntT d t
  | 0, deep, t => Nat.le_refl _
  | d + 1, deep, t => by
    unfold manyT cntT
    split
    · exact manyL_sum _ _ (fun k => manyT_cnt d (deep + 1) k) t.kids 1
    · omega
/-- at the n-th kid -/
theorem manyL_at (f : Tr → Nat) (ks : List Tr) (i n : Nat) (h : i < ks.length) (hn : n ≤ 4096) : manyL f (ks.drop i) n = manyL f (ks.drop (i + 1)) (n + f (ks.getD i tr0)) := by
  rw [List.drop_eq_getElem_cons h, manyL, if_pos hn, List.getD_eq_getElem?_getD, List.getElem?_eq_getElem h]
  rfl
theorem manyL_end (f : Tr → Nat) (ks : List Tr) (n : Nat) (hn : ¬ n ≤ 4096) : manyL f ks n = n := by
  cases ks with
  | nil => rfl
  | cons k ks => rw [manyL, if_neg hn]

theorem rmany_core (k : Int) (s a : ByteArray) (ad : Option Addr) (len cap : Nat) (w : World) (hl : len ≤ 9223372036854775807) (d deep : Nat) (hd : deep ≤ 65) (ks : List Tr) (HK : Hid (KAt w d ad len ks)) (A : Nat) (HA : Hid (A = if deep ≤ 64 then manyL (fun k => manyT d (deep + 1) k) ks 1 else 1))
    (HI : Hid (∀ v t w, TrV w d v t → deep + 1 ≤ 65 → Calls Tryz.prog 26 #[v, .int .i64 ((deep + 1 : Nat) : Int)] w fun e w' => e = .returned (.int .i64 (manyT d (deep + 1) t)) ∧ Below w.heap.size w w')) :
    Calls Tryz.prog 26 #[.agg #[.int .i64 k, .string s, .string a, .slice ad len cap], .int .i64 (deep : Int)] w
      fun e w' => e = .returned (.int .i64 (A : Int)) ∧ Below w.heap.size w w' := by
  have HB : ∀ o : Obj, Below w.heap.size w (w.alloc o) := fun o => (Below.refl _ w).alloc (Nat.le_refl _) o
  have HL : Hid (len = ks.length) := HK.out.1
  go_enter Tryz.func26, Tryz.ntmps26
  go_wp2
  have hc1 : (w.alloc (Obj.cells #[.int .i64 k, .string s, .string a, .slice ad len cap] 24)).cell? ⟨w.heap.size, 3, none⟩ = some (.slice ad len cap) := by
    rw [World.cell?_alloc_new]
    rfl
  have hB2 := HB (Obj.cells #[.int .i64 k, .string s, .string a, .slice ad len cap] 24)
  have hsz : (w.alloc (Obj.cells #[.int .i64 k, .string s, .string a, .slice ad len cap] 24)).heap.size = w.heap.size + 1 := by rw [World.size_alloc]
  clear HB
  generalize w.alloc (Obj.cells #[.int .i64 k, .string s, .string a, .slice ad len cap] 24) = W at hc1 hB2 hsz ⊢
  go_loopw [5, 6] (fun m i wr => ∃ n j : Nat, j ≤ len ∧ m = .int .i64 n ∧ i = .int .i64 j ∧ n ≤ 1000000 ∧ (deep ≤ 64 → manyL (fun k => manyT d (deep + 1) k) ks 1 = manyL (fun k => manyT d (deep + 1) k) (ks.drop j) n) ∧ (¬ deep ≤ 64 → n = 1) ∧ Below W.heap.size W wr) (fun _ i _ => len - (intOf i).toNat)
  case atStart => exact ⟨1, 0, Nat.zero_le _, rfl, rfl, by omega, fun _ => rfl, fun _ => rfl, Below.refl _ _⟩
  case round =>
    obtain ⟨n, j, hj, rfl, rfl, hn, ht, ht2, hbe⟩ := hrel
    have HT : Hid (deep ≤ 64 → manyL (fun k => manyT d (deep + 1) k) ks 1 = manyL (fun k => manyT d (deep + 1) k) (ks.drop j) n) := ht
    have HT2 : Hid (¬ deep ≤ 64 → n = 1) := ht2
    clear ht ht2
    have hz1 := (hbe.cell (p := ⟨w.heap.size, 3, none⟩) (by show w.heap.size < _; omega)).trans hc1
    have HBW : Hid (Below w.heap.size w wr) := hB2.trans (hbe.mono (by omega))
    by_cases hlt : j < len
    · by_cases h4 : n ≤ 4096
      · by_cases h64 : deep ≤ 64
        · obtain ⟨b, off, rfl, hb, hcell⟩ := HK.out.2 (by omega)
          obtain ⟨c0, c1, c2, c3, x0, x1, x2, x3, hx⟩ := hcell j hlt
          replace x0 := (HBW.out.cell (p := ⟨b, off + j * 4, none⟩) hb).trans x0
          replace x1 := (HBW.out.cell (p := ⟨b, off + j * 4 + 1, none⟩) hb).trans x1
          replace x2 := (HBW.out.cell (p := ⟨b, off + j * 4 + 2, none⟩) hb).trans x2
          replace x3 := (HBW.out.cell (p := ⟨b, off + j * 4 + 3, none⟩) hb).trans x3
          have hq := manyT_le d (deep + 1) (ks.getD j tr0)
          have HS : Hid (manyL (fun k => manyT d (deep + 1) k) ks 1 = manyL (fun k => manyT d (deep + 1) k) (ks.drop (j + 1)) (n + manyT d (deep + 1) (ks.getD j tr0))) := by
            rw [HT.out h64, manyL_at _ ks j n (by rw [← HL.out]; exact hlt) h4]
            exact rfl
          have HC0 : Hid (Calls Tryz.prog 26 #[.agg #[c0, c1, c2, c3], .int .i64 ((deep + 1 : Nat) : Int)] wr fun e w' => e = .returned (.int .i64 (manyT d (deep + 1) (ks.getD j tr0))) ∧ Below W.heap.size W w') := by
            refine (HI.out _ _ _ (hx.later HBW.out (Nat.le_refl _)) (by omega)).mono ?_
            rintro e w' ⟨rfl, hb⟩
            exact ⟨rfl, hbe.trans (hb.mono hbe.size)⟩
          clear hcell hx
          generalize manyT d (deep + 1) (ks.getD j tr0) = Q at hq HS HC0
          have hQ : Q ≤ 400000 := by omega
          have HC : Hid (Calls Tryz.prog 26 #[.agg #[c0, c1, c2, c3], .int .i64 ((deep : Int) + 1)] wr fun e w' => e = .returned (.int .i64 (Q : Int)) ∧ Below W.heap.size W w') := by
            have := HC0.out
            rwa [show ((deep + 1 : Nat) : Int) = (deep : Int) + 1 by omega] at this
          clear HC0
          go_wp2_with (go_at_call 26; refine HC.out.mono ?_; rintro e w2 ⟨rfl, hb2⟩)
          go_roundw
          case rel => exact ⟨n + Q, j + 1, by omega, by go_num, by go_num, by omega, fun _ => HS.out, fun h => absurd h64 h, hb2⟩
          case measure => simp [intOf]; omega
        · have HR : Hid (A = n) := by rw [HA.out, if_neg h64, HT2.out h64]; exact rfl
          go_wp2
          go_ret
          rw [HR.out]
          exact ⟨rfl, HBW.out⟩
      · have HR : Hid (A = n) := by
          rw [HA.out]
          by_cases h64 : deep ≤ 64
          · rw [if_pos h64, HT.out h64, manyL_end _ _ _ h4]; exact rfl
          · rw [if_neg h64, HT2.out h64]; exact rfl
        go_wp2
        go_ret
        rw [HR.out]
        exact ⟨rfl, HBW.out⟩
    · have HR : Hid (A = n) := by
        rw [HA.out]
        by_cases h64 : deep ≤ 64
        · rw [if_pos h64, HT.out h64, List.drop_eq_nil_of_le (by have := HL.out; omega)]; exact rfl
        · rw [if_neg h64, HT2.out h64]; exact rfl
      go_wp2
      go_ret
      rw [HR.out]
      exact ⟨rfl, HBW.out⟩
theorem rmany_any : ∀ (d : Nat) (v : Value) (t : Tr) (deep : Nat) (w : World), TrV w d v t → deep ≤ 65 →
    Calls Tryz.prog 26 #[v, .int .i64 (deep : Int)] w fun e w' => e = .returned (.int .i64 (manyT d deep t)) ∧ Below w.heap.size w w'
  | 0, v, t, deep, w, h, hd => h.elim
  | d + 1, v, t, deep, w, h, hd => by
    obtain ⟨ad, len, cap, rfl, hl, hc, hm, hz, hk⟩ := h
    have m1 : maxLen = 9223372036854775807 := rfl
    exact rmany_core t.kind (mk t.text) (mk t.anc) ad len cap w (by omega) d deep hd t.kids ⟨hl, hk⟩ _ rfl (fun v t w h hd => rmany_any d v t (deep + 1) w h hd)
end Go.Proofs.YteokhnielbmifaaGreatDoor.Flw
