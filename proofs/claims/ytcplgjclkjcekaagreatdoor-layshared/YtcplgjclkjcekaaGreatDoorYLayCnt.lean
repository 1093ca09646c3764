/- Several texts as one: LayCnt. -/
import Derived.Test.YtcplgjclkjcekaaGreatDoorY26LayLarge
import Derived.Test.YtcplgjclkjcekaaGreatDoorY04FlowMem
section
/- The law's anchors, by its contract. -/
namespace Go.Proofs.YtcplgjclkjcekaaGreatDoor.Grp
open Utf Rws Pln Flw
open Go.RowKit
set_option linter.unusedSimpArgs false
set_option linter.unusedVariables false
set_option maxRecDepth 100000
set_option maxHeartbeats 4000000

theorem anT_le : ∀ (d : Nat) (t : Tr), (anT d t).1 ≤ tsz d t ∧ (anT d t).2 ≤ tsz d t
  | 0, t => ⟨Nat.le_refl _, Nat.le_refl _⟩
  | d + 1, t => by
    have h : ∀ ks : List Tr, (ks.map fun k => (anT d k).1).sum ≤ (ks.map (tsz d)).sum ∧ (ks.map fun k => (anT d k).2).sum ≤ (ks.map (tsz d)).sum := fun ks => by
      induction ks with
      | nil => exact ⟨Nat.le_refl _, Nat.le_refl _⟩
      | cons k ks ih =>
        have := anT_le d k
        rw [List.map_cons, List.sum_cons, List.map_cons, List.sum_cons, List.map_cons, List.sum_cons]
        omega
    have h1 := h t.kids
    rw [anT, tsz]
    constructor <;> simp only <;> split <;> (try split) <;> omega
theorem tsz_at {d : Nat} {ks : List Tr} {j : Nat} (h : j < ks.length) : ((ks.take (j + 1)).map (tsz d)).sum = ((ks.take j).map (tsz d)).sum + tsz d (ks.getD j tr0) := by
  rw [List.take_succ_eq_append_getElem h, List.map_append, List.sum_append, List.getD_eq_getElem?_getD, List.getElem?_eq_getElem h]
  simp
theorem sum_take {l : List Nat} : ∀ (j : Nat), (l.take j).sum ≤ l.sum := fun j => by
  have : l.sum = (l.take j).sum + (l.drop j).sum := by rw [← List.sum_append, List.take_append_drop]
  omega
theorem anchors_core' {w : World} {d : Nat} {k : Int} {x a : Ln} {ad : Option Addr} {len cap : Nat} {ks : List Tr} (hcap : len ≤ 9223372036854775807) (hz : tsz (d + 1) ⟨k, x, a, ks⟩ ≤ 1000000000) (HKA : Hid (KAt w d ad len ks))
    (HI : Hid (∀ W v t, Below w.heap.size w W → TrV w d v t → tsz d t ≤ 1000000000 → Calls Tryz.prog 21 #[v] W fun e W' => e = .returned (.tuple #[.int .i64 ((anT d t).1 : Int), .int .i64 ((anT d t).2 : Int)]) ∧ Hid (Below W.heap.size W W'))) :
    Calls Tryz.prog 21 #[tv k x a ad len cap] w fun e w' => e = .returned (.tuple #[.int .i64 ((anT (d + 1) ⟨k, x, a, ks⟩).1 : Int), .int .i64 ((anT (d + 1) ⟨k, x, a, ks⟩).2 : Int)]) ∧ Below w.heap.size w w' := by
  have b0 := below_alloc w (.cells #[.int .i64 k, .string (mk x), .string (mk a), .slice ad len cap] 29)
  have n0 := Bx.new w #[.int .i64 k, .string (mk x), .string (mk a), .slice ad len cap] 29
  rw [tsz] at hz
  simp only at hz
  obtain ⟨R1, HR1⟩ : ∃ R, Hid (R = (anT (d + 1) ⟨k, x, a, ks⟩).1) := ⟨_, rfl⟩
  obtain ⟨R2, HR2⟩ : ∃ R, Hid (R = (anT (d + 1) ⟨k, x, a, ks⟩).2) := ⟨_, rfl⟩
  rw [← HR1.out, ← HR2.out]
  obtain ⟨A0, B0, HAB, hA, hB, hw⟩ : ∃ A0 B0 : Nat, Hid (R1 = A0 + (ks.map fun k => (anT d k).1).sum ∧ R2 = B0 + (ks.map fun k => (anT d k).2).sum) ∧ A0 ≤ 1 ∧ B0 ≤ 1 ∧ ((k == 7) = true ∧ A0 = 0 ∧ B0 = 1 ∨ (k == 7) = false ∧ (mk a).toList.isEmpty = false ∧ A0 = 1 ∧ B0 = 0 ∨ (k == 7) = false ∧ (mk a).toList.isEmpty = true ∧ A0 = 0 ∧ B0 = 0) := by
    rw [HR1.out, HR2.out, anT]
    have e : (mk a).toList = a := by rw [ByteArray.toList_eq, mk_data]
    rw [e]
    by_cases h7 : k = 7
    · exact ⟨0, 1, ⟨by simp [h7], by simp [h7]⟩, by omega, by omega, .inl ⟨by simpa using h7, rfl, rfl⟩⟩
    · by_cases ha : a = []
      · exact ⟨0, 0, ⟨by simp [h7, ha], by simp [h7]⟩, by omega, by omega, .inr (.inr ⟨by simpa using h7, by rw [ha]; rfl, rfl, rfl⟩)⟩
      · exact ⟨1, 0, ⟨by simp [h7, ha], by simp [h7]⟩, by omega, by omega, .inr (.inl ⟨by simpa using h7, by cases a with | nil => exact absurd rfl ha | cons => rfl, rfl, rfl⟩)⟩
  clear HR1 HR2
  have HSZ : Hid (∀ j, j ≤ ks.length → ((ks.take j).map fun k => (anT d k).1).sum ≤ 1000000000 ∧ ((ks.take j).map fun k => (anT d k).2).sum ≤ 1000000000) := fun j hj => by
    have h1 : ∀ l : List Tr, (l.map fun k => (anT d k).1).sum ≤ (l.map (tsz d)).sum ∧ (l.map fun k => (anT d k).2).sum ≤ (l.map (tsz d)).sum := fun l => by
      induction l with
      | nil => exact ⟨Nat.le_refl _, Nat.le_refl _⟩
      | cons k ks ih =>
        have := anT_le d k
        rw [List.map_cons, List.sum_cons, List.map_cons, List.sum_cons, List.map_cons, List.sum_cons]
        omega
    have h2 := h1 (ks.take j)
    have h3 := sum_take (l := ks.map (tsz d)) j
    rw [← List.map_take] at h3
    omega
  have HZK : Hid (∀ j, j < ks.length → tsz d (ks.getD j tr0) ≤ 1000000000) := fun j hj => by
    have h1 := tsz_at (d := d) hj
    have h3 := sum_take (l := ks.map (tsz d)) (j + 1)
    rw [← List.map_take] at h3
    omega
  clear hz
  rcases hw with ⟨h7, HA0, HB0⟩ | ⟨h7, ha, HA0, HB0⟩ | ⟨h7, ha, HA0, HB0⟩
  all_goals
    have HA0 : Hid (A0 = _) := HA0
    have HB0 : Hid (B0 = _) := HB0
    go_enter Tryz.func21, Tryz.ntmps21
    go_wp2_with fail
    have hsz : w.heap.size < (w.alloc (.cells #[.int .i64 k, .string (mk x), .string (mk a), .slice ad len cap] 29)).heap.size := by rw [World.size_alloc]; omega
    generalize w.alloc (.cells #[.int .i64 k, .string (mk x), .string (mk a), .slice ad len cap] 29) = W0 at *
    obtain ⟨K0, hK0⟩ : ∃ K0, K0 = w.heap.size := ⟨_, rfl⟩
    have HK0 : Hid (K0 = w.heap.size) := hK0
    rw [← hK0] at n0 ⊢
    clear hK0
    go_loopw [4, 5, 19] (fun ua ub i wr => ∃ (j S1 S2 : Nat), j ≤ len ∧ i = .int .i64 j ∧ ua = .int .i64 (S1 : Int) ∧ ub = .int .i64 (S2 : Int) ∧ Hid (S1 = A0 + ((ks.take j).map fun k => (anT d k).1).sum ∧ S2 = B0 + ((ks.take j).map fun k => (anT d k).2).sum) ∧ Hid (Below W0.heap.size W0 wr)) (fun _ _ i _ => len - (intOf i).toNat)
    case atStart => exact ⟨0, A0, B0, Nat.zero_le _, rfl, by rw [HA0.out]; rfl, by rw [HB0.out]; rfl, ⟨rfl, rfl⟩, Below.refl _ _⟩
    case round =>
      obtain ⟨j, S1, S2, hj, rfl, rfl, rfl, HSS, HW⟩ := hrel
      have HB : Hid (Below w.heap.size w wr) := b0.trans (HW.out.mono b0.size)
      have hjl : j ≤ ks.length := by have := HKA.out.1; omega
      have hs1 : S1 ≤ 1000000001 := by have := (HSZ.out j hjl).1; have := HSS.out.1; omega
      have hs2 : S2 ≤ 1000000001 := by have := (HSZ.out j hjl).2; have := HSS.out.2; omega
      by_cases hlt : j < len
      · obtain ⟨b, off, rfl, hb, hcell⟩ := HKA.out.2 (by omega)
        obtain ⟨c0, c1, c2, c3, x0, x1, x2, x3, hx⟩ := hcell j hlt
        replace x0 := (HB.out.cell (p := ⟨b, off + j * 4, none⟩) hb).trans x0
        replace x1 := (HB.out.cell (p := ⟨b, off + j * 4 + 1, none⟩) hb).trans x1
        replace x2 := (HB.out.cell (p := ⟨b, off + j * 4 + 2, none⟩) hb).trans x2
        replace x3 := (HB.out.cell (p := ⟨b, off + j * 4 + 3, none⟩) hb).trans x3
        obtain ⟨k', s', a', ad', len', cap', rfl, rfl, rfl, rfl⟩ := hx.cells
        have hlk : j < ks.length := by have := HKA.out.1; omega
        have HC : Hid (∀ c t, Calls Tryz.prog 21 #[.agg #[.int .i64 k', .string s', .string a', .slice ad' len' cap']] (wr.alloc (.cells c t)) fun e w' => e = .returned (.tuple #[.int .i64 ((anT d (ks.getD j tr0)).1 : Int), .int .i64 ((anT d (ks.getD j tr0)).2 : Int)]) ∧ Hid (Below wr.heap.size wr w')) := fun c t =>
          (HI.out _ _ _ (HB.out.alloc HB.out.size _) hx (HZK.out j hlk)).mono (fun e w' q => ⟨q.1, (below_alloc wr _).trans (q.2.out.mono (below_alloc wr (.cells c t)).size)⟩)
        have HSN : Hid (S1 + (anT d (ks.getD j tr0)).1 = A0 + ((ks.take (j + 1)).map fun k => (anT d k).1).sum ∧ S2 + (anT d (ks.getD j tr0)).2 = B0 + ((ks.take (j + 1)).map fun k => (anT d k).2).sum) := by
          have e : ks.getD j tr0 = ks[j] := by rw [List.getD_eq_getElem?_getD, List.getElem?_eq_getElem hlk]; rfl
          have h1 := HSS.out
          rw [e, List.take_succ_eq_append_getElem hlk]
          simp only [List.map_append, List.sum_append, List.map_cons, List.map_nil, List.sum_cons, List.sum_nil]
          constructor <;> omega
        have hz1 : (anT d (ks.getD j tr0)).1 ≤ 1000000000 := Nat.le_trans (anT_le d _).1 (HZK.out j hlk)
        have hz2 : (anT d (ks.getD j tr0)).2 ≤ 1000000000 := Nat.le_trans (anT_le d _).2 (HZK.out j hlk)
        clear hcell hx HSS
        generalize (anT d (ks.getD j tr0)).1 = Y1 at HC HSN hz1
        generalize (anT d (ks.getD j tr0)).2 = Y2 at HC HSN hz2
        go_wp2_with (go_at_call 21; refine (HC.out _ _).mono ?_; rintro e w2 ⟨rfl, H2⟩)
        go_roundw
        case rel => exact ⟨j + 1, S1 + Y1, S2 + Y2, by omega, by go_num, by go_num, by go_num, HSN, HW.out.trans (H2.out.mono HW.out.size)⟩
        case measure => simp [intOf]; omega
      · have HF : Hid (S1 = R1 ∧ S2 = R2) := by
          have h1 := HSS.out
          rw [List.take_of_length_le (by have := HKA.out.1; omega)] at h1
          rw [h1.1, h1.2, HAB.out.1, HAB.out.2]
          exact ⟨rfl, rfl⟩
        clear HSS HSZ
        go_wp2
        go_ret2
        refine ⟨?_, HB.out⟩
        rw [← HF.out.1, ← HF.out.2]
        rfl
theorem anchors_any : ∀ {w : World} {d : Nat} {v : Value} {t : Tr}, TrV w d v t → tsz d t ≤ 1000000000 → Calls Tryz.prog 21 #[v] w fun e w' => e = .returned (.tuple #[.int .i64 ((anT d t).1 : Int), .int .i64 ((anT d t).2 : Int)]) ∧ Below w.heap.size w w'
  | w, 0, v, t, h, _ => h.elim
  | w, d + 1, v, t, h, hz => by
    obtain ⟨ad, len, cap, rfl, hl, hc, hm, hzz, hk⟩ := h
    obtain ⟨k, x, a, ks⟩ := t
    have m1 : maxLen = 9223372036854775807 := rfl
    exact anchors_core' (by omega) hz ⟨hl, hk⟩ (fun W v' t' b h' hz' => (anchors_any (h'.later b (Nat.le_refl _)) hz').mono (fun e W' q => ⟨q.1, q.2⟩))
end Go.Proofs.YtcplgjclkjcekaaGreatDoor.Grp
end
