/- Several texts as one: QuoteNum, QuotePut. -/
import Derived.Test.YteokhnielbmifaaGreatDoorFbL
import Derived.Test.YteokhnielbmifaaGreatDoorFbA
import Derived.Deep.RegionWith
section
/- (*quote.writer).putNumber, by its contract. -/
namespace Go.Proofs.YteokhnielbmifaaGreatDoor.Quo
open Utf Rws
open Go.RowKit
set_option linter.unusedSimpArgs false
set_option linter.unusedVariables false
set_option maxRecDepth 100000

/-- a writer in block b that has built out -/
def Wt (B b : Nat) (out : List UInt8) (w : World) : Prop := Bld 83 B b [] (Lib.byteCells out) w
variable {B b : Nat} {out : List UInt8} {w w1 w2 : World}
theorem Wt.lt (h : Wt B b out w) : b < w.heap.size := Bld.lt h
theorem Wt.later (h : Wt B b out w) (hb : Below w.heap.size w w1) : Wt B b out w1 := Bld.later h hb
theorem Wt.base (h : Wt B b out w) : B ≤ b := by rcases h with ⟨h, _⟩ | ⟨h, _⟩ <;> exact h
theorem wByte (c : UInt8) (w : World) (h : Wt B b out w) (hlen : out.length + 1 ≤ 140737488355328) (hBw : B ≤ w.heap.size) :
    Calls Tryz.prog 53 #[.pointer (some ⟨b, 0, none⟩), .int .u8 (c.toNat : Int)] w fun e w' => e = .returned .nilIface ∧ Wt B b (out ++ [c]) w' ∧ Fr B b w w' := by
  refine (writeByte_any embW (c.toNat : Int) h (by rw [cells_len]; exact hlen) hBw).mono ?_
  rintro e w' ⟨h1, h2, h3, h4⟩
  refine ⟨h1, ?_, h3, h4⟩
  have e : Lib.byteCells out ++ [.int .u8 (c.toNat : Int)] = Lib.byteCells (out ++ [c]) := by simp [Lib.byteCells]
  rw [e] at h2
  exact h2

theorem and15 (x : Int) (h0 : 0 ≤ x) (h1 : x ≤ 9223372036854775807) : bits .and .i64 x 15 = x % 16 := by
  obtain ⟨n, rfl⟩ := Int.eq_ofNat_of_zero_le h0
  have e : (15 : Int) = ((15 : Nat) : Int) := rfl
  rw [e]
  show IntKind.i64.wrap ((BitVec.ofInt 64 ((n : Nat) : Int) &&& BitVec.ofInt 64 ((15 : Nat) : Int)).toNat : Int) = _
  rw [BitVec.toNat_and, ofInt_u64 _ (by omega), ofInt_u64 _ (by omega), show (15 : Nat) = 2 ^ 4 - 1 from rfl, Nat.and_two_pow_sub_one_eq_mod, Utf.wrap_small _ (by omega)]
  omega
theorem digs : ∀ (d : Fin 16) (h : d.1 < (⟨#[48, 49, 50, 51, 52, 53, 54, 55, 56, 57, 97, 98, 99, 100, 101, 102]⟩ : ByteArray).size), (⟨#[48, 49, 50, 51, 52, 53, 54, 55, 56, 57, 97, 98, 99, 100, 101, 102]⟩ : ByteArray)[d.1]'h = hxd d.1 := by decide

set_option maxHeartbeats 8000000 in
theorem putNumber_any (n : Nat) (w : World) (h : Wt B b out w) (hn : n ≤ 1114111) (ho : out.length + 20 ≤ 140737488355328) (hBw : B ≤ w.heap.size) (hT : Tabs w) :
    Calls Tryz.prog 83 #[.pointer (some ⟨b, 0, none⟩), .int .i64 (n : Int)] w fun e w' => e = .returned (.tuple #[]) ∧ Wt B b (out ++ if n < 256 then 92 :: 120 :: hexL 2 n else if n < 65536 then 92 :: 117 :: hexL 4 n else 92 :: 85 :: hexL 8 n) w' ∧ Fr B b w w' := by
  have hlt := h.lt
  have hB := h.base
  obtain ⟨t0, fz, hT⟩ := hT.nu
  have g0 : w.cell? ⟨1, 0, none⟩ = some (.int .u8 120) := by rw [Lib.cell_of_heap hT]; rfl
  have g1 : w.cell? ⟨1, 1, none⟩ = some (.int .i64 2) := by rw [Lib.cell_of_heap hT]; rfl
  have g2 : w.cell? ⟨1, 2, none⟩ = some (.int .u8 117) := by rw [Lib.cell_of_heap hT]; rfl
  have g3 : w.cell? ⟨1, 3, none⟩ = some (.int .i64 4) := by rw [Lib.cell_of_heap hT]; rfl
  have g4 : w.cell? ⟨1, 4, none⟩ = some (.int .u8 85) := by rw [Lib.cell_of_heap hT]; rfl
  have g5 : w.cell? ⟨1, 5, none⟩ = some (.int .i64 8) := by rw [Lib.cell_of_heap hT]; rfl
  have x0 : ∀ w : World, (Instr.index 135 (.agg #[.int .u8 120, .int .i64 2, .int .u8 117, .int .i64 4, .int .u8 85, .int .i64 8]) (.int .i64 0)).run Tryz.prog w = .ok (.agg #[.int .u8 120, .int .i64 2]) w := fun _ => by kernel_rfl
  have x1 : ∀ w : World, (Instr.index 135 (.agg #[.int .u8 120, .int .i64 2, .int .u8 117, .int .i64 4, .int .u8 85, .int .i64 8]) (.int .i64 1)).run Tryz.prog w = .ok (.agg #[.int .u8 117, .int .i64 4]) w := fun _ => by kernel_rfl
  have x2 : ∀ w : World, (Instr.index 135 (.agg #[.int .u8 120, .int .i64 2, .int .u8 117, .int .i64 4, .int .u8 85, .int .i64 8]) (.int .i64 2)).run Tryz.prog w = .ok (.agg #[.int .u8 85, .int .i64 8]) w := fun _ => by kernel_rfl
  obtain ⟨V, HV⟩ : ∃ V, Hid (V = if n < 256 then 92 :: 120 :: hexL 2 n else if n < 65536 then 92 :: 117 :: hexL 4 n else 92 :: 85 :: hexL 8 n) := ⟨_, rfl⟩
  rw [← HV.out]
  have HW : Hid (Wt B b out w) := h
  clear hT h
  go_enter Tryz.func83, Tryz.ntmps83
  go_wp2
  clear g0 g1 g2 g3 g4 g5
  go_loopw [8] (fun i wr => ∃ k : Int, 0 ≤ k ∧ k ≤ 2 ∧ i = .int .i64 k ∧ (0 < k → 256 ≤ n) ∧ (1 < k → 65536 ≤ n) ∧ Wt B b out wr ∧ Fr B b w wr ∧ w.heap.size ≤ wr.heap.size) (fun i _ => 3 - (intOf i).toNat)
  case atStart => exact ⟨0, by decide, by decide, rfl, fun h => absurd h (by decide), fun h => absurd h (by decide), HW.out, Fr.refl, Nat.le_refl _⟩
  case round =>
    obtain ⟨k, hk0, hk, rfl, n1, n2, hW1, hF1, hs1⟩ := hrel
    have HW1 : Hid (Wt B b out wr) := hW1
    have HF1 : Hid (Fr B b w wr) := hF1
    clear hW1 hF1 HW
    rcases (show k = 0 ∨ k = 1 ∨ k = 2 by omega) with rfl | rfl | rfl
    · by_cases hb : n < 256
      · have hq : ((n : Int) / 256 != 0) = false := by simp; omega
        have HVV : Hid (V = 92 :: 120 :: hexL 2 n) := by rw [HV.out, if_pos (by omega)]; exact rfl
        clear n1 n2
        have hw1 : Below wr.heap.size wr (wr.alloc (.cells #[.int .u8 120, .int .i64 2] 134)) := below_alloc _ _
        have HW2 : Hid (Wt B b out (wr.alloc (.cells #[.int .u8 120, .int .i64 2] 134))) := HW1.out.later hw1
        have hX1 : (wr.alloc (.cells #[.int .u8 120, .int .i64 2] 134)).heap[wr.heap.size]? = some (.cells #[.int .u8 120, .int .i64 2] 134 (0, 0)) := heap_alloc_new wr _
        have HF2 : Hid (Fr B b w (wr.alloc (.cells #[.int .u8 120, .int .i64 2] 134))) := HF1.out.trans (Fr.of hw1 (by omega))
        have HX1 : Hid ((wr.alloc (.cells #[.int .u8 120, .int .i64 2] 134)).heap[wr.heap.size]? = some (.cells #[.int .u8 120, .int .i64 2] 134 (0, 0))) := hX1
        have hsa : (wr.alloc (.cells #[.int .u8 120, .int .i64 2] 134)).heap.size = wr.heap.size + 1 := World.size_alloc _ _
        obtain ⟨X, HXX⟩ : ∃ X, Hid (X = wr.heap.size) := ⟨_, rfl⟩
        have hXb : b < X := by rw [HXX.out]; exact HW1.out.lt
        clear hw1 hX1 HW1 HF1
        go_wp2_with fail
        refine (wByte 92 _ HW2.out (by omega) (by omega)).mono ?_
        rintro e w2 ⟨rfl, hW2, hF2⟩
        rw [← HXX.out]
        rw [← HXX.out] at HX1
        have hX2 := hF2.keep HX1.out (by omega) (fun c fz e => by cases e)
        have HW3 : Hid (Wt B b (out ++ [92]) w2) := hW2
        have HF3 : Hid (Fr B b w w2) := HF2.out.trans hF2
        have HX3 : Hid (w2.heap[X]? = some (.cells #[.int .u8 120, .int .i64 2] 134 (0, 0))) := hX2
        have c0 : w2.cell? ⟨X, 0, none⟩ = some (.int .u8 120) := by rw [Lib.cell_of_heap hX2]; rfl
        have hs2 : w.heap.size ≤ w2.heap.size := by have := hF2.1.size; omega
        have hwb : ∀ W, Below w2.heap.size w2 W → Calls Tryz.prog 53 #[.pointer (some ⟨b, 0, none⟩), .int .u8 120] W fun e w' => e = .returned .nilIface ∧ (Wt B b (out ++ [92, 120]) w' ∧ Fr B b w w' ∧ w'.heap[X]? = some (.cells #[.int .u8 120, .int .i64 2] 134 (0, 0))) := fun W hb => by
          refine (wByte 120 W (HW3.out.later hb) (by simp; omega) (by have := hb.size; omega)).mono ?_
          rintro e w' ⟨q1, q2, q3⟩
          have q4 : Fr B b w2 w' := (Fr.of hb (by omega)).trans q3
          rw [List.append_assoc] at q2
          exact ⟨q1, q2, HF3.out.trans q4, q4.keep HX3.out (by omega) (fun c fz e => by cases e)⟩
        have HWB : Hid (∀ W, Below w2.heap.size w2 W → Calls Tryz.prog 53 #[.pointer (some ⟨b, 0, none⟩), .int .u8 120] W fun e w' => e = .returned .nilIface ∧ (Wt B b (out ++ [92, 120]) w' ∧ Fr B b w w' ∧ w'.heap[X]? = some (.cells #[.int .u8 120, .int .i64 2] 134 (0, 0)))) := hwb
        clear hwb hW2 hF2 hX2 HW2 HF2 HX1 HXX hsa
        go_wp2
        go_region_with (go_at_call 53; refine (HWB.out _ (by first | exact Below.refl _ _ | exact Below.drew (Below.refl _ _) | exact below_drewN (Below.refl _ _) _)).mono ?_; rintro e w3 ⟨rfl, hW3, hF3, hX3⟩)
        all_goals
          have HW4 : Hid (Wt B b (out ++ [92, 120]) w3) := hW3
          have HF4 : Hid (Fr B b w w3) := hF3
          have c1 : w3.cell? ⟨X, 1, none⟩ = some (.int .i64 2) := by rw [Lib.cell_of_heap hX3]; rfl
          have hs3 : w.heap.size ≤ w3.heap.size := hF3.1.size
          clear hW3 hF3 hX3 HWB HW3 HF3 HX3 c0 hs2
          go_wp2
          go_loopw [6] (fun i wr => ∃ (q : Int) (o : List UInt8), -1 ≤ q ∧ q ≤ 1 ∧ i = .int .i64 q ∧ (o.length : Int) + q + 1 = out.length + 4 ∧ Wt B b o wr ∧ Fr B b w wr ∧ w.heap.size ≤ wr.heap.size ∧ o ++ hexL (q + 1).toNat n = out ++ V) (fun i _ => (intOf i + 1).toNat)
          case atStart => exact ⟨1, out ++ [92, 120], by decide, by decide, rfl, by simp; omega, HW4.out, HF4.out, hs3, by rw [HVV.out, show (((1 : Int)) + 1).toNat = 2 from rfl]; simp⟩
          case round =>
            obtain ⟨q, o, hq0, hq1, rfl, hol, hW5, hF5, hs5, he⟩ := hrel
            have HW5 : Hid (Wt B b o wr) := hW5
            have HF5 : Hid (Fr B b w wr) := hF5
            have HE : Hid (o ++ hexL (q + 1).toNat n = out ++ V) := he
            clear hW5 hF5 he HW4 HF4
            rcases (show q = -1 ∨ q = 0 ∨ q = 1 by omega) with rfl | rfl | rfl
            · have HEE : Hid (o = out ++ V) := by have := HE.out; rw [show ((-1 : Int) + 1).toNat = 0 from rfl, hexL, List.append_nil] at this; exact this
              go_wp2
              refine bodyPost_ret (v := .tuple #[]) (by simp [results, Tryz.results83, go_sem]) rfl ⟨rfl, ?_, HF5.out⟩
              rw [← HEE.out]; exact HW5.out
            · have HEE : Hid ((o ++ [hxd (n / 1 % 16)]) ++ hexL 0 n = out ++ V) := by have := HE.out; rw [show ((0 : Int) + 1).toNat = 0 + 1 from rfl, hexL] at this; rw [List.append_assoc]; exact this
              obtain ⟨d, hd⟩ : ∃ d, d = n / 1 % 16 := ⟨_, rfl⟩
              have hd16 : d < 16 := by omega
              have hdi : (n : Int) % 16 = (d : Int) := by omega
              have hand : bits .and .i64 ((n : Int)) 15 = (d : Int) := by rw [← hdi]; exact and15 _ (by omega) (by omega)
              have hwr : IntKind.i64.wrap 0 = 0 := by decide
              rw [← hd] at HEE
              have HD : Hid (d = n / 1 % 16) := hd
              clear hd HE
              have hdx : ∀ h, (⟨#[48, 49, 50, 51, 52, 53, 54, 55, 56, 57, 97, 98, 99, 100, 101, 102]⟩ : ByteArray)[d]'h = hxd d := fun h => digs ⟨d, hd16⟩ h
              have HWB : Hid (∀ W, Below wr.heap.size wr W → Calls Tryz.prog 53 #[.pointer (some ⟨b, 0, none⟩), .int .u8 ((hxd d).toNat : Int)] W fun e w' => e = .returned .nilIface ∧ (Wt B b (o ++ [hxd d]) w' ∧ Fr B b w w')) := fun W hb => by
                refine (wByte (hxd d) W (HW5.out.later hb) (by omega) (by have := hb.size; omega)).mono ?_
                rintro e w' ⟨q1, q2, q3⟩
                exact ⟨q1, q2, HF5.out.trans ((Fr.of hb (by omega)).trans q3)⟩
              clear HW5 HF5
              go_wp2
              go_region_with (go_at_call 53; refine (HWB.out _ (by first | exact Below.refl _ _ | exact Below.drew (Below.refl _ _) | exact below_drewN (Below.refl _ _) _)).mono ?_; rintro e w5 ⟨rfl, hW6, hF6⟩)
              all_goals
                have HW6 : Hid (Wt B b (o ++ [hxd d]) w5) := hW6
                have HF6 : Hid (Fr B b w w5) := hF6
                have hs6 : w.heap.size ≤ w5.heap.size := hF6.1.size
                clear hW6 hF6 HWB
                go_wp2
                go_roundw
                case rel => exact ⟨-1, o ++ [hxd d], by decide, by decide, rfl, by rw [List.length_append]; simp; omega, HW6.out, HF6.out, hs6, HEE.out⟩
                case measure => simp [intOf]
            · have HEE : Hid ((o ++ [hxd (n / 16 % 16)]) ++ hexL 1 n = out ++ V) := by have := HE.out; rw [show ((1 : Int) + 1).toNat = 1 + 1 from rfl, hexL] at this; rw [List.append_assoc]; exact this
              obtain ⟨d, hd⟩ : ∃ d, d = n / 16 % 16 := ⟨_, rfl⟩
              have hd16 : d < 16 := by omega
              have hdi : (n : Int) / 16 % 16 = (d : Int) := by omega
              have hand : bits .and .i64 ((n : Int) / 16) 15 = (d : Int) := by rw [← hdi]; exact and15 _ (by omega) (by omega)
              have hwr : IntKind.i64.wrap 4 = 4 := by decide
              rw [← hd] at HEE
              have HD : Hid (d = n / 16 % 16) := hd
              clear hd HE
              have hdx : ∀ h, (⟨#[48, 49, 50, 51, 52, 53, 54, 55, 56, 57, 97, 98, 99, 100, 101, 102]⟩ : ByteArray)[d]'h = hxd d := fun h => digs ⟨d, hd16⟩ h
              have HWB : Hid (∀ W, Below wr.heap.size wr W → Calls Tryz.prog 53 #[.pointer (some ⟨b, 0, none⟩), .int .u8 ((hxd d).toNat : Int)] W fun e w' => e = .returned .nilIface ∧ (Wt B b (o ++ [hxd d]) w' ∧ Fr B b w w')) := fun W hb => by
                refine (wByte (hxd d) W (HW5.out.later hb) (by omega) (by have := hb.size; omega)).mono ?_
                rintro e w' ⟨q1, q2, q3⟩
                exact ⟨q1, q2, HF5.out.trans ((Fr.of hb (by omega)).trans q3)⟩
              clear HW5 HF5
              go_wp2
              go_region_with (go_at_call 53; refine (HWB.out _ (by first | exact Below.refl _ _ | exact Below.drew (Below.refl _ _) | exact below_drewN (Below.refl _ _) _)).mono ?_; rintro e w5 ⟨rfl, hW6, hF6⟩)
              all_goals
                have HW6 : Hid (Wt B b (o ++ [hxd d]) w5) := hW6
                have HF6 : Hid (Fr B b w w5) := hF6
                have hs6 : w.heap.size ≤ w5.heap.size := hF6.1.size
                clear hW6 hF6 HWB
                go_wp2
                go_roundw
                case rel => exact ⟨0, o ++ [hxd d], by decide, by decide, rfl, by rw [List.length_append]; simp; omega, HW6.out, HF6.out, hs6, HEE.out⟩
                case measure => simp [intOf]
      · have hq : ((n : Int) / 256 != 0) = true := by simp; omega
        have hw1 : Below wr.heap.size wr (wr.alloc (.cells #[.int .u8 120, .int .i64 2] 134)) := below_alloc _ _
        have HW2 : Hid (Wt B b out (wr.alloc (.cells #[.int .u8 120, .int .i64 2] 134))) := HW1.out.later hw1
        have HF2 : Hid (Fr B b w (wr.alloc (.cells #[.int .u8 120, .int .i64 2] 134))) := HF1.out.trans (Fr.of hw1 (by omega))
        clear hw1 HW1 HF1 n1 n2
        go_wp2
        go_roundw
        case rel => exact ⟨1, by decide, by decide, rfl, fun _ => by omega, fun h => absurd h (by decide), HW2.out, HF2.out, by rw [World.size_alloc]; omega⟩
        case measure => simp [intOf]
    · have n1 := n1 (by decide)
      by_cases hb : n < 65536
      · have n2 := n2
        have hq : ((n : Int) / 65536 != 0) = false := by simp; omega
        have HVV : Hid (V = 92 :: 117 :: hexL 4 n) := by rw [HV.out, if_neg (by omega), if_pos (by omega)]; exact rfl
        clear n2
        have hw1 : Below wr.heap.size wr (wr.alloc (.cells #[.int .u8 117, .int .i64 4] 134)) := below_alloc _ _
        have HW2 : Hid (Wt B b out (wr.alloc (.cells #[.int .u8 117, .int .i64 4] 134))) := HW1.out.later hw1
        have hX1 : (wr.alloc (.cells #[.int .u8 117, .int .i64 4] 134)).heap[wr.heap.size]? = some (.cells #[.int .u8 117, .int .i64 4] 134 (0, 0)) := heap_alloc_new wr _
        have HF2 : Hid (Fr B b w (wr.alloc (.cells #[.int .u8 117, .int .i64 4] 134))) := HF1.out.trans (Fr.of hw1 (by omega))
        have HX1 : Hid ((wr.alloc (.cells #[.int .u8 117, .int .i64 4] 134)).heap[wr.heap.size]? = some (.cells #[.int .u8 117, .int .i64 4] 134 (0, 0))) := hX1
        have hsa : (wr.alloc (.cells #[.int .u8 117, .int .i64 4] 134)).heap.size = wr.heap.size + 1 := World.size_alloc _ _
        obtain ⟨X, HXX⟩ : ∃ X, Hid (X = wr.heap.size) := ⟨_, rfl⟩
        have hXb : b < X := by rw [HXX.out]; exact HW1.out.lt
        clear hw1 hX1 HW1 HF1
        go_wp2_with fail
        refine (wByte 92 _ HW2.out (by omega) (by omega)).mono ?_
        rintro e w2 ⟨rfl, hW2, hF2⟩
        rw [← HXX.out]
        rw [← HXX.out] at HX1
        have hX2 := hF2.keep HX1.out (by omega) (fun c fz e => by cases e)
        have HW3 : Hid (Wt B b (out ++ [92]) w2) := hW2
        have HF3 : Hid (Fr B b w w2) := HF2.out.trans hF2
        have HX3 : Hid (w2.heap[X]? = some (.cells #[.int .u8 117, .int .i64 4] 134 (0, 0))) := hX2
        have c0 : w2.cell? ⟨X, 0, none⟩ = some (.int .u8 117) := by rw [Lib.cell_of_heap hX2]; rfl
        have hs2 : w.heap.size ≤ w2.heap.size := by have := hF2.1.size; omega
        have hwb : ∀ W, Below w2.heap.size w2 W → Calls Tryz.prog 53 #[.pointer (some ⟨b, 0, none⟩), .int .u8 117] W fun e w' => e = .returned .nilIface ∧ (Wt B b (out ++ [92, 117]) w' ∧ Fr B b w w' ∧ w'.heap[X]? = some (.cells #[.int .u8 117, .int .i64 4] 134 (0, 0))) := fun W hb => by
          refine (wByte 117 W (HW3.out.later hb) (by simp; omega) (by have := hb.size; omega)).mono ?_
          rintro e w' ⟨q1, q2, q3⟩
          have q4 : Fr B b w2 w' := (Fr.of hb (by omega)).trans q3
          rw [List.append_assoc] at q2
          exact ⟨q1, q2, HF3.out.trans q4, q4.keep HX3.out (by omega) (fun c fz e => by cases e)⟩
        have HWB : Hid (∀ W, Below w2.heap.size w2 W → Calls Tryz.prog 53 #[.pointer (some ⟨b, 0, none⟩), .int .u8 117] W fun e w' => e = .returned .nilIface ∧ (Wt B b (out ++ [92, 117]) w' ∧ Fr B b w w' ∧ w'.heap[X]? = some (.cells #[.int .u8 117, .int .i64 4] 134 (0, 0)))) := hwb
        clear hwb hW2 hF2 hX2 HW2 HF2 HX1 HXX hsa
        go_wp2
        go_region_with (go_at_call 53; refine (HWB.out _ (by first | exact Below.refl _ _ | exact Below.drew (Below.refl _ _) | exact below_drewN (Below.refl _ _) _)).mono ?_; rintro e w3 ⟨rfl, hW3, hF3, hX3⟩)
        all_goals
          have HW4 : Hid (Wt B b (out ++ [92, 117]) w3) := hW3
          have HF4 : Hid (Fr B b w w3) := hF3
          have c1 : w3.cell? ⟨X, 1, none⟩ = some (.int .i64 4) := by rw [Lib.cell_of_heap hX3]; rfl
          have hs3 : w.heap.size ≤ w3.heap.size := hF3.1.size
          clear hW3 hF3 hX3 HWB HW3 HF3 HX3 c0 hs2
          go_wp2
          go_loopw [6] (fun i wr => ∃ (q : Int) (o : List UInt8), -1 ≤ q ∧ q ≤ 3 ∧ i = .int .i64 q ∧ (o.length : Int) + q + 1 = out.length + 6 ∧ Wt B b o wr ∧ Fr B b w wr ∧ w.heap.size ≤ wr.heap.size ∧ o ++ hexL (q + 1).toNat n = out ++ V) (fun i _ => (intOf i + 1).toNat)
          case atStart => exact ⟨3, out ++ [92, 117], by decide, by decide, rfl, by simp; omega, HW4.out, HF4.out, hs3, by rw [HVV.out, show (((3 : Int)) + 1).toNat = 4 from rfl]; simp⟩
          case round =>
            obtain ⟨q, o, hq0, hq1, rfl, hol, hW5, hF5, hs5, he⟩ := hrel
            have HW5 : Hid (Wt B b o wr) := hW5
            have HF5 : Hid (Fr B b w wr) := hF5
            have HE : Hid (o ++ hexL (q + 1).toNat n = out ++ V) := he
            clear hW5 hF5 he HW4 HF4
            rcases (show q = -1 ∨ q = 0 ∨ q = 1 ∨ q = 2 ∨ q = 3 by omega) with rfl | rfl | rfl | rfl | rfl
            · have HEE : Hid (o = out ++ V) := by have := HE.out; rw [show ((-1 : Int) + 1).toNat = 0 from rfl, hexL, List.append_nil] at this; exact this
              go_wp2
              refine bodyPost_ret (v := .tuple #[]) (by simp [results, Tryz.results83, go_sem]) rfl ⟨rfl, ?_, HF5.out⟩
              rw [← HEE.out]; exact HW5.out
            · have HEE : Hid ((o ++ [hxd (n / 1 % 16)]) ++ hexL 0 n = out ++ V) := by have := HE.out; rw [show ((0 : Int) + 1).toNat = 0 + 1 from rfl, hexL] at this; rw [List.append_assoc]; exact this
              obtain ⟨d, hd⟩ : ∃ d, d = n / 1 % 16 := ⟨_, rfl⟩
              have hd16 : d < 16 := by omega
              have hdi : (n : Int) % 16 = (d : Int) := by omega
              have hand : bits .and .i64 ((n : Int)) 15 = (d : Int) := by rw [← hdi]; exact and15 _ (by omega) (by omega)
              have hwr : IntKind.i64.wrap 0 = 0 := by decide
              rw [← hd] at HEE
              have HD : Hid (d = n / 1 % 16) := hd
              clear hd HE
              have hdx : ∀ h, (⟨#[48, 49, 50, 51, 52, 53, 54, 55, 56, 57, 97, 98, 99, 100, 101, 102]⟩ : ByteArray)[d]'h = hxd d := fun h => digs ⟨d, hd16⟩ h
              have HWB : Hid (∀ W, Below wr.heap.size wr W → Calls Tryz.prog 53 #[.pointer (some ⟨b, 0, none⟩), .int .u8 ((hxd d).toNat : Int)] W fun e w' => e = .returned .nilIface ∧ (Wt B b (o ++ [hxd d]) w' ∧ Fr B b w w')) := fun W hb => by
                refine (wByte (hxd d) W (HW5.out.later hb) (by omega) (by have := hb.size; omega)).mono ?_
                rintro e w' ⟨q1, q2, q3⟩
                exact ⟨q1, q2, HF5.out.trans ((Fr.of hb (by omega)).trans q3)⟩
              clear HW5 HF5
              go_wp2
              go_region_with (go_at_call 53; refine (HWB.out _ (by first | exact Below.refl _ _ | exact Below.drew (Below.refl _ _) | exact below_drewN (Below.refl _ _) _)).mono ?_; rintro e w5 ⟨rfl, hW6, hF6⟩)
              all_goals
                have HW6 : Hid (Wt B b (o ++ [hxd d]) w5) := hW6
                have HF6 : Hid (Fr B b w w5) := hF6
                have hs6 : w.heap.size ≤ w5.heap.size := hF6.1.size
                clear hW6 hF6 HWB
                go_wp2
                go_roundw
                case rel => exact ⟨-1, o ++ [hxd d], by decide, by decide, rfl, by rw [List.length_append]; simp; omega, HW6.out, HF6.out, hs6, HEE.out⟩
                case measure => simp [intOf]
            · have HEE : Hid ((o ++ [hxd (n / 16 % 16)]) ++ hexL 1 n = out ++ V) := by have := HE.out; rw [show ((1 : Int) + 1).toNat = 1 + 1 from rfl, hexL] at this; rw [List.append_assoc]; exact this
              obtain ⟨d, hd⟩ : ∃ d, d = n / 16 % 16 := ⟨_, rfl⟩
              have hd16 : d < 16 := by omega
              have hdi : (n : Int) / 16 % 16 = (d : Int) := by omega
              have hand : bits .and .i64 ((n : Int) / 16) 15 = (d : Int) := by rw [← hdi]; exact and15 _ (by omega) (by omega)
              have hwr : IntKind.i64.wrap 4 = 4 := by decide
              rw [← hd] at HEE
              have HD : Hid (d = n / 16 % 16) := hd
              clear hd HE
              have hdx : ∀ h, (⟨#[48, 49, 50, 51, 52, 53, 54, 55, 56, 57, 97, 98, 99, 100, 101, 102]⟩ : ByteArray)[d]'h = hxd d := fun h => digs ⟨d, hd16⟩ h
              have HWB : Hid (∀ W, Below wr.heap.size wr W → Calls Tryz.prog 53 #[.pointer (some ⟨b, 0, none⟩), .int .u8 ((hxd d).toNat : Int)] W fun e w' => e = .returned .nilIface ∧ (Wt B b (o ++ [hxd d]) w' ∧ Fr B b w w')) := fun W hb => by
                refine (wByte (hxd d) W (HW5.out.later hb) (by omega) (by have := hb.size; omega)).mono ?_
                rintro e w' ⟨q1, q2, q3⟩
                exact ⟨q1, q2, HF5.out.trans ((Fr.of hb (by omega)).trans q3)⟩
              clear HW5 HF5
              go_wp2
              go_region_with (go_at_call 53; refine (HWB.out _ (by first | exact Below.refl _ _ | exact Below.drew (Below.refl _ _) | exact below_drewN (Below.refl _ _) _)).mono ?_; rintro e w5 ⟨rfl, hW6, hF6⟩)
              all_goals
                have HW6 : Hid (Wt B b (o ++ [hxd d]) w5) := hW6
                have HF6 : Hid (Fr B b w w5) := hF6
                have hs6 : w.heap.size ≤ w5.heap.size := hF6.1.size
                clear hW6 hF6 HWB
                go_wp2
                go_roundw
                case rel => exact ⟨0, o ++ [hxd d], by decide, by decide, rfl, by rw [List.length_append]; simp; omega, HW6.out, HF6.out, hs6, HEE.out⟩
                case measure => simp [intOf]
            · have HEE : Hid ((o ++ [hxd (n / 256 % 16)]) ++ hexL 2 n = out ++ V) := by have := HE.out; rw [show ((2 : Int) + 1).toNat = 2 + 1 from rfl, hexL] at this; rw [List.append_assoc]; exact this
              obtain ⟨d, hd⟩ : ∃ d, d = n / 256 % 16 := ⟨_, rfl⟩
              have hd16 : d < 16 := by omega
              have hdi : (n : Int) / 256 % 16 = (d : Int) := by omega
              have hand : bits .and .i64 ((n : Int) / 256) 15 = (d : Int) := by rw [← hdi]; exact and15 _ (by omega) (by omega)
              have hwr : IntKind.i64.wrap 8 = 8 := by decide
              rw [← hd] at HEE
              have HD : Hid (d = n / 256 % 16) := hd
              clear hd HE
              have hdx : ∀ h, (⟨#[48, 49, 50, 51, 52, 53, 54, 55, 56, 57, 97, 98, 99, 100, 101, 102]⟩ : ByteArray)[d]'h = hxd d := fun h => digs ⟨d, hd16⟩ h
              have HWB : Hid (∀ W, Below wr.heap.size wr W → Calls Tryz.prog 53 #[.pointer (some ⟨b, 0, none⟩), .int .u8 ((hxd d).toNat : Int)] W fun e w' => e = .returned .nilIface ∧ (Wt B b (o ++ [hxd d]) w' ∧ Fr B b w w')) := fun W hb => by
                refine (wByte (hxd d) W (HW5.out.later hb) (by omega) (by have := hb.size; omega)).mono ?_
                rintro e w' ⟨q1, q2, q3⟩
                exact ⟨q1, q2, HF5.out.trans ((Fr.of hb (by omega)).trans q3)⟩
              clear HW5 HF5
              go_wp2
              go_region_with (go_at_call 53; refine (HWB.out _ (by first | exact Below.refl _ _ | exact Below.drew (Below.refl _ _) | exact below_drewN (Below.refl _ _) _)).mono ?_; rintro e w5 ⟨rfl, hW6, hF6⟩)
              all_goals
                have HW6 : Hid (Wt B b (o ++ [hxd d]) w5) := hW6
                have HF6 : Hid (Fr B b w w5) := hF6
                have hs6 : w.heap.size ≤ w5.heap.size := hF6.1.size
                clear hW6 hF6 HWB
                go_wp2
                go_roundw
                case rel => exact ⟨1, o ++ [hxd d], by decide, by decide, rfl, by rw [List.length_append]; simp; omega, HW6.out, HF6.out, hs6, HEE.out⟩
                case measure => simp [intOf]
            · have HEE : Hid ((o ++ [hxd (n / 4096 % 16)]) ++ hexL 3 n = out ++ V) := by have := HE.out; rw [show ((3 : Int) + 1).toNat = 3 + 1 from rfl, hexL] at this; rw [List.append_assoc]; exact this
              obtain ⟨d, hd⟩ : ∃ d, d = n / 4096 % 16 := ⟨_, rfl⟩
              have hd16 : d < 16 := by omega
              have hdi : (n : Int) / 4096 % 16 = (d : Int) := by omega
              have hand : bits .and .i64 ((n : Int) / 4096) 15 = (d : Int) := by rw [← hdi]; exact and15 _ (by omega) (by omega)
              have hwr : IntKind.i64.wrap 12 = 12 := by decide
              rw [← hd] at HEE
              have HD : Hid (d = n / 4096 % 16) := hd
              clear hd HE
              have hdx : ∀ h, (⟨#[48, 49, 50, 51, 52, 53, 54, 55, 56, 57, 97, 98, 99, 100, 101, 102]⟩ : ByteArray)[d]'h = hxd d := fun h => digs ⟨d, hd16⟩ h
              have HWB : Hid (∀ W, Below wr.heap.size wr W → Calls Tryz.prog 53 #[.pointer (some ⟨b, 0, none⟩), .int .u8 ((hxd d).toNat : Int)] W fun e w' => e = .returned .nilIface ∧ (Wt B b (o ++ [hxd d]) w' ∧ Fr B b w w')) := fun W hb => by
                refine (wByte (hxd d) W (HW5.out.later hb) (by omega) (by have := hb.size; omega)).mono ?_
                rintro e w' ⟨q1, q2, q3⟩
                exact ⟨q1, q2, HF5.out.trans ((Fr.of hb (by omega)).trans q3)⟩
              clear HW5 HF5
              go_wp2
              go_region_with (go_at_call 53; refine (HWB.out _ (by first | exact Below.refl _ _ | exact Below.drew (Below.refl _ _) | exact below_drewN (Below.refl _ _) _)).mono ?_; rintro e w5 ⟨rfl, hW6, hF6⟩)
              all_goals
                have HW6 : Hid (Wt B b (o ++ [hxd d]) w5) := hW6
                have HF6 : Hid (Fr B b w w5) := hF6
                have hs6 : w.heap.size ≤ w5.heap.size := hF6.1.size
                clear hW6 hF6 HWB
                go_wp2
                go_roundw
                case rel => exact ⟨2, o ++ [hxd d], by decide, by decide, rfl, by rw [List.length_append]; simp; omega, HW6.out, HF6.out, hs6, HEE.out⟩
                case measure => simp [intOf]
      · have n2 := n2
        have hq : ((n : Int) / 65536 != 0) = true := by simp; omega
        have hw1 : Below wr.heap.size wr (wr.alloc (.cells #[.int .u8 117, .int .i64 4] 134)) := below_alloc _ _
        have HW2 : Hid (Wt B b out (wr.alloc (.cells #[.int .u8 117, .int .i64 4] 134))) := HW1.out.later hw1
        have HF2 : Hid (Fr B b w (wr.alloc (.cells #[.int .u8 117, .int .i64 4] 134))) := HF1.out.trans (Fr.of hw1 (by omega))
        clear hw1 HW1 HF1 n2
        go_wp2
        go_roundw
        case rel => exact ⟨2, by decide, by decide, rfl, fun _ => by omega, fun _ => by omega, HW2.out, HF2.out, by rw [World.size_alloc]; omega⟩
        case measure => simp [intOf]
    · have n1 := n1 (by decide)
      have n2 := n2 (by decide)
      have hq : ((n : Int) / 4294967296 != 0) = false := by simp; omega
      have HVV : Hid (V = 92 :: 85 :: hexL 8 n) := by rw [HV.out, if_neg (by omega), if_neg (by omega)]; exact rfl
      have hw1 : Below wr.heap.size wr (wr.alloc (.cells #[.int .u8 85, .int .i64 8] 134)) := below_alloc _ _
      have HW2 : Hid (Wt B b out (wr.alloc (.cells #[.int .u8 85, .int .i64 8] 134))) := HW1.out.later hw1
      have hX1 : (wr.alloc (.cells #[.int .u8 85, .int .i64 8] 134)).heap[wr.heap.size]? = some (.cells #[.int .u8 85, .int .i64 8] 134 (0, 0)) := heap_alloc_new wr _
      have HF2 : Hid (Fr B b w (wr.alloc (.cells #[.int .u8 85, .int .i64 8] 134))) := HF1.out.trans (Fr.of hw1 (by omega))
      have HX1 : Hid ((wr.alloc (.cells #[.int .u8 85, .int .i64 8] 134)).heap[wr.heap.size]? = some (.cells #[.int .u8 85, .int .i64 8] 134 (0, 0))) := hX1
      have hsa : (wr.alloc (.cells #[.int .u8 85, .int .i64 8] 134)).heap.size = wr.heap.size + 1 := World.size_alloc _ _
      obtain ⟨X, HXX⟩ : ∃ X, Hid (X = wr.heap.size) := ⟨_, rfl⟩
      have hXb : b < X := by rw [HXX.out]; exact HW1.out.lt
      clear hw1 hX1 HW1 HF1
      go_wp2_with fail
      refine (wByte 92 _ HW2.out (by omega) (by omega)).mono ?_
      rintro e w2 ⟨rfl, hW2, hF2⟩
      rw [← HXX.out]
      rw [← HXX.out] at HX1
      have hX2 := hF2.keep HX1.out (by omega) (fun c fz e => by cases e)
      have HW3 : Hid (Wt B b (out ++ [92]) w2) := hW2
      have HF3 : Hid (Fr B b w w2) := HF2.out.trans hF2
      have HX3 : Hid (w2.heap[X]? = some (.cells #[.int .u8 85, .int .i64 8] 134 (0, 0))) := hX2
      have c0 : w2.cell? ⟨X, 0, none⟩ = some (.int .u8 85) := by rw [Lib.cell_of_heap hX2]; rfl
      have hs2 : w.heap.size ≤ w2.heap.size := by have := hF2.1.size; omega
      have hwb : ∀ W, Below w2.heap.size w2 W → Calls Tryz.prog 53 #[.pointer (some ⟨b, 0, none⟩), .int .u8 85] W fun e w' => e = .returned .nilIface ∧ (Wt B b (out ++ [92, 85]) w' ∧ Fr B b w w' ∧ w'.heap[X]? = some (.cells #[.int .u8 85, .int .i64 8] 134 (0, 0))) := fun W hb => by
        refine (wByte 85 W (HW3.out.later hb) (by simp; omega) (by have := hb.size; omega)).mono ?_
        rintro e w' ⟨q1, q2, q3⟩
        have q4 : Fr B b w2 w' := (Fr.of hb (by omega)).trans q3
        rw [List.append_assoc] at q2
        exact ⟨q1, q2, HF3.out.trans q4, q4.keep HX3.out (by omega) (fun c fz e => by cases e)⟩
      have HWB : Hid (∀ W, Below w2.heap.size w2 W → Calls Tryz.prog 53 #[.pointer (some ⟨b, 0, none⟩), .int .u8 85] W fun e w' => e = .returned .nilIface ∧ (Wt B b (out ++ [92, 85]) w' ∧ Fr B b w w' ∧ w'.heap[X]? = some (.cells #[.int .u8 85, .int .i64 8] 134 (0, 0)))) := hwb
      clear hwb hW2 hF2 hX2 HW2 HF2 HX1 HXX hsa
      go_wp2
      go_region_with (go_at_call 53; refine (HWB.out _ (by first | exact Below.refl _ _ | exact Below.drew (Below.refl _ _) | exact below_drewN (Below.refl _ _) _)).mono ?_; rintro e w3 ⟨rfl, hW3, hF3, hX3⟩)
      all_goals
        have HW4 : Hid (Wt B b (out ++ [92, 85]) w3) := hW3
        have HF4 : Hid (Fr B b w w3) := hF3
        have c1 : w3.cell? ⟨X, 1, none⟩ = some (.int .i64 8) := by rw [Lib.cell_of_heap hX3]; rfl
        have hs3 : w.heap.size ≤ w3.heap.size := hF3.1.size
        clear hW3 hF3 hX3 HWB HW3 HF3 HX3 c0 hs2
        go_wp2
        go_loopw [6] (fun i wr => ∃ (q : Int) (o : List UInt8), -1 ≤ q ∧ q ≤ 7 ∧ i = .int .i64 q ∧ (o.length : Int) + q + 1 = out.length + 10 ∧ Wt B b o wr ∧ Fr B b w wr ∧ w.heap.size ≤ wr.heap.size ∧ o ++ hexL (q + 1).toNat n = out ++ V) (fun i _ => (intOf i + 1).toNat)
        case atStart => exact ⟨7, out ++ [92, 85], by decide, by decide, rfl, by simp; omega, HW4.out, HF4.out, hs3, by rw [HVV.out, show (((7 : Int)) + 1).toNat = 8 from rfl]; simp⟩
        case round =>
          obtain ⟨q, o, hq0, hq1, rfl, hol, hW5, hF5, hs5, he⟩ := hrel
          have HW5 : Hid (Wt B b o wr) := hW5
          have HF5 : Hid (Fr B b w wr) := hF5
          have HE : Hid (o ++ hexL (q + 1).toNat n = out ++ V) := he
          clear hW5 hF5 he HW4 HF4
          rcases (show q = -1 ∨ q = 0 ∨ q = 1 ∨ q = 2 ∨ q = 3 ∨ q = 4 ∨ q = 5 ∨ q = 6 ∨ q = 7 by omega) with rfl | rfl | rfl | rfl | rfl | rfl | rfl | rfl | rfl
          · have HEE : Hid (o = out ++ V) := by have := HE.out; rw [show ((-1 : Int) + 1).toNat = 0 from rfl, hexL, List.append_nil] at this; exact this
            go_wp2
            refine bodyPost_ret (v := .tuple #[]) (by simp [results, Tryz.results83, go_sem]) rfl ⟨rfl, ?_, HF5.out⟩
            rw [← HEE.out]; exact HW5.out
          · have HEE : Hid ((o ++ [hxd (n / 1 % 16)]) ++ hexL 0 n = out ++ V) := by have := HE.out; rw [show ((0 : Int) + 1).toNat = 0 + 1 from rfl, hexL] at this; rw [List.append_assoc]; exact this
            obtain ⟨d, hd⟩ : ∃ d, d = n / 1 % 16 := ⟨_, rfl⟩
            have hd16 : d < 16 := by omega
            have hdi : (n : Int) % 16 = (d : Int) := by omega
            have hand : bits .and .i64 ((n : Int)) 15 = (d : Int) := by rw [← hdi]; exact and15 _ (by omega) (by omega)
            have hwr : IntKind.i64.wrap 0 = 0 := by decide
            rw [← hd] at HEE
            have HD : Hid (d = n / 1 % 16) := hd
            clear hd HE
            have hdx : ∀ h, (⟨#[48, 49, 50, 51, 52, 53, 54, 55, 56, 57, 97, 98, 99, 100, 101, 102]⟩ : ByteArray)[d]'h = hxd d := fun h => digs ⟨d, hd16⟩ h
            have HWB : Hid (∀ W, Below wr.heap.size wr W → Calls Tryz.prog 53 #[.pointer (some ⟨b, 0, none⟩), .int .u8 ((hxd d).toNat : Int)] W fun e w' => e = .returned .nilIface ∧ (Wt B b (o ++ [hxd d]) w' ∧ Fr B b w w')) := fun W hb => by
              refine (wByte (hxd d) W (HW5.out.later hb) (by omega) (by have := hb.size; omega)).mono ?_
              rintro e w' ⟨q1, q2, q3⟩
              exact ⟨q1, q2, HF5.out.trans ((Fr.of hb (by omega)).trans q3)⟩
            clear HW5 HF5
            go_wp2
            go_region_with (go_at_call 53; refine (HWB.out _ (by first | exact Below.refl _ _ | exact Below.drew (Below.refl _ _) | exact below_drewN (Below.refl _ _) _)).mono ?_; rintro e w5 ⟨rfl, hW6, hF6⟩)
            all_goals
              have HW6 : Hid (Wt B b (o ++ [hxd d]) w5) := hW6
              have HF6 : Hid (Fr B b w w5) := hF6
              have hs6 : w.heap.size ≤ w5.heap.size := hF6.1.size
              clear hW6 hF6 HWB
              go_wp2
              go_roundw
              case rel => exact ⟨-1, o ++ [hxd d], by decide, by decide, rfl, by rw [List.length_append]; simp; omega, HW6.out, HF6.out, hs6, HEE.out⟩
              case measure => simp [intOf]
          · have HEE : Hid ((o ++ [hxd (n / 16 % 16)]) ++ hexL 1 n = out ++ V) := by have := HE.out; rw [show ((1 : Int) + 1).toNat = 1 + 1 from rfl, hexL] at this; rw [List.append_assoc]; exact this
            obtain ⟨d, hd⟩ : ∃ d, d = n / 16 % 16 := ⟨_, rfl⟩
            have hd16 : d < 16 := by omega
            have hdi : (n : Int) / 16 % 16 = (d : Int) := by omega
            have hand : bits .and .i64 ((n : Int) / 16) 15 = (d : Int) := by rw [← hdi]; exact and15 _ (by omega) (by omega)
            have hwr : IntKind.i64.wrap 4 = 4 := by decide
            rw [← hd] at HEE
            have HD : Hid (d = n / 16 % 16) := hd
            clear hd HE
            have hdx : ∀ h, (⟨#[48, 49, 50, 51, 52, 53, 54, 55, 56, 57, 97, 98, 99, 100, 101, 102]⟩ : ByteArray)[d]'h = hxd d := fun h => digs ⟨d, hd16⟩ h
            have HWB : Hid (∀ W, Below wr.heap.size wr W → Calls Tryz.prog 53 #[.pointer (some ⟨b, 0, none⟩), .int .u8 ((hxd d).toNat : Int)] W fun e w' => e = .returned .nilIface ∧ (Wt B b (o ++ [hxd d]) w' ∧ Fr B b w w')) := fun W hb => by
              refine (wByte (hxd d) W (HW5.out.later hb) (by omega) (by have := hb.size; omega)).mono ?_
              rintro e w' ⟨q1, q2, q3⟩
              exact ⟨q1, q2, HF5.out.trans ((Fr.of hb (by omega)).trans q3)⟩
            clear HW5 HF5
            go_wp2
            go_region_with (go_at_call 53; refine (HWB.out _ (by first | exact Below.refl _ _ | exact Below.drew (Below.refl _ _) | exact below_drewN (Below.refl _ _) _)).mono ?_; rintro e w5 ⟨rfl, hW6, hF6⟩)
            all_goals
              have HW6 : Hid (Wt B b (o ++ [hxd d]) w5) := hW6
              have HF6 : Hid (Fr B b w w5) := hF6
              have hs6 : w.heap.size ≤ w5.heap.size := hF6.1.size
              clear hW6 hF6 HWB
              go_wp2
              go_roundw
              case rel => exact ⟨0, o ++ [hxd d], by decide, by decide, rfl, by rw [List.length_append]; simp; omega, HW6.out, HF6.out, hs6, HEE.out⟩
              case measure => simp [intOf]
          · have HEE : Hid ((o ++ [hxd (n / 256 % 16)]) ++ hexL 2 n = out ++ V) := by have := HE.out; rw [show ((2 : Int) + 1).toNat = 2 + 1 from rfl, hexL] at this; rw [List.append_assoc]; exact this
            obtain ⟨d, hd⟩ : ∃ d, d = n / 256 % 16 := ⟨_, rfl⟩
            have hd16 : d < 16 := by omega
            have hdi : (n : Int) / 256 % 16 = (d : Int) := by omega
            have hand : bits .and .i64 ((n : Int) / 256) 15 = (d : Int) := by rw [← hdi]; exact and15 _ (by omega) (by omega)
            have hwr : IntKind.i64.wrap 8 = 8 := by decide
            rw [← hd] at HEE
            have HD : Hid (d = n / 256 % 16) := hd
            clear hd HE
            have hdx : ∀ h, (⟨#[48, 49, 50, 51, 52, 53, 54, 55, 56, 57, 97, 98, 99, 100, 101, 102]⟩ : ByteArray)[d]'h = hxd d := fun h => digs ⟨d, hd16⟩ h
            have HWB : Hid (∀ W, Below wr.heap.size wr W → Calls Tryz.prog 53 #[.pointer (some ⟨b, 0, none⟩), .int .u8 ((hxd d).toNat : Int)] W fun e w' => e = .returned .nilIface ∧ (Wt B b (o ++ [hxd d]) w' ∧ Fr B b w w')) := fun W hb => by
              refine (wByte (hxd d) W (HW5.out.later hb) (by omega) (by have := hb.size; omega)).mono ?_
              rintro e w' ⟨q1, q2, q3⟩
              exact ⟨q1, q2, HF5.out.trans ((Fr.of hb (by omega)).trans q3)⟩
            clear HW5 HF5
            go_wp2
            go_region_with (go_at_call 53; refine (HWB.out _ (by first | exact Below.refl _ _ | exact Below.drew (Below.refl _ _) | exact below_drewN (Below.refl _ _) _)).mono ?_; rintro e w5 ⟨rfl, hW6, hF6⟩)
            all_goals
              have HW6 : Hid (Wt B b (o ++ [hxd d]) w5) := hW6
              have HF6 : Hid (Fr B b w w5) := hF6
              have hs6 : w.heap.size ≤ w5.heap.size := hF6.1.size
              clear hW6 hF6 HWB
              go_wp2
              go_roundw
              case rel => exact ⟨1, o ++ [hxd d], by decide, by decide, rfl, by rw [List.length_append]; simp; omega, HW6.out, HF6.out, hs6, HEE.out⟩
              case measure => simp [intOf]
          · have HEE : Hid ((o ++ [hxd (n / 4096 % 16)]) ++ hexL 3 n = out ++ V) := by have := HE.out; rw [show ((3 : Int) + 1).toNat = 3 + 1 from rfl, hexL] at this; rw [List.append_assoc]; exact this
            obtain ⟨d, hd⟩ : ∃ d, d = n / 4096 % 16 := ⟨_, rfl⟩
            have hd16 : d < 16 := by omega
            have hdi : (n : Int) / 4096 % 16 = (d : Int) := by omega
            have hand : bits .and .i64 ((n : Int) / 4096) 15 = (d : Int) := by rw [← hdi]; exact and15 _ (by omega) (by omega)
            have hwr : IntKind.i64.wrap 12 = 12 := by decide
            rw [← hd] at HEE
            have HD : Hid (d = n / 4096 % 16) := hd
            clear hd HE
            have hdx : ∀ h, (⟨#[48, 49, 50, 51, 52, 53, 54, 55, 56, 57, 97, 98, 99, 100, 101, 102]⟩ : ByteArray)[d]'h = hxd d := fun h => digs ⟨d, hd16⟩ h
            have HWB : Hid (∀ W, Below wr.heap.size wr W → Calls Tryz.prog 53 #[.pointer (some ⟨b, 0, none⟩), .int .u8 ((hxd d).toNat : Int)] W fun e w' => e = .returned .nilIface ∧ (Wt B b (o ++ [hxd d]) w' ∧ Fr B b w w')) := fun W hb => by
              refine (wByte (hxd d) W (HW5.out.later hb) (by omega) (by have := hb.size; omega)).mono ?_
              rintro e w' ⟨q1, q2, q3⟩
              exact ⟨q1, q2, HF5.out.trans ((Fr.of hb (by omega)).trans q3)⟩
            clear HW5 HF5
            go_wp2
            go_region_with (go_at_call 53; refine (HWB.out _ (by first | exact Below.refl _ _ | exact Below.drew (Below.refl _ _) | exact below_drewN (Below.refl _ _) _)).mono ?_; rintro e w5 ⟨rfl, hW6, hF6⟩)
            all_goals
              have HW6 : Hid (Wt B b (o ++ [hxd d]) w5) := hW6
              have HF6 : Hid (Fr B b w w5) := hF6
              have hs6 : w.heap.size ≤ w5.heap.size := hF6.1.size
              clear hW6 hF6 HWB
              go_wp2
              go_roundw
              case rel => exact ⟨2, o ++ [hxd d], by decide, by decide, rfl, by rw [List.length_append]; simp; omega, HW6.out, HF6.out, hs6, HEE.out⟩
              case measure => simp [intOf]
          · have HEE : Hid ((o ++ [hxd (n / 65536 % 16)]) ++ hexL 4 n = out ++ V) := by have := HE.out; rw [show ((4 : Int) + 1).toNat = 4 + 1 from rfl, hexL] at this; rw [List.append_assoc]; exact this
            obtain ⟨d, hd⟩ : ∃ d, d = n / 65536 % 16 := ⟨_, rfl⟩
            have hd16 : d < 16 := by omega
            have hdi : (n : Int) / 65536 % 16 = (d : Int) := by omega
            have hand : bits .and .i64 ((n : Int) / 65536) 15 = (d : Int) := by rw [← hdi]; exact and15 _ (by omega) (by omega)
            have hwr : IntKind.i64.wrap 16 = 16 := by decide
            rw [← hd] at HEE
            have HD : Hid (d = n / 65536 % 16) := hd
            clear hd HE
            have hdx : ∀ h, (⟨#[48, 49, 50, 51, 52, 53, 54, 55, 56, 57, 97, 98, 99, 100, 101, 102]⟩ : ByteArray)[d]'h = hxd d := fun h => digs ⟨d, hd16⟩ h
            have HWB : Hid (∀ W, Below wr.heap.size wr W → Calls Tryz.prog 53 #[.pointer (some ⟨b, 0, none⟩), .int .u8 ((hxd d).toNat : Int)] W fun e w' => e = .returned .nilIface ∧ (Wt B b (o ++ [hxd d]) w' ∧ Fr B b w w')) := fun W hb => by
              refine (wByte (hxd d) W (HW5.out.later hb) (by omega) (by have := hb.size; omega)).mono ?_
              rintro e w' ⟨q1, q2, q3⟩
              exact ⟨q1, q2, HF5.out.trans ((Fr.of hb (by omega)).trans q3)⟩
            clear HW5 HF5
            go_wp2
            go_region_with (go_at_call 53; refine (HWB.out _ (by first | exact Below.refl _ _ | exact Below.drew (Below.refl _ _) | exact below_drewN (Below.refl _ _) _)).mono ?_; rintro e w5 ⟨rfl, hW6, hF6⟩)
            all_goals
              have HW6 : Hid (Wt B b (o ++ [hxd d]) w5) := hW6
              have HF6 : Hid (Fr B b w w5) := hF6
              have hs6 : w.heap.size ≤ w5.heap.size := hF6.1.size
              clear hW6 hF6 HWB
              go_wp2
              go_roundw
              case rel => exact ⟨3, o ++ [hxd d], by decide, by decide, rfl, by rw [List.length_append]; simp; omega, HW6.out, HF6.out, hs6, HEE.out⟩
              case measure => simp [intOf]
          · have HEE : Hid ((o ++ [hxd (n / 1048576 % 16)]) ++ hexL 5 n = out ++ V) := by have := HE.out; rw [show ((5 : Int) + 1).toNat = 5 + 1 from rfl, hexL] at this; rw [List.append_assoc]; exact this
            obtain ⟨d, hd⟩ : ∃ d, d = n / 1048576 % 16 := ⟨_, rfl⟩
            have hd16 : d < 16 := by omega
            have hdi : (n : Int) / 1048576 % 16 = (d : Int) := by omega
            have hand : bits .and .i64 ((n : Int) / 1048576) 15 = (d : Int) := by rw [← hdi]; exact and15 _ (by omega) (by omega)
            have hwr : IntKind.i64.wrap 20 = 20 := by decide
            rw [← hd] at HEE
            have HD : Hid (d = n / 1048576 % 16) := hd
            clear hd HE
            have hdx : ∀ h, (⟨#[48, 49, 50, 51, 52, 53, 54, 55, 56, 57, 97, 98, 99, 100, 101, 102]⟩ : ByteArray)[d]'h = hxd d := fun h => digs ⟨d, hd16⟩ h
            have HWB : Hid (∀ W, Below wr.heap.size wr W → Calls Tryz.prog 53 #[.pointer (some ⟨b, 0, none⟩), .int .u8 ((hxd d).toNat : Int)] W fun e w' => e = .returned .nilIface ∧ (Wt B b (o ++ [hxd d]) w' ∧ Fr B b w w')) := fun W hb => by
              refine (wByte (hxd d) W (HW5.out.later hb) (by omega) (by have := hb.size; omega)).mono ?_
              rintro e w' ⟨q1, q2, q3⟩
              exact ⟨q1, q2, HF5.out.trans ((Fr.of hb (by omega)).trans q3)⟩
            clear HW5 HF5
            go_wp2
            go_region_with (go_at_call 53; refine (HWB.out _ (by first | exact Below.refl _ _ | exact Below.drew (Below.refl _ _) | exact below_drewN (Below.refl _ _) _)).mono ?_; rintro e w5 ⟨rfl, hW6, hF6⟩)
            all_goals
              have HW6 : Hid (Wt B b (o ++ [hxd d]) w5) := hW6
              have HF6 : Hid (Fr B b w w5) := hF6
              have hs6 : w.heap.size ≤ w5.heap.size := hF6.1.size
              clear hW6 hF6 HWB
              go_wp2
              go_roundw
              case rel => exact ⟨4, o ++ [hxd d], by decide, by decide, rfl, by rw [List.length_append]; simp; omega, HW6.out, HF6.out, hs6, HEE.out⟩
              case measure => simp [intOf]
          · have HEE : Hid ((o ++ [hxd (n / 16777216 % 16)]) ++ hexL 6 n = out ++ V) := by have := HE.out; rw [show ((6 : Int) + 1).toNat = 6 + 1 from rfl, hexL] at this; rw [List.append_assoc]; exact this
            obtain ⟨d, hd⟩ : ∃ d, d = n / 16777216 % 16 := ⟨_, rfl⟩
            have hd16 : d < 16 := by omega
            have hdi : (n : Int) / 16777216 % 16 = (d : Int) := by omega
            have hand : bits .and .i64 ((n : Int) / 16777216) 15 = (d : Int) := by rw [← hdi]; exact and15 _ (by omega) (by omega)
            have hwr : IntKind.i64.wrap 24 = 24 := by decide
            rw [← hd] at HEE
            have HD : Hid (d = n / 16777216 % 16) := hd
            clear hd HE
            have hdx : ∀ h, (⟨#[48, 49, 50, 51, 52, 53, 54, 55, 56, 57, 97, 98, 99, 100, 101, 102]⟩ : ByteArray)[d]'h = hxd d := fun h => digs ⟨d, hd16⟩ h
            have HWB : Hid (∀ W, Below wr.heap.size wr W → Calls Tryz.prog 53 #[.pointer (some ⟨b, 0, none⟩), .int .u8 ((hxd d).toNat : Int)] W fun e w' => e = .returned .nilIface ∧ (Wt B b (o ++ [hxd d]) w' ∧ Fr B b w w')) := fun W hb => by
              refine (wByte (hxd d) W (HW5.out.later hb) (by omega) (by have := hb.size; omega)).mono ?_
              rintro e w' ⟨q1, q2, q3⟩
              exact ⟨q1, q2, HF5.out.trans ((Fr.of hb (by omega)).trans q3)⟩
            clear HW5 HF5
            go_wp2
            go_region_with (go_at_call 53; refine (HWB.out _ (by first | exact Below.refl _ _ | exact Below.drew (Below.refl _ _) | exact below_drewN (Below.refl _ _) _)).mono ?_; rintro e w5 ⟨rfl, hW6, hF6⟩)
            all_goals
              have HW6 : Hid (Wt B b (o ++ [hxd d]) w5) := hW6
              have HF6 : Hid (Fr B b w w5) := hF6
              have hs6 : w.heap.size ≤ w5.heap.size := hF6.1.size
              clear hW6 hF6 HWB
              go_wp2
              go_roundw
              case rel => exact ⟨5, o ++ [hxd d], by decide, by decide, rfl, by rw [List.length_append]; simp; omega, HW6.out, HF6.out, hs6, HEE.out⟩
              case measure => simp [intOf]
          · have HEE : Hid ((o ++ [hxd (n / 268435456 % 16)]) ++ hexL 7 n = out ++ V) := by have := HE.out; rw [show ((7 : Int) + 1).toNat = 7 + 1 from rfl, hexL] at this; rw [List.append_assoc]; exact this
            obtain ⟨d, hd⟩ : ∃ d, d = n / 268435456 % 16 := ⟨_, rfl⟩
            have hd16 : d < 16 := by omega
            have hdi : (n : Int) / 268435456 % 16 = (d : Int) := by omega
            have hand : bits .and .i64 ((n : Int) / 268435456) 15 = (d : Int) := by rw [← hdi]; exact and15 _ (by omega) (by omega)
            have hwr : IntKind.i64.wrap 28 = 28 := by decide
            rw [← hd] at HEE
            have HD : Hid (d = n / 268435456 % 16) := hd
            clear hd HE
            have hdx : ∀ h, (⟨#[48, 49, 50, 51, 52, 53, 54, 55, 56, 57, 97, 98, 99, 100, 101, 102]⟩ : ByteArray)[d]'h = hxd d := fun h => digs ⟨d, hd16⟩ h
            have HWB : Hid (∀ W, Below wr.heap.size wr W → Calls Tryz.prog 53 #[.pointer (some ⟨b, 0, none⟩), .int .u8 ((hxd d).toNat : Int)] W fun e w' => e = .returned .nilIface ∧ (Wt B b (o ++ [hxd d]) w' ∧ Fr B b w w')) := fun W hb => by
              refine (wByte (hxd d) W (HW5.out.later hb) (by omega) (by have := hb.size; omega)).mono ?_
              rintro e w' ⟨q1, q2, q3⟩
              exact ⟨q1, q2, HF5.out.trans ((Fr.of hb (by omega)).trans q3)⟩
            clear HW5 HF5
            go_wp2
            go_region_with (go_at_call 53; refine (HWB.out _ (by first | exact Below.refl _ _ | exact Below.drew (Below.refl _ _) | exact below_drewN (Below.refl _ _) _)).mono ?_; rintro e w5 ⟨rfl, hW6, hF6⟩)
            all_goals
              have HW6 : Hid (Wt B b (o ++ [hxd d]) w5) := hW6
              have HF6 : Hid (Fr B b w w5) := hF6
              have hs6 : w.heap.size ≤ w5.heap.size := hF6.1.size
              clear hW6 hF6 HWB
              go_wp2
              go_roundw
              case rel => exact ⟨6, o ++ [hxd d], by decide, by decide, rfl, by rw [List.length_append]; simp; omega, HW6.out, HF6.out, hs6, HEE.out⟩
              case measure => simp [intOf]

end Go.Proofs.YteokhnielbmifaaGreatDoor.Quo
end

section
/- (*quote.writer).put, by its contract. -/
namespace Go.Proofs.YteokhnielbmifaaGreatDoor.Quo
open Utf Rws
open Go.RowKit
set_option linter.unusedSimpArgs false
set_option linter.unusedVariables false
set_option maxRecDepth 100000

variable {B b : Nat} {out : List UInt8} {w w1 w2 : World}
/-- behind the writing of an escape's first byte, and its second -/
theorem two_bytes {X : Nat} {cs : Array Value} {t : TypeId} (ht : t ≠ 5) (c : UInt8) (w2 W : World) (hW : Wt B b (out ++ [92]) w2) (hF : Fr B b w w2) (hX : w2.heap[X]? = some (.cells cs t (0, 0))) (hXb : b < X) (hb : Below w2.heap.size w2 W) (ho : out.length + 20 ≤ 140737488355328) (hB : B ≤ w2.heap.size) :
    Calls Tryz.prog 53 #[.pointer (some ⟨b, 0, none⟩), .int .u8 (c.toNat : Int)] W fun e w' => e = .returned .nilIface ∧ (Wt B b (out ++ [92, c]) w' ∧ Fr B b w w') := by
  refine (wByte c W (hW.later hb) (by simp; omega) (by have := hb.size; omega)).mono ?_
  rintro e w' ⟨q1, q2, q3⟩
  rw [List.append_assoc] at q2
  exact ⟨q1, q2, hF.trans ((Fr.of hb hB).trans q3)⟩

set_option maxHeartbeats 8000000 in
theorem put_any (n : Int) (w : World) (h : Wt B b out w) (hsg : sgn n = true) (ho : out.length + 20 ≤ 140737488355328) (hBw : B ≤ w.heap.size) (hT : Tabs w) (hB2 : 2 ≤ B) :
    Calls Tryz.prog 54 #[.pointer (some ⟨b, 0, none⟩), .int .i64 n] w fun e w' => e = .returned (.tuple #[]) ∧ Wt B b (out ++ esc n) w' ∧ Fr B b w w' := by
  have hlt := h.lt
  have hB := h.base
  have hbd := sgn_bd hsg
  have HSG : Hid (sgn n = true) := hsg
  have HT : Hid (∀ W, Fr B b w W → Tabs W) := fun W hF => hT.under hF.1 hB2
  obtain ⟨t0, fz, hT⟩ := hT.sh
  have g0 : w.cell? ⟨0, 0, none⟩ = some (.int .u8 34) := by rw [Lib.cell_of_heap hT]; rfl
  have g1 : w.cell? ⟨0, 1, none⟩ = some (.int .i64 34) := by rw [Lib.cell_of_heap hT]; rfl
  have g2 : w.cell? ⟨0, 2, none⟩ = some (.int .u8 92) := by rw [Lib.cell_of_heap hT]; rfl
  have g3 : w.cell? ⟨0, 3, none⟩ = some (.int .i64 92) := by rw [Lib.cell_of_heap hT]; rfl
  have g4 : w.cell? ⟨0, 4, none⟩ = some (.int .u8 110) := by rw [Lib.cell_of_heap hT]; rfl
  have g5 : w.cell? ⟨0, 5, none⟩ = some (.int .i64 10) := by rw [Lib.cell_of_heap hT]; rfl
  have g6 : w.cell? ⟨0, 6, none⟩ = some (.int .u8 116) := by rw [Lib.cell_of_heap hT]; rfl
  have g7 : w.cell? ⟨0, 7, none⟩ = some (.int .i64 9) := by rw [Lib.cell_of_heap hT]; rfl
  have g8 : w.cell? ⟨0, 8, none⟩ = some (.int .u8 114) := by rw [Lib.cell_of_heap hT]; rfl
  have g9 : w.cell? ⟨0, 9, none⟩ = some (.int .i64 13) := by rw [Lib.cell_of_heap hT]; rfl
  have g10 : w.cell? ⟨0, 10, none⟩ = some (.int .u8 48) := by rw [Lib.cell_of_heap hT]; rfl
  have g11 : w.cell? ⟨0, 11, none⟩ = some (.int .i64 0) := by rw [Lib.cell_of_heap hT]; rfl
  have x0 : ∀ w : World, (Instr.index 108 (.agg #[.int .u8 34, .int .i64 34, .int .u8 92, .int .i64 92, .int .u8 110, .int .i64 10, .int .u8 116, .int .i64 9, .int .u8 114, .int .i64 13, .int .u8 48, .int .i64 0]) (.int .i64 0)).run Tryz.prog w = .ok (.agg #[.int .u8 34, .int .i64 34]) w := fun _ => by kernel_rfl
  have x1 : ∀ w : World, (Instr.index 108 (.agg #[.int .u8 34, .int .i64 34, .int .u8 92, .int .i64 92, .int .u8 110, .int .i64 10, .int .u8 116, .int .i64 9, .int .u8 114, .int .i64 13, .int .u8 48, .int .i64 0]) (.int .i64 1)).run Tryz.prog w = .ok (.agg #[.int .u8 92, .int .i64 92]) w := fun _ => by kernel_rfl
  have x2 : ∀ w : World, (Instr.index 108 (.agg #[.int .u8 34, .int .i64 34, .int .u8 92, .int .i64 92, .int .u8 110, .int .i64 10, .int .u8 116, .int .i64 9, .int .u8 114, .int .i64 13, .int .u8 48, .int .i64 0]) (.int .i64 2)).run Tryz.prog w = .ok (.agg #[.int .u8 110, .int .i64 10]) w := fun _ => by kernel_rfl
  have x3 : ∀ w : World, (Instr.index 108 (.agg #[.int .u8 34, .int .i64 34, .int .u8 92, .int .i64 92, .int .u8 110, .int .i64 10, .int .u8 116, .int .i64 9, .int .u8 114, .int .i64 13, .int .u8 48, .int .i64 0]) (.int .i64 3)).run Tryz.prog w = .ok (.agg #[.int .u8 116, .int .i64 9]) w := fun _ => by kernel_rfl
  have x4 : ∀ w : World, (Instr.index 108 (.agg #[.int .u8 34, .int .i64 34, .int .u8 92, .int .i64 92, .int .u8 110, .int .i64 10, .int .u8 116, .int .i64 9, .int .u8 114, .int .i64 13, .int .u8 48, .int .i64 0]) (.int .i64 4)).run Tryz.prog w = .ok (.agg #[.int .u8 114, .int .i64 13]) w := fun _ => by kernel_rfl
  have x5 : ∀ w : World, (Instr.index 108 (.agg #[.int .u8 34, .int .i64 34, .int .u8 92, .int .i64 92, .int .u8 110, .int .i64 10, .int .u8 116, .int .i64 9, .int .u8 114, .int .i64 13, .int .u8 48, .int .i64 0]) (.int .i64 5)).run Tryz.prog w = .ok (.agg #[.int .u8 48, .int .i64 0]) w := fun _ => by kernel_rfl
  obtain ⟨V, HV⟩ : ∃ V, Hid (V = esc n) := ⟨_, rfl⟩
  rw [← HV.out]
  have HW : Hid (Wt B b out w) := h
  obtain ⟨n0, n1', n2'⟩ := hbd
  clear hT h hsg
  go_enter Tryz.func54, Tryz.ntmps54
  go_wp2
  clear g0 g1 g2 g3 g4 g5 g6 g7 g8 g9 g10 g11
  go_loopw [7] (fun i wr => ∃ k : Int, 0 ≤ k ∧ k ≤ 6 ∧ i = .int .i64 k ∧ (0 < k → n ≠ 34) ∧ (1 < k → n ≠ 92) ∧ (2 < k → n ≠ 10) ∧ (3 < k → n ≠ 9) ∧ (4 < k → n ≠ 13) ∧ (5 < k → n ≠ 0) ∧ Wt B b out wr ∧ Fr B b w wr ∧ w.heap.size ≤ wr.heap.size) (fun i _ => 6 - (intOf i).toNat)
  case atStart => exact ⟨0, by decide, by decide, rfl, fun h => absurd h (by decide), fun h => absurd h (by decide), fun h => absurd h (by decide), fun h => absurd h (by decide), fun h => absurd h (by decide), fun h => absurd h (by decide), HW.out, Fr.refl, Nat.le_refl _⟩
  case round =>
    obtain ⟨k, hk0, hk, rfl, m0, m1, m2, m3, m4, m5, hW1, hF1, hs1⟩ := hrel
    have HW1 : Hid (Wt B b out wr) := hW1
    have HF1 : Hid (Fr B b w wr) := hF1
    clear hW1 hF1 HW
    rcases (show k = 0 ∨ k = 1 ∨ k = 2 ∨ k = 3 ∨ k = 4 ∨ k = 5 ∨ k = 6 by omega) with rfl | rfl | rfl | rfl | rfl | rfl | rfl
    · by_cases hc : n = 34
      · have hq : ((34 : Int) == n) = true := by rw [hc]; simp
        have HVV : Hid (V = [92, 34]) := by rw [HV.out, hc]; exact rfl
        have HNC : Hid (n = 34) := hc
        clear hc m0 m1 m2 m3 m4 m5
        have hw1 : Below wr.heap.size wr (wr.alloc (.cells #[.int .u8 34, .int .i64 34] 107)) := below_alloc _ _
        have HW2 : Hid (Wt B b out (wr.alloc (.cells #[.int .u8 34, .int .i64 34] 107))) := HW1.out.later hw1
        have HF2 : Hid (Fr B b w (wr.alloc (.cells #[.int .u8 34, .int .i64 34] 107))) := HF1.out.trans (Fr.of hw1 (by omega))
        have HX1 : Hid ((wr.alloc (.cells #[.int .u8 34, .int .i64 34] 107)).heap[wr.heap.size]? = some (.cells #[.int .u8 34, .int .i64 34] 107 (0, 0))) := heap_alloc_new wr _
        have hsa : (wr.alloc (.cells #[.int .u8 34, .int .i64 34] 107)).heap.size = wr.heap.size + 1 := World.size_alloc _ _
        obtain ⟨X, HXX⟩ : ∃ X, Hid (X = wr.heap.size) := ⟨_, rfl⟩
        have hXb : b < X := by rw [HXX.out]; exact HW1.out.lt
        clear hw1 HW1 HF1
        go_wp2_with fail
        refine (wByte 92 _ HW2.out (by omega) (by omega)).mono ?_
        rintro e w2 ⟨rfl, hW2, hF2⟩
        rw [← HXX.out]
        rw [← HXX.out] at HX1
        have hX2 := hF2.keep HX1.out (by omega) (fun c fz e => by cases e)
        have c0 : w2.cell? ⟨X, 0, none⟩ = some (.int .u8 34) := by rw [Lib.cell_of_heap hX2]; rfl
        have hs2 : w.heap.size ≤ w2.heap.size := by have := hF2.1.size; omega
        have HWB : Hid (∀ W, Below w2.heap.size w2 W → Calls Tryz.prog 53 #[.pointer (some ⟨b, 0, none⟩), .int .u8 34] W fun e w' => e = .returned .nilIface ∧ (Wt B b (out ++ [92, 34]) w' ∧ Fr B b w w')) := fun W hb => two_bytes (X := X) (by decide) 34 w2 W hW2 (HF2.out.trans hF2) hX2 hXb hb ho (by omega)
        clear hW2 hF2 hX2 HW2 HF2 HX1 HXX hsa
        go_wp2
        go_region_with (go_at_call 53; refine (HWB.out _ (by first | exact Below.refl _ _ | exact Below.drew (Below.refl _ _) | exact below_drewN (Below.refl _ _) _)).mono ?_; rintro e w3 ⟨rfl, hW3, hF3⟩)
        all_goals
          go_wp2
          refine bodyPost_ret (v := .tuple #[]) (by simp [results, Tryz.results54, go_sem]) rfl ⟨rfl, ?_, hF3⟩
          rw [HVV.out]; exact hW3
      · have hq : ((34 : Int) == n) = false := by simp; omega
        have HN : Hid (((0 : Int) < 1 → n ≠ 34) ∧ ((1 : Int) < 1 → n ≠ 92) ∧ ((2 : Int) < 1 → n ≠ 10) ∧ ((3 : Int) < 1 → n ≠ 9) ∧ ((4 : Int) < 1 → n ≠ 13) ∧ ((5 : Int) < 1 → n ≠ 0)) := ⟨fun _ => hc, fun h => absurd h (by decide), fun h => absurd h (by decide), fun h => absurd h (by decide), fun h => absurd h (by decide), fun h => absurd h (by decide)⟩
        have hw1 : Below wr.heap.size wr (wr.alloc (.cells #[.int .u8 34, .int .i64 34] 107)) := below_alloc _ _
        have HW2 : Hid (Wt B b out (wr.alloc (.cells #[.int .u8 34, .int .i64 34] 107))) := HW1.out.later hw1
        have HF2 : Hid (Fr B b w (wr.alloc (.cells #[.int .u8 34, .int .i64 34] 107))) := HF1.out.trans (Fr.of hw1 (by omega))
        clear hw1 HW1 HF1 hc m0 m1 m2 m3 m4 m5
        go_wp2
        go_roundw
        case rel => exact ⟨1, by decide, by decide, rfl, HN.out.1, HN.out.2.1, HN.out.2.2.1, HN.out.2.2.2.1, HN.out.2.2.2.2.1, HN.out.2.2.2.2.2, HW2.out, HF2.out, by rw [World.size_alloc]; omega⟩
        case measure => simp [intOf]
    · by_cases hc : n = 92
      · have hq : ((92 : Int) == n) = true := by rw [hc]; simp
        have HVV : Hid (V = [92, 92]) := by rw [HV.out, hc]; exact rfl
        have HNC : Hid (n = 92) := hc
        clear hc m0 m1 m2 m3 m4 m5
        have hw1 : Below wr.heap.size wr (wr.alloc (.cells #[.int .u8 92, .int .i64 92] 107)) := below_alloc _ _
        have HW2 : Hid (Wt B b out (wr.alloc (.cells #[.int .u8 92, .int .i64 92] 107))) := HW1.out.later hw1
        have HF2 : Hid (Fr B b w (wr.alloc (.cells #[.int .u8 92, .int .i64 92] 107))) := HF1.out.trans (Fr.of hw1 (by omega))
        have HX1 : Hid ((wr.alloc (.cells #[.int .u8 92, .int .i64 92] 107)).heap[wr.heap.size]? = some (.cells #[.int .u8 92, .int .i64 92] 107 (0, 0))) := heap_alloc_new wr _
        have hsa : (wr.alloc (.cells #[.int .u8 92, .int .i64 92] 107)).heap.size = wr.heap.size + 1 := World.size_alloc _ _
        obtain ⟨X, HXX⟩ : ∃ X, Hid (X = wr.heap.size) := ⟨_, rfl⟩
        have hXb : b < X := by rw [HXX.out]; exact HW1.out.lt
        clear hw1 HW1 HF1
        go_wp2_with fail
        refine (wByte 92 _ HW2.out (by omega) (by omega)).mono ?_
        rintro e w2 ⟨rfl, hW2, hF2⟩
        rw [← HXX.out]
        rw [← HXX.out] at HX1
        have hX2 := hF2.keep HX1.out (by omega) (fun c fz e => by cases e)
        have c0 : w2.cell? ⟨X, 0, none⟩ = some (.int .u8 92) := by rw [Lib.cell_of_heap hX2]; rfl
        have hs2 : w.heap.size ≤ w2.heap.size := by have := hF2.1.size; omega
        have HWB : Hid (∀ W, Below w2.heap.size w2 W → Calls Tryz.prog 53 #[.pointer (some ⟨b, 0, none⟩), .int .u8 92] W fun e w' => e = .returned .nilIface ∧ (Wt B b (out ++ [92, 92]) w' ∧ Fr B b w w')) := fun W hb => two_bytes (X := X) (by decide) 92 w2 W hW2 (HF2.out.trans hF2) hX2 hXb hb ho (by omega)
        clear hW2 hF2 hX2 HW2 HF2 HX1 HXX hsa
        go_wp2
        go_region_with (go_at_call 53; refine (HWB.out _ (by first | exact Below.refl _ _ | exact Below.drew (Below.refl _ _) | exact below_drewN (Below.refl _ _) _)).mono ?_; rintro e w3 ⟨rfl, hW3, hF3⟩)
        all_goals
          go_wp2
          refine bodyPost_ret (v := .tuple #[]) (by simp [results, Tryz.results54, go_sem]) rfl ⟨rfl, ?_, hF3⟩
          rw [HVV.out]; exact hW3
      · have hq : ((92 : Int) == n) = false := by simp; omega
        have HN : Hid (((0 : Int) < 2 → n ≠ 34) ∧ ((1 : Int) < 2 → n ≠ 92) ∧ ((2 : Int) < 2 → n ≠ 10) ∧ ((3 : Int) < 2 → n ≠ 9) ∧ ((4 : Int) < 2 → n ≠ 13) ∧ ((5 : Int) < 2 → n ≠ 0)) := ⟨fun _ => m0 (by decide), fun _ => hc, fun h => absurd h (by decide), fun h => absurd h (by decide), fun h => absurd h (by decide), fun h => absurd h (by decide)⟩
        have hw1 : Below wr.heap.size wr (wr.alloc (.cells #[.int .u8 92, .int .i64 92] 107)) := below_alloc _ _
        have HW2 : Hid (Wt B b out (wr.alloc (.cells #[.int .u8 92, .int .i64 92] 107))) := HW1.out.later hw1
        have HF2 : Hid (Fr B b w (wr.alloc (.cells #[.int .u8 92, .int .i64 92] 107))) := HF1.out.trans (Fr.of hw1 (by omega))
        clear hw1 HW1 HF1 hc m0 m1 m2 m3 m4 m5
        go_wp2
        go_roundw
        case rel => exact ⟨2, by decide, by decide, rfl, HN.out.1, HN.out.2.1, HN.out.2.2.1, HN.out.2.2.2.1, HN.out.2.2.2.2.1, HN.out.2.2.2.2.2, HW2.out, HF2.out, by rw [World.size_alloc]; omega⟩
        case measure => simp [intOf]
    · by_cases hc : n = 10
      · have hq : ((10 : Int) == n) = true := by rw [hc]; simp
        have HVV : Hid (V = [92, 110]) := by rw [HV.out, hc]; exact rfl
        have HNC : Hid (n = 10) := hc
        clear hc m0 m1 m2 m3 m4 m5
        have hw1 : Below wr.heap.size wr (wr.alloc (.cells #[.int .u8 110, .int .i64 10] 107)) := below_alloc _ _
        have HW2 : Hid (Wt B b out (wr.alloc (.cells #[.int .u8 110, .int .i64 10] 107))) := HW1.out.later hw1
        have HF2 : Hid (Fr B b w (wr.alloc (.cells #[.int .u8 110, .int .i64 10] 107))) := HF1.out.trans (Fr.of hw1 (by omega))
        have HX1 : Hid ((wr.alloc (.cells #[.int .u8 110, .int .i64 10] 107)).heap[wr.heap.size]? = some (.cells #[.int .u8 110, .int .i64 10] 107 (0, 0))) := heap_alloc_new wr _
        have hsa : (wr.alloc (.cells #[.int .u8 110, .int .i64 10] 107)).heap.size = wr.heap.size + 1 := World.size_alloc _ _
        obtain ⟨X, HXX⟩ : ∃ X, Hid (X = wr.heap.size) := ⟨_, rfl⟩
        have hXb : b < X := by rw [HXX.out]; exact HW1.out.lt
        clear hw1 HW1 HF1
        go_wp2_with fail
        refine (wByte 92 _ HW2.out (by omega) (by omega)).mono ?_
        rintro e w2 ⟨rfl, hW2, hF2⟩
        rw [← HXX.out]
        rw [← HXX.out] at HX1
        have hX2 := hF2.keep HX1.out (by omega) (fun c fz e => by cases e)
        have c0 : w2.cell? ⟨X, 0, none⟩ = some (.int .u8 110) := by rw [Lib.cell_of_heap hX2]; rfl
        have hs2 : w.heap.size ≤ w2.heap.size := by have := hF2.1.size; omega
        have HWB : Hid (∀ W, Below w2.heap.size w2 W → Calls Tryz.prog 53 #[.pointer (some ⟨b, 0, none⟩), .int .u8 110] W fun e w' => e = .returned .nilIface ∧ (Wt B b (out ++ [92, 110]) w' ∧ Fr B b w w')) := fun W hb => two_bytes (X := X) (by decide) 110 w2 W hW2 (HF2.out.trans hF2) hX2 hXb hb ho (by omega)
        clear hW2 hF2 hX2 HW2 HF2 HX1 HXX hsa
        go_wp2
        go_region_with (go_at_call 53; refine (HWB.out _ (by first | exact Below.refl _ _ | exact Below.drew (Below.refl _ _) | exact below_drewN (Below.refl _ _) _)).mono ?_; rintro e w3 ⟨rfl, hW3, hF3⟩)
        all_goals
          go_wp2
          refine bodyPost_ret (v := .tuple #[]) (by simp [results, Tryz.results54, go_sem]) rfl ⟨rfl, ?_, hF3⟩
          rw [HVV.out]; exact hW3
      · have hq : ((10 : Int) == n) = false := by simp; omega
        have HN : Hid (((0 : Int) < 3 → n ≠ 34) ∧ ((1 : Int) < 3 → n ≠ 92) ∧ ((2 : Int) < 3 → n ≠ 10) ∧ ((3 : Int) < 3 → n ≠ 9) ∧ ((4 : Int) < 3 → n ≠ 13) ∧ ((5 : Int) < 3 → n ≠ 0)) := ⟨fun _ => m0 (by decide), fun _ => m1 (by decide), fun _ => hc, fun h => absurd h (by decide), fun h => absurd h (by decide), fun h => absurd h (by decide)⟩
        have hw1 : Below wr.heap.size wr (wr.alloc (.cells #[.int .u8 110, .int .i64 10] 107)) := below_alloc _ _
        have HW2 : Hid (Wt B b out (wr.alloc (.cells #[.int .u8 110, .int .i64 10] 107))) := HW1.out.later hw1
        have HF2 : Hid (Fr B b w (wr.alloc (.cells #[.int .u8 110, .int .i64 10] 107))) := HF1.out.trans (Fr.of hw1 (by omega))
        clear hw1 HW1 HF1 hc m0 m1 m2 m3 m4 m5
        go_wp2
        go_roundw
        case rel => exact ⟨3, by decide, by decide, rfl, HN.out.1, HN.out.2.1, HN.out.2.2.1, HN.out.2.2.2.1, HN.out.2.2.2.2.1, HN.out.2.2.2.2.2, HW2.out, HF2.out, by rw [World.size_alloc]; omega⟩
        case measure => simp [intOf]
    · by_cases hc : n = 9
      · have hq : ((9 : Int) == n) = true := by rw [hc]; simp
        have HVV : Hid (V = [92, 116]) := by rw [HV.out, hc]; exact rfl
        have HNC : Hid (n = 9) := hc
        clear hc m0 m1 m2 m3 m4 m5
        have hw1 : Below wr.heap.size wr (wr.alloc (.cells #[.int .u8 116, .int .i64 9] 107)) := below_alloc _ _
        have HW2 : Hid (Wt B b out (wr.alloc (.cells #[.int .u8 116, .int .i64 9] 107))) := HW1.out.later hw1
        have HF2 : Hid (Fr B b w (wr.alloc (.cells #[.int .u8 116, .int .i64 9] 107))) := HF1.out.trans (Fr.of hw1 (by omega))
        have HX1 : Hid ((wr.alloc (.cells #[.int .u8 116, .int .i64 9] 107)).heap[wr.heap.size]? = some (.cells #[.int .u8 116, .int .i64 9] 107 (0, 0))) := heap_alloc_new wr _
        have hsa : (wr.alloc (.cells #[.int .u8 116, .int .i64 9] 107)).heap.size = wr.heap.size + 1 := World.size_alloc _ _
        obtain ⟨X, HXX⟩ : ∃ X, Hid (X = wr.heap.size) := ⟨_, rfl⟩
        have hXb : b < X := by rw [HXX.out]; exact HW1.out.lt
        clear hw1 HW1 HF1
        go_wp2_with fail
        refine (wByte 92 _ HW2.out (by omega) (by omega)).mono ?_
        rintro e w2 ⟨rfl, hW2, hF2⟩
        rw [← HXX.out]
        rw [← HXX.out] at HX1
        have hX2 := hF2.keep HX1.out (by omega) (fun c fz e => by cases e)
        have c0 : w2.cell? ⟨X, 0, none⟩ = some (.int .u8 116) := by rw [Lib.cell_of_heap hX2]; rfl
        have hs2 : w.heap.size ≤ w2.heap.size := by have := hF2.1.size; omega
        have HWB : Hid (∀ W, Below w2.heap.size w2 W → Calls Tryz.prog 53 #[.pointer (some ⟨b, 0, none⟩), .int .u8 116] W fun e w' => e = .returned .nilIface ∧ (Wt B b (out ++ [92, 116]) w' ∧ Fr B b w w')) := fun W hb => two_bytes (X := X) (by decide) 116 w2 W hW2 (HF2.out.trans hF2) hX2 hXb hb ho (by omega)
        clear hW2 hF2 hX2 HW2 HF2 HX1 HXX hsa
        go_wp2
        go_region_with (go_at_call 53; refine (HWB.out _ (by first | exact Below.refl _ _ | exact Below.drew (Below.refl _ _) | exact below_drewN (Below.refl _ _) _)).mono ?_; rintro e w3 ⟨rfl, hW3, hF3⟩)
        all_goals
          go_wp2
          refine bodyPost_ret (v := .tuple #[]) (by simp [results, Tryz.results54, go_sem]) rfl ⟨rfl, ?_, hF3⟩
          rw [HVV.out]; exact hW3
      · have hq : ((9 : Int) == n) = false := by simp; omega
        have HN : Hid (((0 : Int) < 4 → n ≠ 34) ∧ ((1 : Int) < 4 → n ≠ 92) ∧ ((2 : Int) < 4 → n ≠ 10) ∧ ((3 : Int) < 4 → n ≠ 9) ∧ ((4 : Int) < 4 → n ≠ 13) ∧ ((5 : Int) < 4 → n ≠ 0)) := ⟨fun _ => m0 (by decide), fun _ => m1 (by decide), fun _ => m2 (by decide), fun _ => hc, fun h => absurd h (by decide), fun h => absurd h (by decide)⟩
        have hw1 : Below wr.heap.size wr (wr.alloc (.cells #[.int .u8 116, .int .i64 9] 107)) := below_alloc _ _
        have HW2 : Hid (Wt B b out (wr.alloc (.cells #[.int .u8 116, .int .i64 9] 107))) := HW1.out.later hw1
        have HF2 : Hid (Fr B b w (wr.alloc (.cells #[.int .u8 116, .int .i64 9] 107))) := HF1.out.trans (Fr.of hw1 (by omega))
        clear hw1 HW1 HF1 hc m0 m1 m2 m3 m4 m5
        go_wp2
        go_roundw
        case rel => exact ⟨4, by decide, by decide, rfl, HN.out.1, HN.out.2.1, HN.out.2.2.1, HN.out.2.2.2.1, HN.out.2.2.2.2.1, HN.out.2.2.2.2.2, HW2.out, HF2.out, by rw [World.size_alloc]; omega⟩
        case measure => simp [intOf]
    · by_cases hc : n = 13
      · have hq : ((13 : Int) == n) = true := by rw [hc]; simp
        have HVV : Hid (V = [92, 114]) := by rw [HV.out, hc]; exact rfl
        have HNC : Hid (n = 13) := hc
        clear hc m0 m1 m2 m3 m4 m5
        have hw1 : Below wr.heap.size wr (wr.alloc (.cells #[.int .u8 114, .int .i64 13] 107)) := below_alloc _ _
        have HW2 : Hid (Wt B b out (wr.alloc (.cells #[.int .u8 114, .int .i64 13] 107))) := HW1.out.later hw1
        have HF2 : Hid (Fr B b w (wr.alloc (.cells #[.int .u8 114, .int .i64 13] 107))) := HF1.out.trans (Fr.of hw1 (by omega))
        have HX1 : Hid ((wr.alloc (.cells #[.int .u8 114, .int .i64 13] 107)).heap[wr.heap.size]? = some (.cells #[.int .u8 114, .int .i64 13] 107 (0, 0))) := heap_alloc_new wr _
        have hsa : (wr.alloc (.cells #[.int .u8 114, .int .i64 13] 107)).heap.size = wr.heap.size + 1 := World.size_alloc _ _
        obtain ⟨X, HXX⟩ : ∃ X, Hid (X = wr.heap.size) := ⟨_, rfl⟩
        have hXb : b < X := by rw [HXX.out]; exact HW1.out.lt
        clear hw1 HW1 HF1
        go_wp2_with fail
        refine (wByte 92 _ HW2.out (by omega) (by omega)).mono ?_
        rintro e w2 ⟨rfl, hW2, hF2⟩
        rw [← HXX.out]
        rw [← HXX.out] at HX1
        have hX2 := hF2.keep HX1.out (by omega) (fun c fz e => by cases e)
        have c0 : w2.cell? ⟨X, 0, none⟩ = some (.int .u8 114) := by rw [Lib.cell_of_heap hX2]; rfl
        have hs2 : w.heap.size ≤ w2.heap.size := by have := hF2.1.size; omega
        have HWB : Hid (∀ W, Below w2.heap.size w2 W → Calls Tryz.prog 53 #[.pointer (some ⟨b, 0, none⟩), .int .u8 114] W fun e w' => e = .returned .nilIface ∧ (Wt B b (out ++ [92, 114]) w' ∧ Fr B b w w')) := fun W hb => two_bytes (X := X) (by decide) 114 w2 W hW2 (HF2.out.trans hF2) hX2 hXb hb ho (by omega)
        clear hW2 hF2 hX2 HW2 HF2 HX1 HXX hsa
        go_wp2
        go_region_with (go_at_call 53; refine (HWB.out _ (by first | exact Below.refl _ _ | exact Below.drew (Below.refl _ _) | exact below_drewN (Below.refl _ _) _)).mono ?_; rintro e w3 ⟨rfl, hW3, hF3⟩)
        all_goals
          go_wp2
          refine bodyPost_ret (v := .tuple #[]) (by simp [results, Tryz.results54, go_sem]) rfl ⟨rfl, ?_, hF3⟩
          rw [HVV.out]; exact hW3
      · have hq : ((13 : Int) == n) = false := by simp; omega
        have HN : Hid (((0 : Int) < 5 → n ≠ 34) ∧ ((1 : Int) < 5 → n ≠ 92) ∧ ((2 : Int) < 5 → n ≠ 10) ∧ ((3 : Int) < 5 → n ≠ 9) ∧ ((4 : Int) < 5 → n ≠ 13) ∧ ((5 : Int) < 5 → n ≠ 0)) := ⟨fun _ => m0 (by decide), fun _ => m1 (by decide), fun _ => m2 (by decide), fun _ => m3 (by decide), fun _ => hc, fun h => absurd h (by decide)⟩
        have hw1 : Below wr.heap.size wr (wr.alloc (.cells #[.int .u8 114, .int .i64 13] 107)) := below_alloc _ _
        have HW2 : Hid (Wt B b out (wr.alloc (.cells #[.int .u8 114, .int .i64 13] 107))) := HW1.out.later hw1
        have HF2 : Hid (Fr B b w (wr.alloc (.cells #[.int .u8 114, .int .i64 13] 107))) := HF1.out.trans (Fr.of hw1 (by omega))
        clear hw1 HW1 HF1 hc m0 m1 m2 m3 m4 m5
        go_wp2
        go_roundw
        case rel => exact ⟨5, by decide, by decide, rfl, HN.out.1, HN.out.2.1, HN.out.2.2.1, HN.out.2.2.2.1, HN.out.2.2.2.2.1, HN.out.2.2.2.2.2, HW2.out, HF2.out, by rw [World.size_alloc]; omega⟩
        case measure => simp [intOf]
    · by_cases hc : n = 0
      · have hq : ((0 : Int) == n) = true := by rw [hc]; simp
        have HVV : Hid (V = [92, 48]) := by rw [HV.out, hc]; exact rfl
        have HNC : Hid (n = 0) := hc
        clear hc m0 m1 m2 m3 m4 m5
        have hw1 : Below wr.heap.size wr (wr.alloc (.cells #[.int .u8 48, .int .i64 0] 107)) := below_alloc _ _
        have HW2 : Hid (Wt B b out (wr.alloc (.cells #[.int .u8 48, .int .i64 0] 107))) := HW1.out.later hw1
        have HF2 : Hid (Fr B b w (wr.alloc (.cells #[.int .u8 48, .int .i64 0] 107))) := HF1.out.trans (Fr.of hw1 (by omega))
        have HX1 : Hid ((wr.alloc (.cells #[.int .u8 48, .int .i64 0] 107)).heap[wr.heap.size]? = some (.cells #[.int .u8 48, .int .i64 0] 107 (0, 0))) := heap_alloc_new wr _
        have hsa : (wr.alloc (.cells #[.int .u8 48, .int .i64 0] 107)).heap.size = wr.heap.size + 1 := World.size_alloc _ _
        obtain ⟨X, HXX⟩ : ∃ X, Hid (X = wr.heap.size) := ⟨_, rfl⟩
        have hXb : b < X := by rw [HXX.out]; exact HW1.out.lt
        clear hw1 HW1 HF1
        go_wp2_with fail
        refine (wByte 92 _ HW2.out (by omega) (by omega)).mono ?_
        rintro e w2 ⟨rfl, hW2, hF2⟩
        rw [← HXX.out]
        rw [← HXX.out] at HX1
        have hX2 := hF2.keep HX1.out (by omega) (fun c fz e => by cases e)
        have c0 : w2.cell? ⟨X, 0, none⟩ = some (.int .u8 48) := by rw [Lib.cell_of_heap hX2]; rfl
        have hs2 : w.heap.size ≤ w2.heap.size := by have := hF2.1.size; omega
        have HWB : Hid (∀ W, Below w2.heap.size w2 W → Calls Tryz.prog 53 #[.pointer (some ⟨b, 0, none⟩), .int .u8 48] W fun e w' => e = .returned .nilIface ∧ (Wt B b (out ++ [92, 48]) w' ∧ Fr B b w w')) := fun W hb => two_bytes (X := X) (by decide) 48 w2 W hW2 (HF2.out.trans hF2) hX2 hXb hb ho (by omega)
        clear hW2 hF2 hX2 HW2 HF2 HX1 HXX hsa
        go_wp2
        go_region_with (go_at_call 53; refine (HWB.out _ (by first | exact Below.refl _ _ | exact Below.drew (Below.refl _ _) | exact below_drewN (Below.refl _ _) _)).mono ?_; rintro e w3 ⟨rfl, hW3, hF3⟩)
        all_goals
          go_wp2
          refine bodyPost_ret (v := .tuple #[]) (by simp [results, Tryz.results54, go_sem]) rfl ⟨rfl, ?_, hF3⟩
          rw [HVV.out]; exact hW3
      · have hq : ((0 : Int) == n) = false := by simp; omega
        have HN : Hid (((0 : Int) < 6 → n ≠ 34) ∧ ((1 : Int) < 6 → n ≠ 92) ∧ ((2 : Int) < 6 → n ≠ 10) ∧ ((3 : Int) < 6 → n ≠ 9) ∧ ((4 : Int) < 6 → n ≠ 13) ∧ ((5 : Int) < 6 → n ≠ 0)) := ⟨fun _ => m0 (by decide), fun _ => m1 (by decide), fun _ => m2 (by decide), fun _ => m3 (by decide), fun _ => m4 (by decide), fun _ => hc⟩
        have hw1 : Below wr.heap.size wr (wr.alloc (.cells #[.int .u8 48, .int .i64 0] 107)) := below_alloc _ _
        have HW2 : Hid (Wt B b out (wr.alloc (.cells #[.int .u8 48, .int .i64 0] 107))) := HW1.out.later hw1
        have HF2 : Hid (Fr B b w (wr.alloc (.cells #[.int .u8 48, .int .i64 0] 107))) := HF1.out.trans (Fr.of hw1 (by omega))
        clear hw1 HW1 HF1 hc m0 m1 m2 m3 m4 m5
        go_wp2
        go_roundw
        case rel => exact ⟨6, by decide, by decide, rfl, HN.out.1, HN.out.2.1, HN.out.2.2.1, HN.out.2.2.2.1, HN.out.2.2.2.2.1, HN.out.2.2.2.2.2, HW2.out, HF2.out, by rw [World.size_alloc]; omega⟩
        case measure => simp [intOf]
    · have hE : esc n = if may n = true then u8s (byt n) else if n < 256 then 92 :: 120 :: hexL 2 n.toNat else if n < 65536 then 92 :: 117 :: hexL 4 n.toNat else 92 :: 85 :: hexL 8 n.toNat := by
        unfold esc
        rw [if_neg (m0 (by decide)), if_neg (m1 (by decide)), if_neg (m3 (by decide)), if_neg (m2 (by decide)), if_neg (m4 (by decide)), if_neg (m5 (by decide))]
      clear m0 m1 m2 m3 m4 m5
      have hs1' : B ≤ wr.heap.size := by omega
      cases hm : may n
      · have HVV : Hid (V = if n < 256 then 92 :: 120 :: hexL 2 n.toNat else if n < 65536 then 92 :: 117 :: hexL 4 n.toNat else 92 :: 85 :: hexL 8 n.toNat) := by rw [HV.out, hE, if_neg (by rw [hm]; decide)]; exact rfl
        obtain ⟨N, hN⟩ : ∃ N : Nat, n = (N : Int) := ⟨n.toNat, by omega⟩
        have HPN : Hid (Calls Tryz.prog 83 #[.pointer (some ⟨b, 0, none⟩), .int .i64 n] wr fun e w' => e = .returned (.tuple #[]) ∧ Wt B b (out ++ V) w' ∧ Fr B b wr w') := by
          have q := putNumber_any N wr HW1.out (by omega) ho hs1' (HT.out _ HF1.out)
          have e1 : V = if N < 256 then 92 :: 120 :: hexL 2 N else if N < 65536 then 92 :: 117 :: hexL 4 N else 92 :: 85 :: hexL 8 N := by
            rw [HVV.out, hN]
            have i1 : ((N : Int) < 256) = (N < 256) := by simp only [eq_iff_iff]; omega
            have i2 : ((N : Int) < 65536) = (N < 65536) := by simp only [eq_iff_iff]; omega
            simp only [i1, i2, Int.toNat_natCast]
          rw [← e1, ← hN] at q
          exact q
        have HN : Hid (n = (N : Int)) := hN
        clear hN hE
        go_wp2_with (first | (go_at_call 81; refine (stands_any _ _).mono ?_; rintro e w' ⟨rfl, rfl⟩))
        refine HPN.out.mono ?_
        rintro e w2 ⟨rfl, hW2, hF2⟩
        have HF2 : Hid (Fr B b w w2) := HF1.out.trans hF2
        clear hF2
        go_wp2
        go_end0
        exact ⟨rfl, hW2, HF2.out⟩
      · have HVV : Hid (V = sgb n) := by rw [HV.out, hE, if_pos hm]; unfold sgb; rw [if_pos HSG.out]; exact rfl
        clear hE
        go_wp2_with (first | (go_at_call 81; refine (stands_any _ _).mono ?_; rintro e w' ⟨rfl, rfl⟩))
        refine (putSign_any embW n out HW1.out (by omega) hs1').mono ?_
        rintro e w2 ⟨rfl, hW2, hb2, hk2⟩
        have HF2 : Hid (Fr B b w w2) := HF1.out.trans ⟨hb2, hk2⟩
        have HW2 : Hid (Wt B b (out ++ V) w2) := by rw [HVV.out]; exact hW2
        clear hW2 hb2 hk2
        go_wp2
        refine bodyPost_ret (v := .tuple #[]) (by simp [results, Tryz.results54, go_sem]) rfl ⟨rfl, HW2.out, HF2.out⟩

end Go.Proofs.YteokhnielbmifaaGreatDoor.Quo
end
