/- grommetref02.Write, by its contract. -/
import Derived.Test.YtgopjpihobekjaaDoorRowsWrite
import Derived.Test.YtgopjpihobekjaaDoorUtfConv
import Derived.Lib.AppendStr
namespace Go.Proofs.YtgopjpihobekjaaDoor.Rws
open Utf
open Go.RowKit
set_option linter.unusedSimpArgs false
set_option linter.unusedVariables false
set_option maxRecDepth 100000

theorem grow_below' {B : Nat} {w wr w1 : World} {e : TypeId} {k n : Nat} {u : Value} {xs : List Value} (hown : wr.ownsRow B e k u n xs) (hbe : Below B w wr) (hB : B ≤ wr.heap.size) (hgrow : wr.grownBy w1 u.ownBlock) :
    Below B w w1 ∧ B ≤ w1.heap.size := by
  refine ⟨hbe.grown hgrow hB (fun k hk => (hown.lt k hk).1), ?_⟩
  have := hgrow.size; omega
theorem grow_belowA {B : Nat} {w wr w1 : World} {e : TypeId} {k n : Nat} {u : Value} {xs : List Value} {o : Obj} (hown : wr.ownsRow B e k u n xs) (hbe : Below B w wr) (hB : B ≤ wr.heap.size) (hgrow : (wr.alloc o).grownBy w1 u.ownBlock) :
    Below B w w1 ∧ B ≤ w1.heap.size := by
  refine ⟨(hbe.alloc hB o).grown hgrow (by simp; omega) (fun k hk => (hown.lt k hk).1), ?_⟩
  have := hgrow.size; simp at this; omega
theorem new_byte (w : World) (v : Value) (t : TypeId) : ∀ j u, ([v])[j]? = some u → (w.alloc (.cells #[v] t)).cell? ((⟨w.heap.size, 0, none⟩ : Addr).add j) = some u := by
  intro j u hj
  have e : (⟨w.heap.size, 0, none⟩ : Addr).add j = ⟨w.heap.size, j, none⟩ := by unfold Addr.add; split <;> simp_all
  rw [e, cell_of_row _ w.heap.size j #[v] t (0, 0) (heap_alloc_new w _)]
  simpa using hj
theorem one_byte (n : Int) : ∀ u ∈ [Value.int .u8 n], u.oneCell' = true := by intro u hu; simp at hu; subst hu; rfl
theorem nums_bytes (l : List UInt8) : Lib.byteCells l = (l.map fun b => (b.toNat : Int)).map (Value.int .u8) := by simp [Lib.byteCells]
theorem str_bytes (l : List UInt8) : strOfNums (l.map fun b => (b.toNat : Int)) = mk l := by
  unfold strOfNums mk
  congr 1
  rw [List.map_map]
  have : (fun n : Int => UInt8.ofNat n.toNat) ∘ (fun b : UInt8 => (b.toNat : Int)) = id := by funext b; simp
  rw [this, List.map_id]
theorem rep_succ (p : List UInt8) (j : Nat) : Lib.byteCells (p ++ List.replicate (j + 1) 32) = Lib.byteCells (p ++ List.replicate j 32) ++ [Value.int .u8 32] := by
  rw [List.replicate_succ', ← List.append_assoc, byteCells_app]; rfl

set_option maxHeartbeats 4000000 in
theorem rwrite_any (a : Option Addr) (len cap : Nat) (rs : List R3) (w : World) (h : RowsAt w a len rs) (hl : len ≤ 4398046511104) (hb : (wrt rs).length ≤ 140737488355328) :
    Calls Tryd.prog 8 #[.slice a len cap] w fun e w' => e = .returned (.string (mk (wrt rs))) ∧ Below w.heap.size w w' := by
  have HZ : Hid (RowsAt w a len rs) := h
  clear h
  obtain ⟨i0, hi, hz0, hz1, hz2⟩ := info_parts Tryd.info5
  go_enter Tryd.func8, Tryd.ntmps8
  go_wp2
  go_loopw [3, 4] (fun v i wr => ∃ k : Nat, k ≤ len ∧ i = .int .i64 k ∧ wr.ownsRow w.heap.size 5 1 v (wrt (rs.take k)).length (Lib.byteCells (wrt (rs.take k))) ∧ Below w.heap.size w wr) (fun _ i _ => len - (intOf i).toNat)
  case atStart => exact ⟨0, Nat.zero_le _, rfl, World.ownsRow_nil _ _ _ _, Below.refl _ _⟩
  case round =>
    obtain ⟨k, hk, rfl, hown, hbe⟩ := hrel
    have hws := hbe.size
    by_cases hlt : k < len
    · obtain ⟨b, off, rfl, hbb, hc⟩ := HZ.out.2 (by omega)
      have HCC : Hid (w.cell? ⟨b, off + k * 3, none⟩ = some (.int .i64 (rs.getD k z3).1) ∧ w.cell? ⟨b, off + k * 3 + 1, none⟩ = some (.string (rs.getD k z3).2.1) ∧ w.cell? ⟨b, off + k * 3 + 2, none⟩ = some (.int .i64 (rs.getD k z3).2.2)) := hc k hlt
      have HW : Hid (wrt (rs.take (k + 1)) = wrt (rs.take k) ++ wr1 (rs.getD k z3)) := wrt_take rs k (by rw [← HZ.out.1]; exact hlt)
      have hwl := wrt_len rs (k + 1)
      rw [HW.out, List.length_append] at hwl
      obtain ⟨x, hx⟩ : ∃ x, Hid (x = rs.getD k z3) := ⟨_, rfl⟩
      rw [← hx.out] at HCC HW hwl
      obtain ⟨x1, x2, x3⟩ := x
      simp only at HCC
      unfold wr1 at hwl HW
      simp only [List.length_append, List.length_replicate, List.length_cons, List.length_nil] at hwl
      have hxl : x2.data.toList.length = x2.size := by rw [Array.length_toList]; rfl
      have hcl := clamp_le x1
      have hce := clamp_eq x1
      obtain ⟨P, HP⟩ : ∃ P, Hid (P = wrt (rs.take k)) := ⟨_, rfl⟩
      rw [← HP.out] at hown HW hwl
      clear hc
      go_wp2
      go_loopw [3, 5] (fun v j wr2 => ∃ m : Nat, m ≤ clamp x1 ∧ j = .int .i64 m ∧ wr2.ownsRow w.heap.size 5 1 v (P ++ List.replicate m 32).length (Lib.byteCells (P ++ List.replicate m 32)) ∧ Below w.heap.size w wr2) (fun _ j _ => clamp x1 - (intOf j).toNat)
      case atStart => exact ⟨0, Nat.zero_le _, rfl, by simpa using hown, hbe⟩
      case round =>
        obtain ⟨m, hm, rfl, hown2, hbe2⟩ := hrel
        have hws2 := hbe2.size
        clear hown hbe hws
        have hPm : (P ++ List.replicate m 32).length = P.length + m := by rw [List.length_append, List.length_replicate]
        rw [hPm] at hown2
        have c0 := (hbe2.cell (p := ⟨b, off + k * 3, none⟩) hbb).trans HCC.out.1
        have c1 := (hbe2.cell (p := ⟨b, off + k * 3 + 1, none⟩) hbb).trans HCC.out.2.1
        by_cases hmc : m < clamp x1
        · have t1 : (m : Int) < x1 := by omega
          have t2 : (m : Int) < 65536 := by omega
          clear hce
          go_wp2_with (first | (at_builtin; refine wpList_append_own _ rfl _ _ 40 rfl w.heap.size 5 i0 (.int .u8 0) 1 1 Tryd.underlying40 hi hz0 hz1 hz2 rfl (by decide) _ _ _ rfl (hown2.alloc _) ⟨wr.heap.size, 0, none⟩ 1 1 [Value.int .u8 32] rfl rfl (new_byte _ _ _) (one_byte _) (by unfold maxLen; omega) (by omega) (by simp; omega) ?_; intro v3 w3 own3 gr3 _; obtain ⟨bl3, sz3⟩ := grow_belowA hown2 hbe2 hws2 gr3; clear gr3))
          have own5 : w3.ownsRow w.heap.size 5 1 v3 (P ++ List.replicate (m + 1) 32).length (Lib.byteCells (P ++ List.replicate (m + 1) 32)) := by
            rw [rep_succ, List.length_append, List.length_replicate, ← Nat.add_assoc]; exact own3
          clear own3 hown2
          go_wp2
          go_roundw
          case rel => exact ⟨m + 1, by omega, by go_num, own5, bl3⟩
          case measure => (simp [intOf] <;> omega)
        · obtain rfl : m = clamp x1 := by omega
          have t1 : ((clamp x1 : Nat) : Int) < x1 → ¬ ((clamp x1 : Nat) : Int) < 65536 := by intro h1 h2; omega
          clear hmc
          by_cases t0 : ((clamp x1 : Nat) : Int) < x1
          · have t2 := t1 t0
            clear hce t1
            go_wp2_with (first | (at_builtin; refine Lib.wpList_append_own_string _ rfl _ _ 40 9 rfl w.heap.size 5 i0 Tryd.underlying40 Tryd.underlying9 hi hz0 hz1 hz2 _ _ _ rfl hown2 x2 rfl (by unfold maxLen; omega) (by omega) hws2 ?_; intro v4 w4 own4 gr4 _; obtain ⟨bl4, sz4⟩ := grow_below' hown2 hbe2 hws2 gr4; clear gr4) | (at_builtin; refine wpList_append_own _ rfl _ _ 40 rfl w.heap.size 5 i0 (.int .u8 0) 1 1 Tryd.underlying40 hi hz0 hz1 hz2 rfl (by decide) _ _ _ rfl (own4.alloc _) ⟨w4.heap.size, 0, none⟩ 1 1 [Value.int .u8 10] rfl rfl (new_byte _ _ _) (one_byte _) (by unfold maxLen; omega) (by omega) (by simp; omega) ?_; intro v5 w5 own5 gr5 _; obtain ⟨bl5, sz5⟩ := grow_belowA own4 bl4 sz4 gr5; clear gr5))
            have own6 : w5.ownsRow w.heap.size 5 1 v5 (wrt (rs.take (k + 1))).length (Lib.byteCells (wrt (rs.take (k + 1)))) := by
              have e4 : Lib.byteCells (wrt (rs.take (k + 1))) = Lib.byteCells (P ++ List.replicate (clamp x1) 32) ++ Lib.strCells x2 ++ [Value.int .u8 10] := by
                rw [HW.out]; simp [Lib.byteCells, Lib.strCells]
              have e5 : (wrt (rs.take (k + 1))).length = P.length + clamp x1 + x2.size + 1 := by
                rw [HW.out]; simp only [List.length_append, List.length_replicate, List.length_cons, List.length_nil, hxl]; omega
              rw [e4, e5]; exact own5
            clear own4 own5 hown2
            go_wp2
            go_roundw
            case rel => exact ⟨k + 1, by omega, by go_num, own6, bl5⟩
            case measure => (simp [intOf] <;> omega)
          · clear hce t1
            go_wp2_with (first | (at_builtin; refine Lib.wpList_append_own_string _ rfl _ _ 40 9 rfl w.heap.size 5 i0 Tryd.underlying40 Tryd.underlying9 hi hz0 hz1 hz2 _ _ _ rfl hown2 x2 rfl (by unfold maxLen; omega) (by omega) hws2 ?_; intro v4 w4 own4 gr4 _; obtain ⟨bl4, sz4⟩ := grow_below' hown2 hbe2 hws2 gr4; clear gr4) | (at_builtin; refine wpList_append_own _ rfl _ _ 40 rfl w.heap.size 5 i0 (.int .u8 0) 1 1 Tryd.underlying40 hi hz0 hz1 hz2 rfl (by decide) _ _ _ rfl (own4.alloc _) ⟨w4.heap.size, 0, none⟩ 1 1 [Value.int .u8 10] rfl rfl (new_byte _ _ _) (one_byte _) (by unfold maxLen; omega) (by omega) (by simp; omega) ?_; intro v5 w5 own5 gr5 _; obtain ⟨bl5, sz5⟩ := grow_belowA own4 bl4 sz4 gr5; clear gr5))
            have own6 : w5.ownsRow w.heap.size 5 1 v5 (wrt (rs.take (k + 1))).length (Lib.byteCells (wrt (rs.take (k + 1)))) := by
              have e4 : Lib.byteCells (wrt (rs.take (k + 1))) = Lib.byteCells (P ++ List.replicate (clamp x1) 32) ++ Lib.strCells x2 ++ [Value.int .u8 10] := by
                rw [HW.out]; simp [Lib.byteCells, Lib.strCells]
              have e5 : (wrt (rs.take (k + 1))).length = P.length + clamp x1 + x2.size + 1 := by
                rw [HW.out]; simp only [List.length_append, List.length_replicate, List.length_cons, List.length_nil, hxl]; omega
              rw [e4, e5]; exact own5
            clear own4 own5 hown2
            go_wp2
            go_roundw
            case rel => exact ⟨k + 1, by omega, by go_num, own6, bl5⟩
            case measure => (simp [intOf] <;> omega)
    · have HE : Hid (rs.take k = rs) := List.take_of_length_le (by rw [← HZ.out.1]; omega)
      rw [HE.out, nums_bytes] at hown
      have hcv := conv_own hown
      rw [str_bytes] at hcv
      clear hown
      go_wp2
      go_ret
      exact ⟨rfl, hbe⟩

end Go.Proofs.YtgopjpihobekjaaDoor.Rws
