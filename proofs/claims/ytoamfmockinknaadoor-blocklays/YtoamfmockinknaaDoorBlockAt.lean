/- grommetlaw08.at, by its contract: lines as rows. -/
import Derived.Test.YtoamfmockinknaaDoorBlockLayP
import Derived.Test.YtoamfmockinknaaDoorBlockStep
namespace Go.Proofs.YtoamfmockinknaaDoor.Blk
open Go.RowKit
open Rws (mk mk_data mk_size mk_of mk_ext mk_get mk_inj is32)
set_option linter.unusedSimpArgs false
set_option linter.unusedVariables false
set_option maxRecDepth 100000

theorem Tryd.infoRow : (Tryd.prog.info? 44).map (fun i => (i.zero, i.size, i.bytes)) = some (some (.agg #[.int .i64 0, .string ⟨#[]⟩, .int .i64 0]), 3, 32) := by kernel_rfl
def rC (r : Rw) : List Value := [.int .i64 r.1, .string (mk r.2.1), .int .i64 r.2.2]
def rowV (rs : List Rw) : List Value := rs.flatMap rC
theorem rowV_app (a b : List Rw) : rowV (a ++ b) = rowV a ++ rowV b := by simp [rowV]
theorem rowV_len (rs : List Rw) : (rowV rs).length = rs.length * 3 := by
  induction rs with
  | nil => rfl
  | cons r t ih =>
    have e : rowV (r :: t) = rC r ++ rowV t := by simp [rowV]
    rw [e, List.length_append, ih, List.length_cons]
    simp [rC]
    omega
theorem rowV_at (rs : List Rw) (i : Nat) (h : i < rs.length) : (rowV rs)[i * 3]? = some (.int .i64 (rs.getD i z3).1) ∧ (rowV rs)[i * 3 + 1]? = some (.string (mk (rs.getD i z3).2.1)) ∧ (rowV rs)[i * 3 + 2]? = some (.int .i64 (rs.getD i z3).2.2) := by
  induction rs generalizing i with
  | nil => simp at h
  | cons x r ih =>
    cases i with
    | zero => simp [rowV, rC]
    | succ i =>
      have := ih i (by simp at h; omega)
      have e : rowV (x :: r) = rC x ++ rowV r := by simp [rowV]
      have e1 : (i + 1) * 3 = (rC x).length + i * 3 := by simp [rC]; omega
      have e2 : (i + 1) * 3 + 1 = (rC x).length + (i * 3 + 1) := by simp [rC]; omega
      have e3 : (i + 1) * 3 + 2 = (rC x).length + (i * 3 + 2) := by simp [rC]; omega
      rw [e, e3, e2, e1, List.getElem?_append_right (by omega), List.getElem?_append_right (by omega), List.getElem?_append_right (by omega), Nat.add_sub_cancel_left, Nat.add_sub_cancel_left, Nat.add_sub_cancel_left, List.getD_cons_succ]
      exact this
theorem rw_own {w : World} {base : Nat} {v : Value} {rs : List Rw} (h : w.ownsRow base 44 3 v rs.length (rowV rs)) : ∃ a cap, v = .slice a rs.length cap ∧ rs.length ≤ cap ∧ RwAt w a rs.length rs ∧ (0 < rs.length → ∃ g, a = some ⟨g, 0, none⟩) := by
  obtain ⟨hl, h⟩ := h
  rcases h with ⟨rfl, h0⟩ | ⟨g, cap, cur, rfl, hb, hg, hc, hm, hs, ht⟩
  · rw [h0]; exact ⟨_, _, rfl, Nat.le_refl _, ⟨by simp [h0], fun h => absurd h (by decide)⟩, fun h => absurd h (by decide)⟩
  · refine ⟨_, _, rfl, hc, ⟨rfl, fun _ => ⟨g, 0, rfl, (Array.getElem?_eq_some_iff.1 hg).1, ?_⟩⟩, fun _ => ⟨g, rfl⟩⟩
    intro i hi
    have hv := rowV_at rs i hi
    rw [← ht, List.getElem?_take, if_pos (by omega), List.getElem?_take, if_pos (by omega), List.getElem?_take, if_pos (by omega)] at hv
    simp only [Nat.zero_add]
    rw [cell_of_row w g _ cur 44 (0, 0) hg, cell_of_row w g _ cur 44 (0, 0) hg, cell_of_row w g _ cur 44 (0, 0) hg]
    simpa using hv
theorem cell_three {w : World} (r : Rw) (t : TypeId) : ∀ j u, (rC r)[j]? = some u → (w.alloc (.cells #[.int .i64 r.1, .string (mk r.2.1), .int .i64 r.2.2] t)).cell? ((⟨w.heap.size, 0, none⟩ : Addr).add j) = some u := by
  intro j u hu
  rw [add_plain, Nat.zero_add, Lib.cell_of_heap (heap_alloc_new w _)]
  rw [← hu]
  simp [rC]
theorem row_one (r : Rw) : ∀ u ∈ rC r, u.oneCell' = true := by
  intro u hu
  simp only [rC, List.mem_cons, List.not_mem_nil, or_false] at hu
  rcases hu with rfl | rfl | rfl <;> rfl
theorem nb_get (x : Ln) (n : Nat) (h : n < nb x) : x.getD n 0 = 32 := by
  have h1 := nb_split x
  have h2 : n < x.length := Nat.lt_of_lt_of_le h (nb_le x)
  rw [← h1, List.getD_eq_getElem?_getD, List.getElem?_append_left (by rw [List.length_replicate]; exact h), List.getElem?_replicate, if_pos h]
  rfl
theorem nb_cons (b : UInt8) (r : Ln) : nb (b :: r) = if is32 b = true then nb r + 1 else 0 := by
  unfold nb
  rw [List.takeWhile_cons]
  split <;> rfl
theorem nb_stop : ∀ (x : Ln), nb x < x.length → x.getD (nb x) 0 ≠ 32
  | [], h => by simp [nb] at h
  | b :: r, h => by
    by_cases hb : is32 b = true
    · rw [nb_cons, if_pos hb] at h ⊢
      rw [List.getD_cons_succ]
      exact nb_stop r (by rw [List.length_cons] at h; omega)
    · rw [nb_cons, if_neg hb]
      intro e
      simp [is32] at hb
      exact hb e

set_option maxHeartbeats 4000000 in
theorem at_any (a : Option Addr) (len cap : Nat) (xs : List Ln) (c : Int) (w : World) (h : StrsAt w a len xs) (hl : len ≤ 1048576) (hx : ∀ x ∈ xs, x.length ≤ 1048576) (hc0 : 0 ≤ c) (hc1 : c ≤ 1000) :
    Calls Tryd.prog 11 #[.slice a len cap, .int .i64 c] w fun e w' => ∃ v, e = .returned v ∧ w'.ownsRow w.heap.size 44 3 v (atR c 1 xs).length (rowV (atR c 1 xs)) ∧ Below w.heap.size w w' := by
  have HZ : Hid (StrsAt w a len xs) := h
  have HX : Hid (∀ x ∈ xs, x.length ≤ 1048576) := hx
  clear h hx
  obtain ⟨i0, hi, hz0, hz1, hz2⟩ := info_parts Tryd.infoRow
  go_enter Tryd.func11, Tryd.ntmps11
  go_wp2
  go_loopw [5, 11] (fun uv ui wr => ∃ k : Nat, k ≤ len ∧ ui = .int .i64 (k : Int) ∧ wr.ownsRow w.heap.size 44 3 uv k (rowV (atR c 1 (xs.take k))) ∧ Below w.heap.size w wr) (fun _ ui _ => len - (intOf ui).toNat)
  case atStart => exact ⟨0, Nat.zero_le _, rfl, World.ownsRow_nil _ _ _ _, Below.refl _ _⟩
  case round =>
    obtain ⟨k, hk, rfl, hown, hbe⟩ := hrel
    have HO : Hid (wr.ownsRow w.heap.size 44 3 u5 k (rowV (atR c 1 (xs.take k)))) := hown
    have hws := hbe.size
    clear hown
    by_cases hlt : k < len
    · obtain ⟨b, off, rfl, hbb, hcc⟩ := HZ.out.2 (by omega)
      have c0 := (hbe.cell (p := ⟨b, off + k, none⟩) hbb).trans (hcc k hlt)
      have hkx : k < xs.length := by rw [← HZ.out.1]; exact hlt
      have hxl := HX.out (xs.getD k []) (by rw [List.getD_eq_getElem?_getD, List.getElem?_eq_getElem hkx]; exact List.getElem_mem _)
      have HAN : Hid (atR c 1 (xs.take (k + 1)) = atR c 1 (xs.take k) ++ [(c + (nb (xs.getD k []) : Int), (xs.getD k []).drop (nb (xs.getD k [])), (k : Int) + 1)]) := by
        rw [take_getD xs k hkx, atR_app, List.length_take, ← HZ.out.1, Nat.min_eq_left (by omega)]
        show _ ++ [(_, _, ((1 + k : Nat) : Int))] = _
        rw [show ((1 + k : Nat) : Int) = (k : Int) + 1 by omega]
      obtain ⟨x, hx⟩ : ∃ x, x = xs.getD k [] := ⟨_, rfl⟩
      rw [← hx] at c0 HAN hxl
      clear hx hcc hkx
      obtain ⟨nx, hnx⟩ : ∃ nx, nx = nb x := ⟨_, rfl⟩
      have hnl : nx ≤ x.length := by rw [hnx]; exact nb_le x
      have HGT : Hid (∀ j, j < nx → x.getD j 0 = 32) := fun j hj => nb_get x j (by rw [← hnx]; exact hj)
      have HST : Hid (nx < x.length → x.getD nx 0 ≠ 32) := fun hj => by rw [hnx] at hj ⊢; exact nb_stop x hj
      rw [← hnx] at HAN
      clear hnx
      obtain ⟨T, HT⟩ : ∃ T : Ln, Hid (T = x.drop nx) := ⟨x.drop nx, rfl⟩
      rw [← HT.out] at HAN
      have hsz : (mk x).size = x.length := mk_size x
      have hext : (mk x).extract nx x.length = mk T := by rw [mk_ext, HT.out, List.take_of_length_le (by rw [List.length_drop]; omega)]
      have HGM : Hid (∀ j, ∀ h, (mk x)[j]'h = x.getD j 0) := fun j h => by
        rw [mk_get, List.getD_eq_getElem?_getD, List.getElem?_eq_getElem (by rw [mk_size] at h; exact h)]; rfl
      go_wp2
      go_loop [8] (fun un => ∃ j : Nat, j ≤ nx ∧ un = .int .i64 (j : Int)) (fun un => nx - (intOf un).toNat)
      case atStart => exact ⟨0, Nat.zero_le _, rfl⟩
      case round =>
        obtain ⟨j, hj, rfl⟩ := hrel
        by_cases hjn : j < nx
        · have hg : ∀ h, (mk x)[j]'h = 32 := fun h => by rw [HGM.out j h]; exact HGT.out j hjn
          have h32 : ((32 : UInt8).toNat : Int) = 32 := rfl
          have hjl : j < x.length := by omega
          go_wp2
          go_round
          case rel => exact ⟨j + 1, by omega, by go_num⟩
          case measure => (simp [intOf] <;> omega)
        · obtain rfl : nx = j := by omega
          by_cases hjl : nx < x.length
          · obtain ⟨y, hy⟩ : ∃ y, y = x.getD nx 0 := ⟨_, rfl⟩
            have hg : ∀ h, (mk x)[nx]'h = y := fun h => by rw [HGM.out nx h, hy]
            have hyn : ((y.toNat : Int) == 32) = false := by
              have h1 := HST.out hjl
              rw [← hy] at h1
              rw [beq_eq_false_iff_ne]
              intro e
              apply h1
              apply UInt8.toNat_inj.1
              have : y.toNat = 32 := by omega
              rw [this]; rfl
            clear hy
            go_wp2_with (first | (at_builtin; refine wpList_append_own _ rfl _ _ 35 rfl w.heap.size 44 i0 (.agg #[.int .i64 0, .string ⟨#[]⟩, .int .i64 0]) 3 32 Tryd.underlying35 hi hz0 hz1 hz2 rfl (by decide) _ _ _ rfl (HO.out.alloc _) ⟨wr.heap.size, 0, none⟩ 1 1 (rC (c + (nx : Int), T, ((k : Int) + 1))) rfl rfl (cell_three (c + (nx : Int), T, ((k : Int) + 1)) _) (row_one _) (by unfold maxLen; omega) (by omega) (by rw [World.size_alloc]; omega) ?_; intro v' w3 hown' hgrow _; have hb3 : Below w.heap.size w w3 := (hbe.alloc hws _).grown hgrow (by rw [World.size_alloc]; omega) (own_block HO.out); have hs3 := hgrow.size; rw [World.size_alloc] at hs3))
            have HO3 : Hid (w3.ownsRow w.heap.size 44 3 v' (k + 1) (rowV (atR c 1 (xs.take (k + 1))))) := by rw [HAN.out, rowV_app]; exact hown'
            clear hown' hgrow
            go_roundw
            case rel => exact ⟨k + 1, by omega, by go_num, HO3.out, hb3⟩
            case measure => (simp [intOf] <;> omega)
          · go_wp2_with (first | (at_builtin; refine wpList_append_own _ rfl _ _ 35 rfl w.heap.size 44 i0 (.agg #[.int .i64 0, .string ⟨#[]⟩, .int .i64 0]) 3 32 Tryd.underlying35 hi hz0 hz1 hz2 rfl (by decide) _ _ _ rfl (HO.out.alloc _) ⟨wr.heap.size, 0, none⟩ 1 1 (rC (c + (nx : Int), T, ((k : Int) + 1))) rfl rfl (cell_three (c + (nx : Int), T, ((k : Int) + 1)) _) (row_one _) (by unfold maxLen; omega) (by omega) (by rw [World.size_alloc]; omega) ?_; intro v' w3 hown' hgrow _; have hb3 : Below w.heap.size w w3 := (hbe.alloc hws _).grown hgrow (by rw [World.size_alloc]; omega) (own_block HO.out); have hs3 := hgrow.size; rw [World.size_alloc] at hs3))
            have HO3 : Hid (w3.ownsRow w.heap.size 44 3 v' (k + 1) (rowV (atR c 1 (xs.take (k + 1))))) := by rw [HAN.out, rowV_app]; exact hown'
            clear hown' hgrow
            go_roundw
            case rel => exact ⟨k + 1, by omega, by go_num, HO3.out, hb3⟩
            case measure => (simp [intOf] <;> omega)
    · have HE : Hid (xs.take k = xs) := List.take_of_length_le (by rw [← HZ.out.1]; omega)
      have HEL : Hid ((atR c 1 xs).length = k) := by rw [atR_len, ← HZ.out.1]; show len = k; omega
      have hown := HO.out
      rw [HE.out] at hown
      have HO4 : Hid (wr.ownsRow w.heap.size 44 3 u5 k (rowV (atR c 1 xs))) := hown
      clear hown
      go_wp2
      go_ret
      refine ⟨u5, rfl, ?_, hbe⟩
      rw [HEL.out]
      exact HO4.out

end Go.Proofs.YtoamfmockinknaaDoor.Blk
