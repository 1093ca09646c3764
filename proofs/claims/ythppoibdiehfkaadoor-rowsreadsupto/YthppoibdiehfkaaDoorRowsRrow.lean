/- grommetref02.row, Texts, by their contracts. -/
import Derived.Test.YthppoibdiehfkaaDoorRowsRlines
namespace Go.Proofs.YthppoibdiehfkaaDoor.Rws
open Utf
open Go.RowKit
set_option linter.unusedSimpArgs false
set_option linter.unusedVariables false
set_option maxRecDepth 100000

theorem drop_cons (l : List UInt8) (n : Nat) (h : n < l.length) : l.drop n = l.getD n 0 :: l.drop (n + 1) := by
  rw [List.getD_eq_getElem?_getD, List.getElem?_eq_getElem h]; simp
theorem extract_self (l : List UInt8) (n : Nat) : (mk l).extract n n = ByteArray.empty := by rw [mk_ext, Nat.sub_self, List.take_zero]; rfl

set_option maxHeartbeats 2000000 in
theorem rrow_any (l : List UInt8) (k : Int) (w : World) (hs : l.length ≤ 140737488355328) : Calls Tryd.prog 28 #[.string (mk l), .int .i64 k] w fun e w' => e = .returned (rowV l k) ∧ Below w.heap.size w w' := by
  have hsz := mk_size l
  go_enter Tryd.func28, Tryd.ntmps28
  go_wp2
  go_loop [5] (fun c => ∃ n : Nat, n ≤ l.length ∧ c = .int .i64 n ∧ trL l = trL (l.drop n)) (fun c => l.length - (intOf c).toNat)
  case atStart => exact ⟨0, Nat.zero_le _, rfl, rfl⟩
  case round =>
    obtain ⟨n, hn, rfl, ht⟩ := hrel
    have HT : Hid (trL l = trL (l.drop n)) := ht
    clear ht
    by_cases hlt : n < l.length
    · have hlt' : n < (mk l).size := by rw [mk_size]; exact hlt
      have hg : ∀ h, (mk l)[n]'h = l.getD n 0 := fun h => mk_getD l n h
      have hb := b32 (l.getD n 0)
      have HD := drop_cons l n hlt
      cases h32 : is32 (l.getD n 0)
      · rw [h32] at hb
        have HF : Hid (trL l = l.drop n) := by rw [HT.out, HD, trL_cons, h32]; exact rfl
        clear h32 HD HT
        generalize l.getD n 0 = b at hg hb
        go_wp2
        go_loop [6] (fun e => ∃ m : Nat, n ≤ m ∧ m ≤ l.length ∧ e = .int .i64 m ∧ trR is32 (l.drop n) = trR is32 ((l.drop n).take (m - n))) (fun e => (intOf e).toNat)
        case atStart => exact ⟨l.length, by omega, Nat.le_refl _, by first | rfl | simp, by rw [List.take_of_length_le (by rw [List.length_drop]; omega)]⟩
        case round =>
          obtain ⟨m, hnm, hm, rfl, ht⟩ := hrel
          have H2 : Hid (trR is32 (l.drop n) = trR is32 ((l.drop n).take (m - n))) := ht
          clear ht
          have hcol : (col l : Nat) = n := by unfold col; rw [HF.out, List.length_drop]; omega
          have HCol : Hid ((col l : Nat) = n) := hcol
          clear hcol
          by_cases hgt : n < m
          · obtain ⟨r, rfl⟩ : ∃ r, m = r + 1 := ⟨m - 1, by omega⟩
            have hlt3 : r < (mk l).size := by omega
            have hg2 : ∀ h, (mk l)[r]'h = l.getD r 0 := fun h => mk_getD l r h
            have hb2 := b32 (l.getD r 0)
            have HG : (l.drop n).take (r + 1 - n) = (l.drop n).take (r - n) ++ [l.getD r 0] := by
              have e1 : r + 1 - n = (r - n) + 1 := by omega
              rw [e1, take_snoc _ _ (by rw [List.length_drop]; omega), getD_drop]
              congr 3; omega
            cases h2 : is32 (l.getD r 0)
            · rw [h2] at hb2
              have HR : Hid (rowV l k = .agg #[.int .i64 (n : Nat), .string ((mk l).extract n (r + 1)), .int .i64 k]) := by
                unfold rowV text
                rw [HCol.out, HF.out, H2.out, HG, trR_snoc, h2, if_neg (by simp), ← HG, mk_ext]; exact rfl
              clear h2 HG
              generalize l.getD r 0 = b2 at hg2 hb2
              go_wp2
              refine bodyPost_ret (v := rowV l k) ?_ rfl ⟨rfl, (Below.refl _ _).alloc (Nat.le_refl _) _⟩
              rw [HR.out]
              simp [results, Tryd.results28, go_sem]
            · rw [h2] at hb2
              have HN : Hid (trR is32 (l.drop n) = trR is32 ((l.drop n).take (r - n))) := by rw [H2.out, HG, trR_snoc, h2, if_pos rfl]; exact rfl
              clear h2 HG
              generalize l.getD r 0 = b2 at hg2 hb2
              go_wp2
              go_round
              case rel => exact ⟨r, by omega, by omega, by go_num, HN.out⟩
              case measure => (simp [intOf] <;> omega)
          · obtain rfl : m = n := by omega
            have HR : Hid (rowV l k = .agg #[.int .i64 (m : Nat), .string ByteArray.empty, .int .i64 k]) := by
              unfold rowV text
              rw [HCol.out, HF.out, H2.out, Nat.sub_self, List.take_zero]; exact rfl
            go_wp2
            refine bodyPost_ret (v := rowV l k) ?_ rfl ⟨rfl, (Below.refl _ _).alloc (Nat.le_refl _) _⟩
            rw [HR.out]
            simp [results, Tryd.results28, go_sem]
      · rw [h32] at hb
        have HN : Hid (trL l = trL (l.drop (n + 1))) := by rw [HT.out, HD, trL_cons, h32]; exact rfl
        clear h32 HD HT
        generalize l.getD n 0 = b at hg hb
        go_wp2
        go_round
        case rel => exact ⟨n + 1, by omega, by go_num, HN.out⟩
        case measure => (simp [intOf] <;> omega)
    · obtain rfl : n = l.length := by omega
      have e0 : trL l = [] := by rw [HT.out, List.drop_of_length_le (Nat.le_refl _)]; rfl
      have hR : rowV l k = .agg #[.int .i64 (l.length : Nat), .string ByteArray.empty, .int .i64 k] := by
        unfold rowV text col; rw [e0]; rfl
      have HR : Hid (rowV l k = .agg #[.int .i64 (l.length : Nat), .string ByteArray.empty, .int .i64 k]) := hR
      clear hR e0
      go_wp2
      go_loop [6] (fun c => c = .int .i64 (l.length : Nat)) (fun _ => 0)
      case atStart => exact rfl
      case round =>
        obtain rfl := hrel
        go_wp2
        refine bodyPost_ret (v := rowV l k) ?_ rfl ⟨rfl, (Below.refl _ _).alloc (Nat.le_refl _) _⟩
        rw [HR.out]
        simp [results, Tryd.results28, go_sem]

/-- texts in memory -/
def StrsAt (w : World) (a : Option Addr) (len : Nat) (L : List (List UInt8)) : Prop :=
  len = L.length ∧ (0 < len → ∃ b off, a = some ⟨b, off, none⟩ ∧ b < w.heap.size ∧ ∀ i, i < len → w.cell? ⟨b, off + i, none⟩ = some (.string (mk (L.getD i []))))
theorem strs_own {w : World} {base : Nat} {v : Value} {L : List (List UInt8)} (h : w.ownsRow base 9 1 v L.length (L.map fun l => Value.string (mk l))) : ∃ a cap, v = .slice a L.length cap ∧ StrsAt w a L.length L := by
  obtain ⟨hl, h⟩ := h
  rcases h with ⟨rfl, h0⟩ | ⟨g, cap, cur, rfl, hb, hg, hc, hm, hs, ht⟩
  · rw [h0]; exact ⟨_, _, rfl, by rw [h0], fun h => absurd h (by decide)⟩
  · refine ⟨_, _, rfl, rfl, fun _ => ⟨g, 0, rfl, (Array.getElem?_eq_some_iff.1 hg).1, ?_⟩⟩
    intro i hi
    rw [Nat.zero_add, cell_of_row w g i cur 9 (0, 0) hg]
    have h1 : (cur.toList.take (L.length * 1))[i]? = some (.string (mk (L.getD i []))) := by
      rw [ht, List.getElem?_map, List.getD_eq_getElem?_getD, List.getElem?_eq_getElem (by omega)]; rfl
    rw [List.getElem?_take, if_pos (by omega)] at h1
    simpa using h1
theorem StrsAt.later {w w' : World} {a : Option Addr} {len : Nat} {L : List (List UInt8)} (h : StrsAt w a len L) {B : Nat} (hb : Below B w w') (hB : w.heap.size ≤ B) : StrsAt w' a len L := by
  refine ⟨h.1, fun hp => ?_⟩
  obtain ⟨b, off, ha, hlt, hc⟩ := h.2 hp
  exact ⟨b, off, ha, Nat.lt_of_lt_of_le hlt hb.size, fun i hi => (hb.cell (p := ⟨b, off + i, none⟩) (Nat.lt_of_lt_of_le hlt hB)).trans (hc i hi)⟩

theorem rtexts_same (a a' : Option Addr) (len cap cap' : Nat) (L : List (List UInt8)) (w : World) (h : StrsAt w a len L) (h' : StrsAt w a' len L) (hl : len ≤ 8796093022208) :
    Calls Tryd.prog 12 #[.slice a len cap, .slice a' len cap'] w fun e w' => e = .returned (.bool true) ∧ Below w.heap.size w w' := by
  have HZ : Hid (StrsAt w a len L) := h
  have HZ' : Hid (StrsAt w a' len L) := h'
  clear h h'
  go_enter Tryd.func12, Tryd.ntmps12
  go_wp2
  go_loopw [5] (fun i wr => ∃ k : Nat, k ≤ len ∧ i = .int .i64 k ∧ Below w.heap.size w wr) (fun i _ => len - (intOf i).toNat)
  case atStart => exact ⟨0, Nat.zero_le _, rfl, Below.refl _ _⟩
  case round =>
    obtain ⟨k, hk, rfl, hbe⟩ := hrel
    by_cases hlt : k < len
    · obtain ⟨b, off, rfl, hb, hc⟩ := HZ.out.2 (by omega)
      obtain ⟨b', off', rfl, hb', hc'⟩ := HZ'.out.2 (by omega)
      have hck := (hbe.cell (p := ⟨b, off + k, none⟩) hb).trans (hc k hlt)
      have hck' := (hbe.cell (p := ⟨b', off' + k, none⟩) hb').trans (hc' k hlt)
      generalize mk (L.getD k []) = n at *
      clear hc hc' HZ HZ'
      have hne : (n.toList != n.toList) = false := by simp
      go_wp2
      go_quiet (fail)
      go_wp2
      go_roundw
      case rel => exact ⟨k + 1, by omega, by go_num, below_drewN hbe _⟩
      case measure => (simp [intOf] <;> omega)
    · go_wp2
      go_ret
      exact ⟨rfl, hbe⟩

end Go.Proofs.YthppoibdiehfkaaDoor.Rws
