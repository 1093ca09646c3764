/- Package graph's walked, by its contract. -/
import Derived.Test.YtkggdjghjdakoaaGreatDoorGraphGo
namespace Go.Proofs.YtkggdjghjdakoaaGreatDoor.Grp
open Utf Rws Pln Flw
open Go.RowKit
set_option linter.unusedSimpArgs false
set_option linter.unusedVariables false
set_option maxRecDepth 100000
set_option maxHeartbeats 4000000

theorem lft_nil (len : Nat) : lft len [] = len := by
  unfold lft
  rw [List.filter_eq_self.2 (by simp), List.length_range]
structure WdS (w W : World) (K C len : Nat) (nsl : Value) (f : Nat → Int) : Prop where
  s : Bx W K #[nsl, .slice none 0 0, .slice (some ⟨C, 0, none⟩) len len, .int .i64 0] 49
  c : Bx W C (iA f len) 3
  bl : Below w.heap.size w W
  hk : w.heap.size ≤ K
  hc : w.heap.size ≤ C
  ck : C < K
theorem WdS.set {w W : World} {K C len : Nat} {nsl : Value} {f : Nat → Int} (h : WdS w W K C len nsl f) (i : Nat) (v : Int) : WdS w (W.setCell ⟨C, i, none⟩ (.int .i64 v)) K C len nsl (fun x => if x = i then v else f x) := by
  refine ⟨h.s.other (by have := h.ck; omega) _ _, ?_, h.bl.setCell (p := ⟨C, i, none⟩) h.hc _, h.hk, h.hc, h.ck⟩
  have := h.c.set i (.int .i64 v)
  rw [iA_set] at this
  exact this
theorem walked_any {w : World} {ad : Option Addr} {len cap : Nat} {ns : List Nd} {r : Nat} (hlen : len ≤ 4096) (hN : NAt w ad len ns) (hr : r < len) (hK : ∀ n ∈ ns, ∀ a ∈ n.kids, isP len a = true) (hsum : sumK ns ≤ 1000000000) :
    Calls Tryz.prog 26 #[gv ad len cap (r : Int)] w fun e w' => ∃ K C, e = .returned (.pointer (some ⟨K, 0, none⟩)) ∧ WkS w w' K C (.slice ad len cap) len (ord (kd ns) (ful (kd ns) len) r) (dep (kd ns) (ful (kd ns) len) r) := by
  have HGo : Hid (∀ (K C : Nat) (W : World), WkS w W K C (.slice ad len cap) len [] 0 → Calls Tryz.prog 39 #[.pointer (some ⟨K, 0, none⟩), .int .i64 (r : Int), .int .i64 1] W fun e W'' => (∃ v, e = .returned v) ∧ Hid (WkS w W'' K C (.slice ad len cap) len (ord (kd ns) (ful (kd ns) len) r) (dep (kd ns) (ful (kd ns) len) r))) :=
    fun K C W h => goTo_any K C hlen hN hK hsum len r 1 0 [] W (by rw [lft_nil]; exact Nat.le_refl _) h hr (by rw [lft_nil]; omega)
  have hmk := fun w' : World => run_make_row' (P := Tryz.prog) 30 3 (.int .i64 0) 8 Tryz.underInts Tryz.infoInt rfl .i64 .i64 len (by omega) (by omega) w'
  generalize ord (kd ns) (ful (kd ns) len) r = O at *
  generalize dep (kd ns) (ful (kd ns) len) r = M at *
  clear hN hK hsum
  go_enter Tryz.func26, Tryz.ntmps26
  go_wp2_with fail
  go_region
  have h0 : WdS w (((w.alloc (.cells #[.slice ad len cap, .int .i64 (r : Int)] 24)).alloc (.cells (madeCells #[.int .i64 0] len) 3)).alloc (.cells #[.slice ad len cap, .slice none 0 0, .slice (some ⟨w.heap.size + 1, 0, none⟩) len len, .int .i64 0] 49)).drew (w.heap.size + 1 + 1) (w.heap.size + 1) len (.slice ad len cap) (fun _ => 0) ∧ Bx (((w.alloc (.cells #[.slice ad len cap, .int .i64 (r : Int)] 24)).alloc (.cells (madeCells #[.int .i64 0] len) 3)).alloc (.cells #[.slice ad len cap, .slice none 0 0, .slice (some ⟨w.heap.size + 1, 0, none⟩) len len, .int .i64 0] 49)).drew w.heap.size #[.slice ad len cap, .int .i64 (r : Int)] 24 := by
    rw [iA_made]
    have b1 := below_alloc w (.cells #[.slice ad len cap, .int .i64 (r : Int)] 24)
    have n1 := Bx.new w #[.slice ad len cap, .int .i64 (r : Int)] 24
    have s1 : (w.alloc (.cells #[.slice ad len cap, .int .i64 (r : Int)] 24)).heap.size = w.heap.size + 1 := World.size_alloc _ _
    generalize w.alloc (.cells #[.slice ad len cap, .int .i64 (r : Int)] 24) = w1 at *
    have b2 := below_alloc w1 (.cells (iA (fun _ => 0) len) 3)
    have n2 := Bx.new w1 (iA (fun _ => 0) len) 3
    have s2 : (w1.alloc (.cells (iA (fun _ => 0) len) 3)).heap.size = w.heap.size + 1 + 1 := by rw [World.size_alloc, s1]
    rw [s1] at n2
    have n1 := n1.later b2
    generalize w1.alloc (.cells (iA (fun _ => 0) len) 3) = w2 at *
    have b3 := below_alloc w2 (.cells #[.slice ad len cap, .slice none 0 0, .slice (some ⟨w.heap.size + 1, 0, none⟩) len len, .int .i64 0] 49)
    have n3 := Bx.new w2 #[.slice ad len cap, .slice none 0 0, .slice (some ⟨w.heap.size + 1, 0, none⟩) len len, .int .i64 0] 49
    rw [s2] at n3
    have n2 := n2.later b3
    have n1 := n1.later b3
    have bl := ((b1.trans (b2.mono b1.size)).trans (b3.mono (by omega))).drew
    exact ⟨⟨n3, n2, bl, by omega, by omega, by omega⟩, n1⟩
  generalize (((w.alloc (.cells #[.slice ad len cap, .int .i64 (r : Int)] 24)).alloc (.cells (madeCells #[.int .i64 0] len) 3)).alloc (.cells #[.slice ad len cap, .slice none 0 0, .slice (some ⟨w.heap.size + 1, 0, none⟩) len len, .int .i64 0] 49)).drew = W0 at h0 ⊢
  have hkc : w.heap.size ≠ w.heap.size + 1 := by omega
  generalize w.heap.size + 1 + 1 = K at h0 ⊢
  generalize w.heap.size + 1 = C at h0 hkc ⊢
  obtain ⟨K0, hK0⟩ : ∃ K0, K0 = w.heap.size := ⟨_, rfl⟩
  rw [← hK0] at hkc ⊢
  have hg0 : Bx W0 K0 #[.slice ad len cap, .int .i64 (r : Int)] 24 := by rw [hK0]; exact h0.2
  have h1 := h0.1
  clear hK0 hmk h0
  have c2 : W0.cell? ⟨K, 2, none⟩ = some (.slice (some ⟨C, 0, none⟩) len len) := h1.s.cell 2
  go_wp2_with fail
  clear c2
  go_loopw [18] (fun i wr => ∃ j : Nat, j ≤ len ∧ i = .int .i64 j ∧ Hid (WdS w wr K C len (.slice ad len cap) (fun x => if x < j then -1 else 0)) ∧ Hid (Bx wr K0 #[.slice ad len cap, .int .i64 (r : Int)] 24)) (fun i _ => len - (intOf i).toNat)
  case atStart => exact ⟨0, Nat.zero_le _, rfl, h1, hg0⟩
  case round =>
    obtain ⟨j, hj, rfl, HS, HB⟩ := hrel
    clear h1 hg0
    by_cases hlt : j < len
    · have c2 : wr.cell? ⟨K, 2, none⟩ = some (.slice (some ⟨C, 0, none⟩) len len) := HS.out.s.cell 2
      have x0 := (HS.out.c.cell j).trans (iA_get _ hlt)
      have z0 := HS.out.c.fz j
      have HS2 : Hid (WdS w (wr.setCell ⟨C, j, none⟩ (.int .i64 (-1))) K C len (.slice ad len cap) (fun x => if x < j + 1 then -1 else 0)) := by
        have h := HS.out.set j (-1)
        refine ⟨h.s, ?_, h.bl, h.hk, h.hc, h.ck⟩
        rw [show iA (fun x => if x < j + 1 then (-1 : Int) else 0) len = iA (fun x => if x = j then -1 else if x < j then -1 else 0) len from iA_congr (fun i _ => by
          by_cases e : i = j
          · subst e; simp
          · rw [if_neg e]
            by_cases e2 : i < j
            · rw [if_pos e2, if_pos (by omega)]
            · rw [if_neg e2, if_neg (by omega)])]
        exact h.c
      have HB2 : Hid (Bx (wr.setCell ⟨C, j, none⟩ (.int .i64 (-1))) K0 #[.slice ad len cap, .int .i64 (r : Int)] 24) := HB.out.other hkc _ _
      go_wp2
      go_roundw
      case rel => exact ⟨j + 1, by omega, by go_num, HS2, HB2⟩
      case measure => simp [intOf]; omega
    · have HW : WkS w wr K C (.slice ad len cap) len [] 0 := by
        refine ⟨⟨.slice none 0 0, HS.out.s, World.ownsRow_nil _ _ _ _⟩, ?_, HS.out.bl, HS.out.hk, HS.out.hc, HS.out.ck, by rw [lft_nil]; simp; omega, Nat.zero_le _⟩
        rw [show iA (cm []) len = iA (fun x => if x < j then -1 else 0) len from iA_congr (fun i hi => by rw [if_pos (by omega)]; rfl)]
        exact HS.out.c
      have HCall := HGo.out K C wr HW
      obtain ⟨c0, c1⟩ := HB.out.c2
      go_wp2_with (go_at_call 39; refine HCall.mono ?_; rintro e W4 ⟨⟨v, rfl⟩, HS4⟩)
      go_ret
      exact ⟨K, C, rfl, HS4.out⟩
end Go.Proofs.YtkggdjghjdakoaaGreatDoor.Grp
