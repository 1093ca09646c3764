/- Several texts as one: LayRn. -/
import Derived.Test.YtaphijgbebhdlaaGreatDoorV28LayRm
import Derived.Test.YtaphijgbebhdlaaGreatDoorV18LaySt
import Derived.Test.YtaphijgbebhdlaaGreatDoorV29PlainRef3
section
/- The document's layer in memory; its name, by its contract. -/
namespace Go.Proofs.YtaphijgbebhdlaaGreatDoor.Grp
open Utf Rws Pln Flw
open Go.RowKit
set_option linter.unusedSimpArgs false
set_option linter.unusedVariables false
set_option maxRecDepth 100000
set_option maxHeartbeats 4000000

/-- all stays but two blocks -/
structure Ex2 (c1 c2 : Nat) (w w' : World) : Prop where
  size : w.heap.size ≤ w'.heap.size
  block : ∀ j, j < w.heap.size → j ≠ c1 → j ≠ c2 → w'.heap[j]? = w.heap[j]?
theorem Ex2.trans {c d : Nat} {w1 w2 w3 : World} (h : Ex2 c d w1 w2) (k : Ex2 c d w2 w3) : Ex2 c d w1 w3 := ⟨Nat.le_trans h.size k.size, fun j h1 h2 h3 => (k.block j (Nat.lt_of_lt_of_le h1 h.size) h2 h3).trans (h.block j h1 h2 h3)⟩
theorem Ex2.of {c d : Nat} {w w' : World} (h : Below w.heap.size w w') : Ex2 c d w w' := ⟨h.size, fun j h1 _ _ => h.block j h1⟩
theorem Ex2.refl (c d : Nat) (w : World) : Ex2 c d w w := ⟨Nat.le_refl _, fun _ _ _ _ => rfl⟩
theorem Ex2.set1 {c d : Nat} {w w' : World} (h : Ex2 c d w w') (i : Nat) (v : Value) : Ex2 c d w (w'.setCell ⟨c, i, none⟩ v) :=
  ⟨by simpa [World.setCell] using h.size, fun j h1 h2 h3 => (Below.heap_setCell _ _ _ _ (fun e => h2 (by simpa using e))).trans (h.block j h1 h2 h3)⟩
theorem Ex2.set2 {c d : Nat} {w w' : World} (h : Ex2 c d w w') (i : Nat) (v : Value) : Ex2 c d w (w'.setCell ⟨d, i, none⟩ v) :=
  ⟨by simpa [World.setCell] using h.size, fun j h1 h2 h3 => (Below.heap_setCell _ _ _ _ (fun e => h3 (by simpa using e))).trans (h.block j h1 h2 h3)⟩
theorem Ex2.new {c d k : Nat} {w w' : World} (h : Ex2 c d w w') (hk : w.heap.size ≤ k) (i : Nat) (v : Value) : Ex2 c d w (w'.setCell ⟨k, i, none⟩ v) :=
  ⟨by simpa [World.setCell] using h.size, fun j h1 h2 h3 => (Below.heap_setCell _ _ _ _ (fun e => by simp only at e; omega)).trans (h.block j h1 h2 h3)⟩
theorem Ex2.grown {c d : Nat} {w w1 w2 : World} {o : Option Nat} (h : Ex2 c d w w1) (hg : w1.grownBy w2 o) (ho : ∀ q, o = some q → w.heap.size ≤ q) : Ex2 c d w w2 :=
  ⟨Nat.le_trans h.size hg.size, fun j h1 h2 h3 => (hg.block j (Nat.lt_of_lt_of_le h1 h.size) (fun e => by have := ho j e.symm; omega)).trans (h.block j h1 h2 h3)⟩
/-- the document's layer in memory -/
structure RlS (w0 W : World) (K CC : Nat) (nsl rv : Value) (sad : Option Addr) (scap : Nat) (S : List Nat) (len : Nat) (out : List Nat) (b : Bool) : Prop where
  s : Bx W K #[nsl, rv, .slice sad S.length scap, .slice (some ⟨CC, 0, none⟩) len len, .bool b] 56
  c : Bx W CC (bM out len) 4
  sh : ∀ j, j < S.length → ∃ ob ooff, sad = some ⟨ob, ooff, none⟩ ∧ ob ≠ K ∧ ob ≠ CC ∧ ob < W.heap.size ∧ W.cell? ⟨ob, ooff + j, none⟩ = some (.int .i64 ((S.getD j 0 : Nat) : Int))
  bl : Below w0.heap.size w0 W
  hk : w0.heap.size ≤ K
  hc : w0.heap.size ≤ CC
  k1 : K ≠ CC
variable {w0 w W W' w1 : World} {K CC len scap : Nat} {nsl rv : Value} {sad : Option Addr} {S out : List Nat} {b : Bool}
theorem cell_heap {W W' : World} {p : Addr} (h : W'.heap[p.block]? = W.heap[p.block]?) : W'.cell? p = W.cell? p := by
  unfold World.cell?
  rw [h]
theorem RlS.keep (h : RlS w0 W K CC nsl rv sad scap S len out b) (hb : Below w0.heap.size w0 W') (hs : W.heap.size ≤ W'.heap.size) (hk : ∀ j, j < W.heap.size → W'.heap[j]? = W.heap[j]?) : RlS w0 W' K CC nsl rv sad scap S len out b :=
  ⟨(hk K h.s.lt).trans h.s, (hk CC h.c.lt).trans h.c, fun j hj => by
    obtain ⟨ob, ooff, e, h1, h2, h3, h4⟩ := h.sh j hj
    exact ⟨ob, ooff, e, h1, h2, by omega, (cell_heap (hk ob h3)).trans h4⟩, hb, h.hk, h.hc, h.k1⟩
theorem RlS.later (h : RlS w0 W K CC nsl rv sad scap S len out b) (hb : Below W.heap.size W W') : RlS w0 W' K CC nsl rv sad scap S len out b :=
  h.keep (h.bl.trans (hb.mono h.bl.size)) hb.size hb.block
theorem RlS.came (h : RlS w0 W K CC nsl rv sad scap S len out b) (a : Nat) : RlS w0 (W.setCell ⟨CC, a, none⟩ (.bool true)) K CC nsl rv sad scap S len (out ++ [a]) b := by
  refine ⟨h.s.other h.k1 _ _, ?_, fun j hj => ?_, h.bl.setCell (p := ⟨CC, a, none⟩) h.hc _, h.hk, h.hc, h.k1⟩
  · have := h.c.set a (.bool true)
    rw [bM_set] at this
    exact this
  · obtain ⟨ob, ooff, e, h1, h2, h3, h4⟩ := h.sh j hj
    exact ⟨ob, ooff, e, h1, h2, by rw [World.size_setCell]; exact h3, (cell_heap (p := ⟨ob, ooff + j, none⟩) (Below.heap_setCell _ _ _ _ (fun e => h2 (by simpa using e)))).trans h4⟩
theorem RlS.flag (h : RlS w0 W K CC nsl rv sad scap S len out b) (b' : Bool) : RlS w0 (W.setCell ⟨K, 4, none⟩ (.bool b')) K CC nsl rv sad scap S len out b' := by
  refine ⟨h.s.set 4 _, h.c.other (Ne.symm h.k1) _ _, fun j hj => ?_, h.bl.setCell (p := ⟨K, 4, none⟩) h.hk _, h.hk, h.hc, h.k1⟩
  obtain ⟨ob, ooff, e, h1, h2, h3, h4⟩ := h.sh j hj
  exact ⟨ob, ooff, e, h1, h2, by rw [World.size_setCell]; exact h3, (cell_heap (p := ⟨ob, ooff + j, none⟩) (Below.heap_setCell _ _ _ _ (fun e => h1 (by simpa using e)))).trans h4⟩
/-- a store or a growing beside the layer -/
theorem RlS.beside (h : RlS w0 W K CC nsl rv sad scap S len out b) {B : Nat} (hK : K < B) (hC : CC < B) (hS : ∀ j, j < S.length → ∃ ob ooff, sad = some ⟨ob, ooff, none⟩ ∧ ob < B) (hb : Below w0.heap.size w0 W') (hs : W.heap.size ≤ W'.heap.size) (hk : ∀ j, j < B → W'.heap[j]? = W.heap[j]?) : RlS w0 W' K CC nsl rv sad scap S len out b :=
  ⟨(hk K hK).trans h.s, (hk CC hC).trans h.c, fun j hj => by
    obtain ⟨ob, ooff, e, h1, h2, h3, h4⟩ := h.sh j hj
    obtain ⟨ob', ooff', e', h5⟩ := hS j hj
    rw [e] at e'
    cases e'
    exact ⟨ob, ooff, e, h1, h2, by omega, (cell_heap (hk ob h5)).trans h4⟩, hb, h.hk, h.hc, h.k1⟩
def nmS (S : List Nat) (a : Nat) : Ln := if a ∈ S then 97 :: Lib.itoa ((S.idxOf a + 1 : Nat) : Int) else []
theorem idx_at {S : List Nat} {a j : Nat} (h : j < S.length) (hn : a ∉ S.take j) (he : S.getD j 0 = a) : a ∈ S ∧ S.idxOf a = j := by
  have e : S[j] = a := by rw [← he, List.getD_eq_getElem?_getD, List.getElem?_eq_getElem h]; rfl
  refine ⟨by rw [← e]; exact List.getElem_mem h, ?_⟩
  have hs : S = S.take j ++ S.drop j := (List.take_append_drop j S).symm
  rw [hs, List.idxOf_append, if_neg hn, List.drop_eq_getElem_cons h, e, List.idxOf_cons_self, List.length_take]
  omega
theorem name_core {a : Nat} (HS : Hid (RlS w0 W K CC nsl rv sad scap S len out b)) (hSl : S.length ≤ 100000) : Calls Tryz.prog 31 #[.pointer (some ⟨K, 0, none⟩), .int .i64 (a : Int)] W fun e W' => e = .returned (.string (mk (nmS S a))) ∧ Hid (Below W.heap.size W W') := by
  have c2 : W.cell? ⟨K, 2, none⟩ = some (.slice sad S.length scap) := HS.out.s.cell 2
  obtain ⟨R, HR⟩ : ∃ R, Hid (R = nmS S a) := ⟨_, rfl⟩
  rw [← HR.out]
  have HM : Hid (∀ l : Ln, (⟨#[97]⟩ : ByteArray) ++ mk l = mk (97 :: l)) := fun l => by
    have h : (mk [97] ++ mk l).data.toList = 97 :: l := by
      rw [ByteArray.data_append, Array.toList_append, mk_data, mk_data]
      rfl
    show mk [97] ++ mk l = _
    rw [← mk_of (mk [97] ++ mk l), h]
  have HT : Hid (∀ u : Nat, u ≤ 100000 → Calls Tryz.prog 46 #[.int .i64 ((u : Int) + 1)] W fun e W' => e = .returned (.string (mk (Lib.itoa ((u : Int) + 1)))) ∧ Hid (Below W.heap.size W W')) := fun u hu => by
    have h := rtext_pos (u + 1) W (by omega)
    rw [show (((u + 1 : Nat) : Int)) = (u : Int) + 1 by omega] at h
    refine h.mono (fun e W' q => ⟨?_, q.2⟩)
    rw [q.1, itoa_pos (by omega), show ((u : Int) + 1).toNat = u + 1 by omega]
  go_enter Tryz.func31, Tryz.ntmps31
  go_wp2_with fail
  go_loop [5] (fun ui => ∃ j : Nat, j ≤ S.length ∧ ui = .int .i64 (j : Int) ∧ Hid (a ∉ S.take j)) (fun ui => S.length - (intOf ui).toNat)
  case atStart => exact ⟨0, Nat.zero_le _, rfl, (by simp : a ∉ S.take 0)⟩
  case round =>
    obtain ⟨j, hj, rfl, HN⟩ := hrel
    by_cases hlt : j < S.length
    · obtain ⟨ob, ooff, rfl, _, _, _, x0⟩ := HS.out.sh j hlt
      have hj0 : (0 : Int) ≤ (j : Int) := by omega
      have hj1 : (j : Int) < (S.length : Int) := by omega
      by_cases he : S.getD j 0 = a
      · obtain ⟨h1, h2⟩ := idx_at hlt HN.out he
        have HR2 : Hid (R = 97 :: Lib.itoa ((j : Int) + 1)) := by
          show _ = _
          rw [HR.out]
          unfold nmS
          rw [if_pos h1, h2]
          rfl
        have hee : ((((S.getD j 0 : Nat)) : Int) == (a : Int)) = true := by rw [he]; simp
        have HC := HT.out j (by omega)
        have hIl : (Lib.itoa ((j : Int) + 1)).length ≤ 20 := Pln.itoa_len _ (by constructor <;> omega)
        have hIs : (mk (Lib.itoa ((j : Int) + 1))).size ≤ 20 := by rw [mk_size]; exact hIl
        generalize Lib.itoa ((j : Int) + 1) = I at HC HR2 hIl hIs
        generalize S.getD j 0 = q at x0 hee
        clear h1 h2 he HN HR HT
        go_wp2_with (go_at_call 46; refine HC.mono ?_; rintro e W2 ⟨rfl, H2⟩)
        rw [HM.out]
        go_ret
        exact ⟨by rw [HR2.out]; first | done | rfl, H2⟩
      · have hee : ((((S.getD j 0 : Nat)) : Int) == (a : Int)) = false := by
          have : ((S.getD j 0 : Nat) : Int) ≠ (a : Int) := by omega
          simpa using this
        have HN2 : Hid (a ∉ S.take (j + 1)) := fun h => by
          rw [List.take_succ_eq_append_getElem hlt, List.mem_append, List.mem_singleton] at h
          rcases h with h | h
          · exact HN.out h
          · apply he; rw [h, List.getD_eq_getElem?_getD, List.getElem?_eq_getElem hlt]; rfl
        generalize S.getD j 0 = q at x0 hee
        clear he HN
        go_wp2_with fail
        go_round
        case rel => exact ⟨j + 1, by omega, by go_num, HN2⟩
        case measure => (simp [intOf] <;> omega)
    · have hje : j = S.length := by omega
      have HR2 : Hid (R = []) := by
        show _ = _
        have h := HN.out
        rw [hje, List.take_length] at h
        rw [HR.out]
        unfold nmS
        rw [if_neg h]
      clear hje HN HR
      go_wp2_with fail
      go_ret
      exact ⟨by rw [HR2.out]; rfl, Below.refl _ _⟩
end Go.Proofs.YtaphijgbebhdlaaGreatDoor.Grp
end
