/- Several texts as one: IsoIn2. -/
import Derived.Test.YtaflbooofchimaaGreatDoorJ12GraphTop
import Derived.Test.YtaflbooofchimaaGreatDoorJ20GraphRnod2
import Derived.Test.YtaflbooofchimaaGreatDoorJ24IsoLst
import Derived.BigQuiet
import Derived.Deep.QuietTactic
section
/- The reference's Ints, at any two, by its contract; nodes that are equal; what is not large is small in the document's sense. -/
namespace Go.Proofs.YtaflbooofchimaaGreatDoor.Grp
open Utf Rws Pln Flw
open Go.RowKit
set_option linter.unusedSimpArgs false
set_option linter.unusedVariables false
set_option maxRecDepth 100000
set_option maxHeartbeats 4000000

theorem lgB_sm2 {ns : List Nd} (h : lgB ns = false) : Sm2 ns := by
  intro hl
  unfold lgB at h
  rw [Bool.or_eq_false_iff, Bool.and_eq_false_iff, decide_eq_false_iff_not, decide_eq_false_iff_not, decide_eq_false_iff_not] at h
  have h3 : ns.length ≤ 60 := by omega
  rw [List.take_of_length_le h3] at h
  have hb : ∀ n ∈ ns, n.text.length ≤ 400 ∧ n.kids.length ≤ 400 := fun n hn => by
    have := sm_mem hn
    unfold szN at this
    omega
  refine ⟨fun n hn => by have := hb n hn; omega, ?_⟩
  have := sumK_sm (fun n hn => by have := (hb n hn).2; omega : ∀ n ∈ ns, n.kids.length < 500)
  omega
/-- two rows of ints are equal -/
def eqI (l m : List Int) : Bool := decide (l = m)
theorem eqI_len {l m : List Int} (h : l.length ≠ m.length) : eqI l m = false := by
  unfold eqI
  rw [decide_eq_false_iff_not]
  intro e
  exact h (congrArg List.length e)
theorem eqI_part {l m : List Int} {j : Nat} (h : l.getD j 0 ≠ m.getD j 0) : eqI l m = false := by
  unfold eqI
  rw [decide_eq_false_iff_not]
  intro e
  rw [e] at h
  exact h rfl
theorem eqI_all {l m : List Int} (hl : l.length = m.length) (h : ∀ i, i < l.length → l.getD i 0 = m.getD i 0) : eqI l m = true := by
  unfold eqI
  rw [decide_eq_true_iff]
  refine List.ext_getElem hl fun i h1 h2 => ?_
  have := h i h1
  rw [List.getD_eq_getElem?_getD, List.getD_eq_getElem?_getD, List.getElem?_eq_getElem h1, List.getElem?_eq_getElem h2] at this
  exact this
/-- two graphs' boxes -/
structure G2 (w W : World) (K0 K1 : Nat) (g0 g1 h0 h1 : Value) : Prop where
  g : Bx W K0 #[g0, g1] 24
  h : Bx W K1 #[h0, h1] 24
  bl : Below w.heap.size w W
theorem G2.later {w W W' : World} {K0 K1 : Nat} {g0 g1 h0 h1 : Value} (h : G2 w W K0 K1 g0 g1 h0 h1) (hb : Below W.heap.size W W') : G2 w W' K0 K1 g0 g1 h0 h1 := ⟨h.g.later hb, h.h.later hb, h.bl.trans (hb.mono h.bl.size)⟩
/-- and two nodes' -/
structure G4 (w W : World) (K0 K1 L0 L1 : Nat) (g0 g1 h0 h1 : Value) (n m : Array Value) : Prop where
  g : G2 w W K0 K1 g0 g1 h0 h1
  n : Bx W L0 n 35
  m : Bx W L1 m 35
theorem G2.two {w W : World} {K0 K1 : Nat} {g0 g1 h0 h1 : Value} (h : G2 w W K0 K1 g0 g1 h0 h1) (n m : Array Value) : Bx ((W.alloc (.cells n 35)).alloc (.cells m 35)).drew W.heap.size n 35 ∧ Bx ((W.alloc (.cells n 35)).alloc (.cells m 35)).drew (W.heap.size + 1) m 35 ∧ G2 w ((W.alloc (.cells n 35)).alloc (.cells m 35)).drew K0 K1 g0 g1 h0 h1 := by
  have b1 := below_alloc W (.cells n 35)
  have n1 := Bx.new W n 35
  have s1 : (W.alloc (.cells n 35)).heap.size = W.heap.size + 1 := World.size_alloc _ _
  have h1 := h.later b1
  generalize W.alloc (.cells n 35) = w1 at *
  have b2 := below_alloc w1 (.cells m 35)
  have n2 := Bx.new w1 m 35
  rw [s1] at n2
  have h2 := h1.later b2
  have n1 := n1.later b2
  exact ⟨n1, n2, ⟨h2.g, h2.h, h2.bl.drew⟩⟩
/-- two nodes are equal -/
def eqN (n m : Nd) : Bool := decide (n.kind = m.kind) && (decide (n.text = m.text) && eqI n.kids m.kids)
theorem two_nodes (w : World) (n m : Array Value) : Bx ((w.alloc (.cells n 35)).alloc (.cells m 35)) w.heap.size n 35 ∧ Bx ((w.alloc (.cells n 35)).alloc (.cells m 35)) (w.heap.size + 1) m 35 ∧ Below w.heap.size w ((w.alloc (.cells n 35)).alloc (.cells m 35)) := by
  have b1 := below_alloc w (.cells n 35)
  have n1 := Bx.new w n 35
  have s1 : (w.alloc (.cells n 35)).heap.size = w.heap.size + 1 := World.size_alloc _ _
  have b2 := below_alloc (w.alloc (.cells n 35)) (.cells m 35)
  have n2 := Bx.new (w.alloc (.cells n 35)) m 35
  rw [s1] at n2
  exact ⟨n1.later b2, n2, b1.trans (b2.mono b1.size)⟩
theorem eqN_iff (n m : Nd) : eqN n m = true ↔ n = m := by
  obtain ⟨k, x, l⟩ := n
  obtain ⟨k', x', l'⟩ := m
  unfold eqN eqI
  simp only [Bool.and_eq_true, decide_eq_true_iff, Nd.mk.injEq]
theorem take_nd {l m : List Nd} {k : Nat} (hk : k < l.length) (hm : k < m.length) (h : l.take k = m.take k) (e : l.getD k nd0 = m.getD k nd0) : l.take (k + 1) = m.take (k + 1) := by
  rw [List.getD_eq_getElem?_getD, List.getD_eq_getElem?_getD, List.getElem?_eq_getElem hk, List.getElem?_eq_getElem hm] at e
  have e2 : l[k] = m[k] := e
  rw [List.take_succ_eq_append_getElem hk, List.take_succ_eq_append_getElem hm, h, e2]
theorem g2_new (w : World) (g0 g1 h0 h1 : Value) : G2 w ((w.alloc (.cells #[g0, g1] 24)).alloc (.cells #[h0, h1] 24)) w.heap.size (w.heap.size + 1) g0 g1 h0 h1 := by
  have b1 := below_alloc w (.cells #[g0, g1] 24)
  have s1 : (w.alloc (.cells #[g0, g1] 24)).heap.size = w.heap.size + 1 := World.size_alloc _ _
  have b2 := below_alloc (w.alloc (.cells #[g0, g1] 24)) (.cells #[h0, h1] 24)
  have n2 := Bx.new (w.alloc (.cells #[g0, g1] 24)) #[h0, h1] 24
  rw [s1] at n2
  exact ⟨(Bx.new w _ _).later b2, n2, b1.trans (b2.mono b1.size)⟩
theorem ints_any {w : World} {ad ad' : Option Addr} {len cap len' cap' : Nat} {l l' : List Int} (h : IAt w ad len l) (h' : IAt w ad' len' l') (hl : len ≤ 9223372036854775807) (hl' : len' ≤ 9223372036854775807) :
    Calls Tryz.prog 20 #[.slice ad len cap, .slice ad' len' cap'] w fun e w' => e = .returned (.bool (eqI l l')) ∧ Below w.heap.size w w' := by
  obtain ⟨q, HQ⟩ : ∃ q, Hid (q = eqI l l') := ⟨_, rfl⟩
  rw [← HQ.out]
  by_cases hne : len = len'
  · subst hne
    have HA : Hid (IAt w ad len l) := h
    have HB : Hid (IAt w ad' len l') := h'
    clear h h'
    go_enter Tryz.func20, Tryz.ntmps20
    go_wp2_with fail
    go_loopw [5] (fun i wr => ∃ j : Nat, j ≤ len ∧ i = .int .i64 j ∧ Hid (∀ i, i < j → l.getD i 0 = l'.getD i 0) ∧ Hid (Below w.heap.size w wr)) (fun i _ => len - (intOf i).toNat)
    case atStart => exact ⟨0, Nat.zero_le _, rfl, fun i hi => absurd hi (Nat.not_lt_zero _), Below.refl _ _⟩
    case round =>
      obtain ⟨j, hj, rfl, HE, HW⟩ := hrel
      by_cases hlt : j < len
      · obtain ⟨b, off, rfl, hb, hc⟩ := HA.out.2 (by omega)
        obtain ⟨b', off', rfl, hb', hc'⟩ := HB.out.2 (by omega)
        have x0 := (HW.out.cell (p := ⟨b, off + j, none⟩) hb).trans (hc j hlt).2
        have x1 := (HW.out.cell (p := ⟨b', off' + j, none⟩) hb').trans (hc' j hlt).2
        clear hc hc'
        obtain ⟨a, HAE⟩ : ∃ a, Hid (a = l.getD j 0) := ⟨_, rfl⟩
        obtain ⟨c, HCE⟩ : ∃ c, Hid (c = l'.getD j 0) := ⟨_, rfl⟩
        rw [← HAE.out] at x0
        rw [← HCE.out] at x1
        by_cases hac : a = c
        · have HE2 : Hid (∀ i, i < j + 1 → l.getD i 0 = l'.getD i 0) := fun i hi => by
            rcases Nat.lt_or_ge i j with h | h
            · exact HE.out i h
            · have e : i = j := by omega
              rw [e, ← HAE.out, ← HCE.out, hac]
          subst hac
          clear HAE HCE
          go_wp2_with fail
          go_quiet (fail)
          go_wp2
          go_roundw
          case rel => exact ⟨j + 1, by omega, by go_num, HE2, below_drewN HW.out _⟩
          case measure => (simp [intOf] <;> omega)
        · have HQF : Hid (q = false) := HQ.out.trans (eqI_part (j := j) (by rw [← HAE.out, ← HCE.out]; exact hac))
          go_wp2_with fail
          go_quiet (fail)
          go_wp2
          go_ret
          exact ⟨by rw [HQF.out]; rfl, below_drewN HW.out _⟩
      · have hje : j = len := by omega
        have HQT : Hid (q = true) := HQ.out.trans (eqI_all (HA.out.1.symm.trans HB.out.1) (fun i hi => HE.out i (by rw [hje, HA.out.1]; exact hi)))
        clear hje
        go_wp2
        go_ret
        exact ⟨by rw [HQT.out]; rfl, HW.out⟩
  · have HQF : Hid (q = false) := HQ.out.trans (eqI_len (by rw [← h.1, ← h'.1]; exact hne))
    clear h h'
    go_enter Tryz.func20, Tryz.ntmps20
    go_wp2
    go_ret
    exact ⟨by rw [HQF.out]; rfl, Below.refl _ _⟩
end Go.Proofs.YtaflbooofchimaaGreatDoor.Grp
end
