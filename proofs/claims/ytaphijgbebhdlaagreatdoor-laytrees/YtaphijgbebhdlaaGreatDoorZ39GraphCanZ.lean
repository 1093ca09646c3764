/- Several texts as one: GraphCanZ, GraphTopZ. -/
import Derived.Test.YtaphijgbebhdlaaGreatDoorZ14GraphGo
section
/- The graph of what was gone to: (*walk).graph, by its contract. -/
namespace Go.Proofs.YtaphijgbebhdlaaGreatDoor.Grp
open Utf Rws Pln Flw
open Go.RowKit
set_option linter.unusedSimpArgs false
set_option linter.unusedVariables false
set_option maxRecDepth 100000
set_option maxHeartbeats 4000000

theorem Tryz.infoNode : (Tryz.prog.info? 47).map (fun i => (i.zero, i.size, i.bytes)) = some (some (.agg #[.int .i64 0, .string ⟨#[]⟩, .slice none 0 0]), 3, 48) := by kernel_rfl
theorem Tryz.underNodes : Tryz.prog.underlying 22 = some (.slice 47) := by kernel_rfl
abbrev V3 := Value × Value × Value
def z3v : V3 := (.int .i64 0, .string ⟨#[]⟩, .slice none 0 0)
/-- a row of nodes -/
def NRow (W : World) (N n : Nat) (vals : Nat → V3) : Prop := ∃ cs, Bx W N cs 47 ∧ cs.size = n * 3 ∧ ∀ i, i < n → cs[i * 3]? = some (vals i).1 ∧ cs[i * 3 + 1]? = some (vals i).2.1 ∧ cs[i * 3 + 2]? = some (vals i).2.2
theorem NRow.later {W W' : World} {N n : Nat} {vals : Nat → V3} (h : NRow W N n vals) (hb : W'.heap[N]? = W.heap[N]?) : NRow W' N n vals := by
  obtain ⟨cs, h1, h2⟩ := h
  exact ⟨cs, hb.trans h1, h2⟩
theorem NRow.lt {W : World} {N n : Nat} {vals : Nat → V3} (h : NRow W N n vals) : N < W.heap.size := by obtain ⟨cs, h1, h2⟩ := h; exact h1.lt
theorem NRow.cells {W : World} {N n : Nat} {vals : Nat → V3} (h : NRow W N n vals) {i : Nat} (hi : i < n) : W.cell? ⟨N, i * 3, none⟩ = some (vals i).1 ∧ W.cell? ⟨N, i * 3 + 1, none⟩ = some (vals i).2.1 ∧ W.cell? ⟨N, i * 3 + 2, none⟩ = some (vals i).2.2 := by
  obtain ⟨cs, h1, h2, h3⟩ := h
  exact ⟨(h1.cell _).trans (h3 i hi).1, (h1.cell _).trans (h3 i hi).2.1, (h1.cell _).trans (h3 i hi).2.2⟩
theorem NRow.fz {W : World} {N n : Nat} {vals : Nat → V3} (h : NRow W N n vals) (i : Nat) : W.frozen? ⟨N, i, none⟩ = false := by obtain ⟨cs, h1, _⟩ := h; exact h1.fz i
theorem NRow.set2 {W : World} {N n : Nat} {vals : Nat → V3} (h : NRow W N n vals) (j : Nat) (v : Value) : NRow (W.setCell ⟨N, j * 3 + 2, none⟩ v) N n (fun x => if x = j then ((vals x).1, (vals x).2.1, v) else vals x) := by
  obtain ⟨cs, h1, h2, h3⟩ := h
  refine ⟨_, h1.set _ _, by rw [Array.size_setIfInBounds]; exact h2, fun i hi => ?_⟩
  have q := h3 i hi
  show _ = some (if i = j then ((vals i).1, (vals i).2.1, v) else vals i).1 ∧ _ = some (if i = j then ((vals i).1, (vals i).2.1, v) else vals i).2.1 ∧ _ = some (if i = j then ((vals i).1, (vals i).2.1, v) else vals i).2.2
  rw [Array.getElem?_setIfInBounds, Array.getElem?_setIfInBounds, Array.getElem?_setIfInBounds, if_neg (show ¬ j * 3 + 2 = i * 3 by omega), if_neg (show ¬ j * 3 + 2 = i * 3 + 1 by omega)]
  by_cases e : i = j
  · rw [if_pos e, if_pos (show j * 3 + 2 = i * 3 + 2 by omega), if_pos (by omega)]
    exact ⟨q.1, q.2.1, rfl⟩
  · rw [if_neg e, if_neg (show ¬ j * 3 + 2 = i * 3 + 2 by omega)]
    exact q
theorem NRow.set3 {W : World} {N n : Nat} {vals : Nat → V3} (h : NRow W N n vals) (j : Nat) (a b c : Value) : NRow (((W.setCell ⟨N, j * 3, none⟩ a).setCell ⟨N, j * 3 + 1, none⟩ b).setCell ⟨N, j * 3 + 2, none⟩ c) N n (fun x => if x = j then (a, b, c) else vals x) := by
  obtain ⟨cs, h1, h2, h3⟩ := h
  refine ⟨_, ((h1.set _ _).set _ _).set _ _, by rw [Array.size_setIfInBounds, Array.size_setIfInBounds, Array.size_setIfInBounds]; exact h2, fun i hi => ?_⟩
  have q := h3 i hi
  show _ = some (if i = j then (a, b, c) else vals i).1 ∧ _ = some (if i = j then (a, b, c) else vals i).2.1 ∧ _ = some (if i = j then (a, b, c) else vals i).2.2
  have hs1 : (cs.setIfInBounds (j * 3) a).size = cs.size := Array.size_setIfInBounds
  have hs2 : ((cs.setIfInBounds (j * 3) a).setIfInBounds (j * 3 + 1) b).size = cs.size := by rw [Array.size_setIfInBounds]; exact hs1
  by_cases e : i = j
  · rw [if_pos e]
    refine ⟨?_, ?_, ?_⟩
    · rw [Array.getElem?_setIfInBounds, if_neg (by omega), Array.getElem?_setIfInBounds, if_neg (by omega), Array.getElem?_setIfInBounds, if_pos (by omega), if_pos (by omega)]
    · rw [Array.getElem?_setIfInBounds, if_neg (by omega), Array.getElem?_setIfInBounds, if_pos (by omega), if_pos (by omega)]
    · rw [Array.getElem?_setIfInBounds, if_pos (by omega), if_pos (by omega)]
  · rw [if_neg e]
    refine ⟨?_, ?_, ?_⟩
    · rw [Array.getElem?_setIfInBounds, if_neg (by omega), Array.getElem?_setIfInBounds, if_neg (by omega), Array.getElem?_setIfInBounds, if_neg (by omega)]; exact q.1
    · rw [Array.getElem?_setIfInBounds, if_neg (by omega), Array.getElem?_setIfInBounds, if_neg (by omega), Array.getElem?_setIfInBounds, if_neg (by omega)]; exact q.2.1
    · rw [Array.getElem?_setIfInBounds, if_neg (by omega), Array.getElem?_setIfInBounds, if_neg (by omega), Array.getElem?_setIfInBounds, if_neg (by omega)]; exact q.2.2
theorem NRow.made (W : World) (n : Nat) : NRow (W.alloc (.cells (madeCells #[.int .i64 0, .string ⟨#[]⟩, .slice none 0 0] (n * 3)) 47)) W.heap.size n (fun _ => z3v) := by
  refine ⟨_, Bx.new _ _ _, size_madeCells _ _, fun i hi => ?_⟩
  have e0 : (i * 3) % 3 = 0 := by omega
  have e1 : (i * 3 + 1) % 3 = 1 := by omega
  have e2 : (i * 3 + 2) % 3 = 2 := by omega
  have f0 : i * 3 < n * 3 := by omega
  have f1 : i * 3 + 1 < n * 3 := by omega
  have f2 : i * 3 + 2 < n * 3 := by omega
  refine ⟨?_, ?_, ?_⟩
  · simp [madeCells, f0, e0, z3v]
  · simp [madeCells, f1, e1, z3v]
  · simp [madeCells, f2, e2, z3v]
/-- ints in blocks from B on -/
def IAtB (B : Nat) (W : World) (ad : Option Addr) (len : Nat) (l : List Int) : Prop := IAt W ad len l ∧ ∀ b off, 0 < len → ad = some ⟨b, off, none⟩ → B ≤ b
theorem IAtB.keep {B : Nat} {W W' : World} {ad : Option Addr} {len : Nat} {l : List Int} (h : IAtB B W ad len l) (hs : W.heap.size ≤ W'.heap.size) (hk : ∀ b, B ≤ b → b < W.heap.size → W'.heap[b]? = W.heap[b]?) : IAtB B W' ad len l := by
  refine ⟨⟨h.1.1, fun hp => ?_⟩, h.2⟩
  obtain ⟨b, off, e, hlt, hc⟩ := h.1.2 hp
  exact ⟨b, off, e, Nat.lt_of_lt_of_le hlt hs, fun i hi => ⟨(hc i hi).1, (World.cell?_of_block (w := W) (hk b (h.2 b off hp e) hlt)).trans (hc i hi).2⟩⟩
/-- the nodes that are made, up to the j-th one -/
structure GbS (w0 W : World) (Nb n j : Nat) (vals : Nat → V3) (cn : List Nd) : Prop where
  row : NRow W Nb n vals
  dn : ∀ i, i < j → (vals i).1 = .int .i64 (cn.getD i nd0).kind ∧ (vals i).2.1 = .string (mk (cn.getD i nd0).text) ∧ ∃ kad klen kcap, (vals i).2.2 = .slice kad klen kcap ∧ klen ≤ kcap ∧ kcap ≤ maxLen ∧ IAtB (Nb + 1) W kad klen (cn.getD i nd0).kids
  zr : ∀ i, j ≤ i → i < n → vals i = z3v
  bl : Below w0.heap.size w0 W
  hN : w0.heap.size ≤ Nb
/-- the Canon's nodes -/
def cnN (ns : List Nd) (O : List Nat) : List Nd := O.map fun a => ⟨(ns.getD a nd0).kind, (ns.getD a nd0).text, (ns.getD a nd0).kids.map fun b => (O.idxOf b.toNat : Int)⟩
theorem cnN_at (ns : List Nd) (O : List Nat) {j : Nat} (h : j < O.length) : (cnN ns O).getD j nd0 = ⟨(ns.getD O[j] nd0).kind, (ns.getD O[j] nd0).text, (ns.getD O[j] nd0).kids.map fun b => (O.idxOf b.toNat : Int)⟩ := by
  unfold cnN
  rw [List.getD_eq_getElem?_getD, List.getElem?_map, List.getElem?_eq_getElem h]
  rfl
theorem iat_own {w : World} {base : Nat} {t : TypeId} {ad : Option Addr} {n cap : Nat} {l : List Int} (h : w.ownsRow base t 1 (.slice ad n cap) n (l.map fun a => Value.int .i64 a)) (hl : ∀ a ∈ l, i64 a) : IAtB base w ad n l ∧ n ≤ cap ∧ cap ≤ maxLen := by
  have hn : l.length = n := by have := h.1; rw [List.length_map] at this; omega
  rcases h.2 with ⟨h1, h2⟩ | ⟨g, cp, cur, h1, hbg, hg, hnc, hcm, hcs, htk⟩
  · cases h1
    exact ⟨⟨⟨hn.symm, fun hp => absurd hp (by omega)⟩, fun b off hp _ => absurd hp (by omega)⟩, Nat.le_refl _, Nat.zero_le _⟩
  · cases h1
    refine ⟨⟨⟨hn.symm, fun hp => ⟨g, 0, rfl, (Array.getElem?_eq_some_iff.1 hg).1, fun i hi => ?_⟩⟩, fun b off _ e => by cases e; exact hbg⟩, hnc, hcm⟩
    have hil : i < l.length := by omega
    have hm : l.getD i 0 ∈ l := mem_getI hil
    refine ⟨hl _ hm, ?_⟩
    have hc := h.cells (g := g) rfl i (.int .i64 (l.getD i 0)) (by rw [List.getElem?_map, List.getElem?_eq_getElem hil, List.getD_eq_getElem?_getD, List.getElem?_eq_getElem hil]; rfl)
    have e : ((⟨g, 0, none⟩ : Addr).add i) = ⟨g, 0 + i, none⟩ := by simp [Addr.add]; intro h; exact h.symm
    rw [e] at hc
    exact hc
theorem map_nat (O : List Nat) : (O.map fun a : Nat => Value.int .i64 (a : Int)) = (O.map fun a : Nat => (a : Int)).map fun a => Value.int .i64 a := by rw [List.map_map]; rfl
/-- a node's Kids under way -/
structure GcS (w0 W : World) (Nb n j BB : Nat) (vals : Nat → V3) (cn : List Nd) (sv : Value) (l : List Int) : Prop where
  row : NRow W Nb n vals
  dn : ∀ i, i < j → (vals i).1 = .int .i64 (cn.getD i nd0).kind ∧ (vals i).2.1 = .string (mk (cn.getD i nd0).text) ∧ ∃ kad klen kcap, (vals i).2.2 = .slice kad klen kcap ∧ klen ≤ kcap ∧ kcap ≤ maxLen ∧ IAtB (Nb + 1) W kad klen (cn.getD i nd0).kids ∧ ∀ b off, 0 < klen → kad = some ⟨b, off, none⟩ → b < BB
  me : (vals j).1 = .int .i64 (cn.getD j nd0).kind ∧ (vals j).2.1 = .string (mk (cn.getD j nd0).text) ∧ (vals j).2.2 = sv
  own : W.ownsRow BB 3 1 sv l.length (l.map fun a => Value.int .i64 a)
  zr : ∀ i, j < i → i < n → vals i = z3v
  bl : Below w0.heap.size w0 W
  hN : w0.heap.size ≤ Nb
  hB : Nb < BB
  hW : BB ≤ W.heap.size
theorem GcS.step {w0 wr eW : World} {Nb n j BB c : Nat} {vals : Nat → V3} {cn : List Nd} {sad : Option Addr} {scap : Nat} {l l2 : List Int} {q : Int} {ev : Value} (h : GcS w0 wr Nb n j BB vals cn (.slice sad c scap) l) (hob : some Nb ≠ Value.ownBlock (.slice sad c scap)) (hl : l.length = c) (hl2 : l2 = l ++ [q])
    (r1 : eW.ownsRow BB 3 1 ev (c + 1) ((l.map fun a => Value.int .i64 a) ++ [.int .i64 q])) (r2 : (wr.drew.alloc (.cells #[.int .i64 q] 3)).grownBy eW (Value.ownBlock (.slice sad c scap))) :
    GcS w0 (eW.setCell ⟨Nb, j * 3 + 2, none⟩ ev) Nb n j BB (fun x => if x = j then ((vals x).1, (vals x).2.1, ev) else vals x) cn ev l2 := by
  subst hl2
  have hNl := h.row.lt
  have hB := h.hB
  have hs0 : (wr.drew.alloc (.cells #[.int .i64 q] 3)).heap.size = wr.heap.size + 1 := World.size_alloc _ _
  have hown := h.own
  have hob2 : ∀ k, k < BB → some k ≠ Value.ownBlock (.slice sad c scap) := fun k hk e => by
    rcases hown.2 with ⟨h1, _⟩ | ⟨g, cp, cur, h1, h2, _⟩
    · rw [h1] at e; cases e
    · rw [h1] at e
      have : k = g := by simpa [Value.ownBlock] using e
      omega
  have hkeep : ∀ k, k < BB → k < wr.heap.size → eW.heap[k]? = wr.heap[k]? := fun k h1 h2 => (r2.block k (by omega) (hob2 k h1)).trans (Below.heap_alloc wr.drew _ k h2)
  have hsz : wr.heap.size ≤ eW.heap.size := by have := r2.size; omega
  have hkset : ∀ k, k ≠ Nb → (eW.setCell ⟨Nb, j * 3 + 2, none⟩ ev).heap[k]? = eW.heap[k]? := fun k hk => Below.heap_setCell _ _ _ _ hk
  have hss : (eW.setCell ⟨Nb, j * 3 + 2, none⟩ ev).heap.size = eW.heap.size := World.size_setCell _ _ _
  have hbl : Below w0.heap.size w0 eW := by
    have b1 : Below w0.heap.size w0 (wr.drew.alloc (.cells #[.int .i64 q] 3)) := h.bl.drew.trans ((below_alloc wr.drew _).mono h.bl.size)
    refine b1.grown r2 b1.size (fun k e => ?_)
    have hN := h.hN
    rcases Nat.lt_or_ge k BB with hk | hk
    · exact absurd e.symm (hob2 k hk)
    · omega
  have ej : (if j = j then (((vals j).1, (vals j).2.1, ev) : V3) else vals j) = ((vals j).1, (vals j).2.1, ev) := if_pos rfl
  refine ⟨(h.row.later (hkeep Nb hB hNl)).set2 j ev, fun i hi => ?_, ⟨(congrArg (fun t : V3 => t.1) ej).trans h.me.1, (congrArg (fun t : V3 => t.2.1) ej).trans h.me.2.1, congrArg (fun t : V3 => t.2.2) ej⟩, ?_, fun i h1 h2 => ?_, hbl.setCell (p := ⟨Nb, j * 3 + 2, none⟩) h.hN _, h.hN, hB, ?_⟩
  · obtain ⟨q1, q2, ka, kl, kc, q3, q4, q5, q6, q7⟩ := h.dn i hi
    simp only [if_neg (show ¬ i = j by omega)]
    refine ⟨q1, q2, ka, kl, kc, q3, q4, q5, ?_, q7⟩
    refine ⟨⟨q6.1.1, fun hp => ?_⟩, q6.2⟩
    obtain ⟨b, off, e, hlt, hc⟩ := q6.1.2 hp
    have hb1 := q6.2 b off hp e
    have hb2 := q7 b off hp e
    have hk : (eW.setCell ⟨Nb, j * 3 + 2, none⟩ ev).heap[b]? = wr.heap[b]? := (hkset b (by omega)).trans (hkeep b hb2 hlt)
    exact ⟨b, off, e, by omega, fun i hi => ⟨(hc i hi).1, (World.cell?_of_block (w := wr) hk).trans (hc i hi).2⟩⟩
  · rw [List.length_append, List.length_singleton, hl, List.map_append]
    exact own_later1 r1 (fun g hg _ => hkset g (by omega))
  · simp only [if_neg (show ¬ i = j by omega)]
    exact h.zr i h1 h2
  · have := h.hW
    omega
/-- a graph's value in blocks from B on -/
def GrP (B : Nat) (w : World) (v : Value) (g : Gr) : Prop := ∀ W' : World, w.heap.size ≤ W'.heap.size → (∀ k, B ≤ k → k < w.heap.size → W'.heap[k]? = w.heap[k]?) → GrV W' v g
theorem GrP.v {B : Nat} {w : World} {v : Value} {g : Gr} (h : GrP B w v g) : GrV w v g := h w (Nat.le_refl _) (fun _ _ _ => rfl)
theorem GrP.set {B K i : Nat} {w : World} {v u : Value} {g : Gr} (h : GrP B w v g) (hK : K < B) : GrP B (w.setCell ⟨K, i, none⟩ u) v g := fun W' hs hk => h W' (by rw [World.size_setCell] at hs; exact hs) (fun k h1 h2 => (hk k h1 (by rw [World.size_setCell]; exact h2)).trans (Below.heap_setCell _ _ _ _ (by show k ≠ K; omega)))
theorem GrP.mono {B B' : Nat} {w : World} {v : Value} {g : Gr} (h : GrP B w v g) (hB : B' ≤ B) : GrP B' w v g := fun W' hs hk => h W' hs (fun k h1 h2 => hk k (Nat.le_trans hB h1) h2)
def canDp : List (List Nat) := [[], [], [], [], [2, 3], [4], [5], [], [7], [8], [9], [], [10, 11], [12], [13], [6, 14], [0, 1, 15], [16], [15, 17]]
end Go.Proofs.YtaphijgbebhdlaaGreatDoor.Grp
end

section
/- Package graph's Canon, Order, Depth and Sub, by their contracts. -/
namespace Go.Proofs.YtaphijgbebhdlaaGreatDoor.Grp
open Utf Rws Pln Flw
open Go.RowKit
set_option linter.unusedSimpArgs false
set_option linter.unusedVariables false
set_option maxRecDepth 100000
set_option maxHeartbeats 4000000

theorem rgG_facts {ns : List Nd} {r : Int} (h : rgG ⟨ns, r⟩ = true) : ns.length ≤ 4096 ∧ isP ns.length r = true ∧ (∀ n ∈ ns, ∀ a ∈ n.kids, isP ns.length a = true) := by
  unfold rgG at h
  simp only [Bool.and_eq_true, decide_eq_true_eq] at h
  exact ⟨h.1.1.1.1, h.1.1.1.2, fun n hn a ha => rKd_all (al1_all ns ns h.1.1.2 n hn).2 a ha⟩
/-- the order of a graph's nodes, from a place -/
def odG (ns : List Nd) (r : Nat) : List Nat := ord (kd ns) (ful (kd ns) ns.length) r
def dpG (ns : List Nd) (r : Nat) : Nat := dep (kd ns) (ful (kd ns) ns.length) r
theorem odG_lt {ns : List Nd} (hk : ∀ n ∈ ns, ∀ a ∈ n.kids, isP ns.length a = true) {r : Nat} (hr : r < ns.length) : ∀ a ∈ odG ns r, a < ns.length := ord_lt (kd_lt hk rfl) hr
theorem odG_cl {ns : List Nd} (hk : ∀ n ∈ ns, ∀ a ∈ n.kids, isP ns.length a = true) {r : Nat} (hr : r < ns.length) : ∀ a ∈ odG ns r, ∀ b ∈ kd ns a, b ∈ odG ns r := ord_closed (kd_lt hk rfl) hr (mea_ful _ _ _ _)
/-- walked, then graph -/
theorem walk_graph {w : World} {ad : Option Addr} {len cap : Nat} {ns : List Nd} {r : Nat} (hlen : len ≤ 4096) (hN : NAt w ad len ns) (hr : r < len) (hK : ∀ n ∈ ns, ∀ a ∈ n.kids, isP len a = true) (hsum : sumK ns ≤ 1000000000) {P : Ending → World → Prop}
    (hP : ∀ K C w', WkS w w' K C (.slice ad len cap) len (odG ns r) (dpG ns r) → P (.returned (.pointer (some ⟨K, 0, none⟩))) w') : Calls Tryz.prog 33 #[gv ad len cap (r : Int)] w P := by
  have hl : len = ns.length := hN.1
  refine (walked_any hlen hN hr hK hsum).mono ?_
  rintro e w' ⟨K, C, rfl, h⟩
  refine hP K C w' ?_
  unfold odG dpG
  rw [← hl]
  exact h
/-- the boxes of a graph and of an answer -/
structure CaS (w W : World) (K0 K2 : Nat) (g0 g1 : Value) : Prop where
  g : Bx W K0 #[g0, g1] 24
  r : Bx W K2 #[.slice none 0 0, .int .i64 0] 24
  bl : Below w.heap.size w W
  hk : w.heap.size ≤ K2
theorem CaS.later {w W W' : World} {K0 K2 : Nat} {g0 g1 : Value} (h : CaS w W K0 K2 g0 g1) (hb : Below W.heap.size W W') : CaS w W' K0 K2 g0 g1 := ⟨h.g.later hb, h.r.later hb, h.bl.trans (hb.mono h.bl.size), h.hk⟩
theorem CaS.new (w : World) (g0 g1 : Value) : CaS w ((w.alloc (.cells #[g0, g1] 24)).alloc (.cells #[.slice none 0 0, .int .i64 0] 24)) w.heap.size (w.heap.size + 1) g0 g1 := by
  have b1 := below_alloc w (.cells #[g0, g1] 24)
  have s1 : (w.alloc (.cells #[g0, g1] 24)).heap.size = w.heap.size + 1 := World.size_alloc _ _
  have b2 := below_alloc (w.alloc (.cells #[g0, g1] 24)) (.cells #[.slice none 0 0, .int .i64 0] 24)
  have n2 := Bx.new (w.alloc (.cells #[g0, g1] 24)) #[.slice none 0 0, .int .i64 0] 24
  rw [s1] at n2
  exact ⟨(Bx.new w _ _).later b2, n2, b1.trans (b2.mono b1.size), by omega⟩
/-- what is answered: nothing and an error, or a graph -/
def GRes (w : World) (q : Bool) (er : Int) (g : Gr) (e : Ending) (w' : World) : Prop := (if q = true then ∃ v, e = .returned (.tuple #[v, .int .i64 0]) ∧ GrP w.heap.size w' v g else e = .returned (.tuple #[gv none 0 0 0, .int .i64 er])) ∧ Below w.heap.size w w'
theorem GrV.set {W : World} {K : Nat} {v u : Value} {g : Gr} {i : Nat} (h : GrV W v g) (hK : W.heap.size ≤ K) : GrV (W.setCell ⟨K, i, none⟩ u) v g := h.later (B := W.heap.size) ((Below.refl _ W).setCell (p := ⟨K, i, none⟩) hK _) (Nat.le_refl _)
end Go.Proofs.YtaphijgbebhdlaaGreatDoor.Grp
end
