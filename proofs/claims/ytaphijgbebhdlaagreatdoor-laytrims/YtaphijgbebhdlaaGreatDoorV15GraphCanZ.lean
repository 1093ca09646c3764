/- Several texts as one: GraphCanZ, GraphTopZ, GraphAnc, GraphCmS, GraphPls. -/
import Derived.Test.YtaphijgbebhdlaaGreatDoorV14GraphGo
section
/- The graph of what was gone to: (*walk).graph, by its contract. -/
namespace Go.Proofs.YtaphijgbebhdlaaGreatDoor.Grp
open Utf Rws Pln Flw
open Go.RowKit
set_option linter.unusedSimpArgs false
set_option linter.unusedVariables false
set_option maxRecDepth 100000
set_option maxHeartbeats 4000000

theorem Tryz.infoNode : (Tryz.prog.info? 47).map (fun i => (i.zero, i.size, i.bytes)) = some (some (.agg #[.int .i64 0, .string ⟨#[]⟩, .slice none 0 0]), 3, 48) := by kernel_rfl
theorem Tryz.underNodes : Tryz.prog.underlying 22 = some (.slice 47) := by kernel_rfl
abbrev V3 := Value × Value × Value
def z3v : V3 := (.int .i64 0, .string ⟨#[]⟩, .slice none 0 0)
/-- a row of nodes -/
def NRow (W : World) (N n : Nat) (vals : Nat → V3) : Prop := ∃ cs, Bx W N cs 47 ∧ cs.size = n * 3 ∧ ∀ i, i < n → cs[i * 3]? = some (vals i).1 ∧ cs[i * 3 + 1]? = some (vals i).2.1 ∧ cs[i * 3 + 2]? = some (vals i).2.2
theorem NRow.later {W W' : World} {N n : Nat} {vals : Nat → V3} (h : NRow W N n vals) (hb : W'.heap[N]? = W.heap[N]?) : NRow W' N n vals := by
  obtain ⟨cs, h1, h2⟩ := h
  exact ⟨cs, hb.trans h1, h2⟩
theorem NRow.lt {W : World} {N n : Nat} {vals : Nat → V3} (h : NRow W N n vals) : N < W.heap.size := by obtain ⟨cs, h1, h2⟩ := h; exact h1.lt
theorem NRow.cells {W : World} {N n : Nat} {vals : Nat → V3} (h : NRow W N n vals) {i : Nat} (hi : i < n) : W.cell? ⟨N, i * 3, none⟩ = some (vals i).1 ∧ W.cell? ⟨N, i * 3 + 1, none⟩ = some (vals i).2.1 ∧ W.cell? ⟨N, i * 3 + 2, none⟩ = some (vals i).2.2 := by
  obtain ⟨cs, h1, h2, h3⟩ := h
  exact ⟨(h1.cell _).trans (h3 i hi).1, (h1.cell _).trans (h3 i hi).2.1, (h1.cell _).trans (h3 i hi).2.2⟩
theorem NRow.fz {W : World} {N n : Nat} {vals : Nat → V3} (h : NRow W N n vals) (i : Nat) : W.frozen? ⟨N, i, none⟩ = false := by obtain ⟨cs, h1, _⟩ := h; exact h1.fz i
theorem NRow.set2 {W : World} {N n : Nat} {vals : Nat → V3} (h : NRow W N n vals) (j : Nat) (v : Value) : NRow (W.setCell ⟨N, j * 3 + 2, none⟩ v) N n (fun x => if x = j then ((vals x).1, (vals x).2.1, v) else vals x) := by
  obtain ⟨cs, h1, h2, h3⟩ := h
  refine ⟨_, h1.set _ _, by rw [Array.size_setIfInBounds]; exact h2, fun i hi => ?_⟩
  have q := h3 i hi
  show _ = some (if i = j then ((vals i).1, (vals i).2.1, v) else vals i).1 ∧ _ = some (if i = j then ((vals i).1, (vals i).2.1, v) else vals i).2.1 ∧ _ = some (if i = j then ((vals i).1, (vals i).2.1, v) else vals i).2.2
  rw [Array.getElem?_setIfInBounds, Array.getElem?_setIfInBounds, Array.getElem?_setIfInBounds, if_neg (show ¬ j * 3 + 2 = i * 3 by omega), if_neg (show ¬ j * 3 + 2 = i * 3 + 1 by omega)]
  by_cases e : i = j
  · rw [if_pos e, if_pos (show j * 3 + 2 = i * 3 + 2 by omega), if_pos (by omega)]
    exact ⟨q.1, q.2.1, rfl⟩
  · rw [if_neg e, if_neg (show ¬ j * 3 + 2 = i * 3 + 2 by omega)]
    exact q
theorem NRow.made (W : World) (n : Nat) : NRow (W.alloc (.cells (madeCells #[.int .i64 0, .string ⟨#[]⟩, .slice none 0 0] (n * 3)) 47)) W.heap.size n (fun _ => z3v) := by
  refine ⟨_, Bx.new _ _ _, size_madeCells _ _, fun i hi => ?_⟩
  have e0 : (i * 3) % 3 = 0 := by omega
  have e1 : (i * 3 + 1) % 3 = 1 := by omega
  have e2 : (i * 3 + 2) % 3 = 2 := by omega
  have f0 : i * 3 < n * 3 := by omega
  have f1 : i * 3 + 1 < n * 3 := by omega
  have f2 : i * 3 + 2 < n * 3 := by omega
  refine ⟨?_, ?_, ?_⟩
  · simp [madeCells, f0, e0, z3v]
  · simp [madeCells, f1, e1, z3v]
  · simp [madeCells, f2, e2, z3v]
/-- ints in blocks from B on -/
def IAtB (B : Nat) (W : World) (ad : Option Addr) (len : Nat) (l : List Int) : Prop := IAt W ad len l ∧ ∀ b off, 0 < len → ad = some ⟨b, off, none⟩ → B ≤ b
theorem IAtB.keep {B : Nat} {W W' : World} {ad : Option Addr} {len : Nat} {l : List Int} (h : IAtB B W ad len l) (hs : W.heap.size ≤ W'.heap.size) (hk : ∀ b, B ≤ b → b < W.heap.size → W'.heap[b]? = W.heap[b]?) : IAtB B W' ad len l := by
  refine ⟨⟨h.1.1, fun hp => ?_⟩, h.2⟩
  obtain ⟨b, off, e, hlt, hc⟩ := h.1.2 hp
  exact ⟨b, off, e, Nat.lt_of_lt_of_le hlt hs, fun i hi => ⟨(hc i hi).1, (World.cell?_of_block (w := W) (hk b (h.2 b off hp e) hlt)).trans (hc i hi).2⟩⟩
/-- the Canon's nodes -/
def cnN (ns : List Nd) (O : List Nat) : List Nd := O.map fun a => ⟨(ns.getD a nd0).kind, (ns.getD a nd0).text, (ns.getD a nd0).kids.map fun b => (O.idxOf b.toNat : Int)⟩
theorem cnN_at (ns : List Nd) (O : List Nat) {j : Nat} (h : j < O.length) : (cnN ns O).getD j nd0 = ⟨(ns.getD O[j] nd0).kind, (ns.getD O[j] nd0).text, (ns.getD O[j] nd0).kids.map fun b => (O.idxOf b.toNat : Int)⟩ := by
  unfold cnN
  rw [List.getD_eq_getElem?_getD, List.getElem?_map, List.getElem?_eq_getElem h]
  rfl
theorem iat_own {w : World} {base : Nat} {t : TypeId} {ad : Option Addr} {n cap : Nat} {l : List Int} (h : w.ownsRow base t 1 (.slice ad n cap) n (l.map fun a => Value.int .i64 a)) (hl : ∀ a ∈ l, i64 a) : IAtB base w ad n l ∧ n ≤ cap ∧ cap ≤ maxLen := by
  have hn : l.length = n := by have := h.1; rw [List.length_map] at this; omega
  rcases h.2 with ⟨h1, h2⟩ | ⟨g, cp, cur, h1, hbg, hg, hnc, hcm, hcs, htk⟩
  · cases h1
    exact ⟨⟨⟨hn.symm, fun hp => absurd hp (by omega)⟩, fun b off hp _ => absurd hp (by omega)⟩, Nat.le_refl _, Nat.zero_le _⟩
  · cases h1
    refine ⟨⟨⟨hn.symm, fun hp => ⟨g, 0, rfl, (Array.getElem?_eq_some_iff.1 hg).1, fun i hi => ?_⟩⟩, fun b off _ e => by cases e; exact hbg⟩, hnc, hcm⟩
    have hil : i < l.length := by omega
    have hm : l.getD i 0 ∈ l := mem_getI hil
    refine ⟨hl _ hm, ?_⟩
    have hc := h.cells (g := g) rfl i (.int .i64 (l.getD i 0)) (by rw [List.getElem?_map, List.getElem?_eq_getElem hil, List.getD_eq_getElem?_getD, List.getElem?_eq_getElem hil]; rfl)
    have e : ((⟨g, 0, none⟩ : Addr).add i) = ⟨g, 0 + i, none⟩ := by simp [Addr.add]; intro h; exact h.symm
    rw [e] at hc
    exact hc
theorem map_nat (O : List Nat) : (O.map fun a : Nat => Value.int .i64 (a : Int)) = (O.map fun a : Nat => (a : Int)).map fun a => Value.int .i64 a := by rw [List.map_map]; rfl
/-- a node's Kids under way -/
structure GcS (w0 W : World) (Nb n j BB : Nat) (vals : Nat → V3) (cn : List Nd) (sv : Value) (l : List Int) : Prop where
  row : NRow W Nb n vals
  dn : ∀ i, i < j → (vals i).1 = .int .i64 (cn.getD i nd0).kind ∧ (vals i).2.1 = .string (mk (cn.getD i nd0).text) ∧ ∃ kad klen kcap, (vals i).2.2 = .slice kad klen kcap ∧ klen ≤ kcap ∧ kcap ≤ maxLen ∧ IAtB (Nb + 1) W kad klen (cn.getD i nd0).kids ∧ ∀ b off, 0 < klen → kad = some ⟨b, off, none⟩ → b < BB
  me : (vals j).1 = .int .i64 (cn.getD j nd0).kind ∧ (vals j).2.1 = .string (mk (cn.getD j nd0).text) ∧ (vals j).2.2 = sv
  own : W.ownsRow BB 3 1 sv l.length (l.map fun a => Value.int .i64 a)
  zr : ∀ i, j < i → i < n → vals i = z3v
  bl : Below w0.heap.size w0 W
  hN : w0.heap.size ≤ Nb
  hB : Nb < BB
  hW : BB ≤ W.heap.size
theorem GcS.step {w0 wr eW : World} {Nb n j BB c : Nat} {vals : Nat → V3} {cn : List Nd} {sad : Option Addr} {scap : Nat} {l l2 : List Int} {q : Int} {ev : Value} (h : GcS w0 wr Nb n j BB vals cn (.slice sad c scap) l) (hob : some Nb ≠ Value.ownBlock (.slice sad c scap)) (hl : l.length = c) (hl2 : l2 = l ++ [q])
    (r1 : eW.ownsRow BB 3 1 ev (c + 1) ((l.map fun a => Value.int .i64 a) ++ [.int .i64 q])) (r2 : (wr.drew.alloc (.cells #[.int .i64 q] 3)).grownBy eW (Value.ownBlock (.slice sad c scap))) :
    GcS w0 (eW.setCell ⟨Nb, j * 3 + 2, none⟩ ev) Nb n j BB (fun x => if x = j then ((vals x).1, (vals x).2.1, ev) else vals x) cn ev l2 := by
  subst hl2
  have hNl := h.row.lt
  have hB := h.hB
  have hs0 : (wr.drew.alloc (.cells #[.int .i64 q] 3)).heap.size = wr.heap.size + 1 := World.size_alloc _ _
  have hown := h.own
  have hob2 : ∀ k, k < BB → some k ≠ Value.ownBlock (.slice sad c scap) := fun k hk e => by
    rcases hown.2 with ⟨h1, _⟩ | ⟨g, cp, cur, h1, h2, _⟩
    · rw [h1] at e; cases e
    · rw [h1] at e
      have : k = g := by simpa [Value.ownBlock] using e
      omega
  have hkeep : ∀ k, k < BB → k < wr.heap.size → eW.heap[k]? = wr.heap[k]? := fun k h1 h2 => (r2.block k (by omega) (hob2 k h1)).trans (Below.heap_alloc wr.drew _ k h2)
  have hsz : wr.heap.size ≤ eW.heap.size := by have := r2.size; omega
  have hkset : ∀ k, k ≠ Nb → (eW.setCell ⟨Nb, j * 3 + 2, none⟩ ev).heap[k]? = eW.heap[k]? := fun k hk => Below.heap_setCell _ _ _ _ hk
  have hss : (eW.setCell ⟨Nb, j * 3 + 2, none⟩ ev).heap.size = eW.heap.size := World.size_setCell _ _ _
  have hbl : Below w0.heap.size w0 eW := by
    have b1 : Below w0.heap.size w0 (wr.drew.alloc (.cells #[.int .i64 q] 3)) := h.bl.drew.trans ((below_alloc wr.drew _).mono h.bl.size)
    refine b1.grown r2 b1.size (fun k e => ?_)
    have hN := h.hN
    rcases Nat.lt_or_ge k BB with hk | hk
    · exact absurd e.symm (hob2 k hk)
    · omega
  have ej : (if j = j then (((vals j).1, (vals j).2.1, ev) : V3) else vals j) = ((vals j).1, (vals j).2.1, ev) := if_pos rfl
  refine ⟨(h.row.later (hkeep Nb hB hNl)).set2 j ev, fun i hi => ?_, ⟨(congrArg (fun t : V3 => t.1) ej).trans h.me.1, (congrArg (fun t : V3 => t.2.1) ej).trans h.me.2.1, congrArg (fun t : V3 => t.2.2) ej⟩, ?_, fun i h1 h2 => ?_, hbl.setCell (p := ⟨Nb, j * 3 + 2, none⟩) h.hN _, h.hN, hB, ?_⟩
  · obtain ⟨q1, q2, ka, kl, kc, q3, q4, q5, q6, q7⟩ := h.dn i hi
    simp only [if_neg (show ¬ i = j by omega)]
    refine ⟨q1, q2, ka, kl, kc, q3, q4, q5, ?_, q7⟩
    refine ⟨⟨q6.1.1, fun hp => ?_⟩, q6.2⟩
    obtain ⟨b, off, e, hlt, hc⟩ := q6.1.2 hp
    have hb1 := q6.2 b off hp e
    have hb2 := q7 b off hp e
    have hk : (eW.setCell ⟨Nb, j * 3 + 2, none⟩ ev).heap[b]? = wr.heap[b]? := (hkset b (by omega)).trans (hkeep b hb2 hlt)
    exact ⟨b, off, e, by omega, fun i hi => ⟨(hc i hi).1, (World.cell?_of_block (w := wr) hk).trans (hc i hi).2⟩⟩
  · rw [List.length_append, List.length_singleton, hl, List.map_append]
    exact own_later1 r1 (fun g hg _ => hkset g (by omega))
  · simp only [if_neg (show ¬ i = j by omega)]
    exact h.zr i h1 h2
  · have := h.hW
    omega
/-- a graph's value in blocks from B on -/
def GrP (B : Nat) (w : World) (v : Value) (g : Gr) : Prop := ∀ W' : World, w.heap.size ≤ W'.heap.size → (∀ k, B ≤ k → k < w.heap.size → W'.heap[k]? = w.heap[k]?) → GrV W' v g
theorem GrP.v {B : Nat} {w : World} {v : Value} {g : Gr} (h : GrP B w v g) : GrV w v g := h w (Nat.le_refl _) (fun _ _ _ => rfl)
theorem GrP.set {B K i : Nat} {w : World} {v u : Value} {g : Gr} (h : GrP B w v g) (hK : K < B) : GrP B (w.setCell ⟨K, i, none⟩ u) v g := fun W' hs hk => h W' (by rw [World.size_setCell] at hs; exact hs) (fun k h1 h2 => (hk k h1 (by rw [World.size_setCell]; exact h2)).trans (Below.heap_setCell _ _ _ _ (by show k ≠ K; omega)))
theorem GrP.mono {B B' : Nat} {w : World} {v : Value} {g : Gr} (h : GrP B w v g) (hB : B' ≤ B) : GrP B' w v g := fun W' hs hk => h W' hs (fun k h1 h2 => hk k (Nat.le_trans hB h1) h2)
end Go.Proofs.YtaphijgbebhdlaaGreatDoor.Grp
end

section
/- Package graph's Canon, Order, Depth and Sub, by their contracts. -/
namespace Go.Proofs.YtaphijgbebhdlaaGreatDoor.Grp
open Utf Rws Pln Flw
open Go.RowKit
set_option linter.unusedSimpArgs false
set_option linter.unusedVariables false
set_option maxRecDepth 100000
set_option maxHeartbeats 4000000

theorem rgG_facts {ns : List Nd} {r : Int} (h : rgG ⟨ns, r⟩ = true) : ns.length ≤ 4096 ∧ isP ns.length r = true ∧ (∀ n ∈ ns, ∀ a ∈ n.kids, isP ns.length a = true) := by
  unfold rgG at h
  simp only [Bool.and_eq_true, decide_eq_true_eq] at h
  exact ⟨h.1.1.1.1, h.1.1.1.2, fun n hn a ha => rKd_all (al1_all ns ns h.1.1.2 n hn).2 a ha⟩
/-- the order of a graph's nodes, from a place -/
def odG (ns : List Nd) (r : Nat) : List Nat := ord (kd ns) (ful (kd ns) ns.length) r
def dpG (ns : List Nd) (r : Nat) : Nat := dep (kd ns) (ful (kd ns) ns.length) r
theorem odG_lt {ns : List Nd} (hk : ∀ n ∈ ns, ∀ a ∈ n.kids, isP ns.length a = true) {r : Nat} (hr : r < ns.length) : ∀ a ∈ odG ns r, a < ns.length := ord_lt (kd_lt hk rfl) hr
/-- walked, then graph -/
theorem walk_graph {w : World} {ad : Option Addr} {len cap : Nat} {ns : List Nd} {r : Nat} (hlen : len ≤ 4096) (hN : NAt w ad len ns) (hr : r < len) (hK : ∀ n ∈ ns, ∀ a ∈ n.kids, isP len a = true) (hsum : sumK ns ≤ 1000000000) {P : Ending → World → Prop}
    (hP : ∀ K C w', WkS w w' K C (.slice ad len cap) len (odG ns r) (dpG ns r) → P (.returned (.pointer (some ⟨K, 0, none⟩))) w') : Calls Tryz.prog 33 #[gv ad len cap (r : Int)] w P := by
  have hl : len = ns.length := hN.1
  refine (walked_any hlen hN hr hK hsum).mono ?_
  rintro e w' ⟨K, C, rfl, h⟩
  refine hP K C w' ?_
  unfold odG dpG
  rw [← hl]
  exact h
/-- the boxes of a graph and of an answer -/
structure CaS (w W : World) (K0 K2 : Nat) (g0 g1 : Value) : Prop where
  g : Bx W K0 #[g0, g1] 24
  r : Bx W K2 #[.slice none 0 0, .int .i64 0] 24
  bl : Below w.heap.size w W
  hk : w.heap.size ≤ K2
theorem CaS.later {w W W' : World} {K0 K2 : Nat} {g0 g1 : Value} (h : CaS w W K0 K2 g0 g1) (hb : Below W.heap.size W W') : CaS w W' K0 K2 g0 g1 := ⟨h.g.later hb, h.r.later hb, h.bl.trans (hb.mono h.bl.size), h.hk⟩
theorem CaS.new (w : World) (g0 g1 : Value) : CaS w ((w.alloc (.cells #[g0, g1] 24)).alloc (.cells #[.slice none 0 0, .int .i64 0] 24)) w.heap.size (w.heap.size + 1) g0 g1 := by
  have b1 := below_alloc w (.cells #[g0, g1] 24)
  have s1 : (w.alloc (.cells #[g0, g1] 24)).heap.size = w.heap.size + 1 := World.size_alloc _ _
  have b2 := below_alloc (w.alloc (.cells #[g0, g1] 24)) (.cells #[.slice none 0 0, .int .i64 0] 24)
  have n2 := Bx.new (w.alloc (.cells #[g0, g1] 24)) #[.slice none 0 0, .int .i64 0] 24
  rw [s1] at n2
  exact ⟨(Bx.new w _ _).later b2, n2, b1.trans (b2.mono b1.size), by omega⟩
/-- what is answered: nothing and an error, or a graph -/
def GRes (w : World) (q : Bool) (er : Int) (g : Gr) (e : Ending) (w' : World) : Prop := (if q = true then ∃ v, e = .returned (.tuple #[v, .int .i64 0]) ∧ GrP w.heap.size w' v g else e = .returned (.tuple #[gv none 0 0 0, .int .i64 er])) ∧ Below w.heap.size w w'
theorem GrV.set {W : World} {K : Nat} {v u : Value} {g : Gr} {i : Nat} (h : GrV W v g) (hK : W.heap.size ≤ K) : GrV (W.setCell ⟨K, i, none⟩ u) v g := h.later (B := W.heap.size) ((Below.refl _ W).setCell (p := ⟨K, i, none⟩) hK _) (Nat.le_refl _)
end Go.Proofs.YtaphijgbebhdlaaGreatDoor.Grp
end

section
/- Composing a tree, as plain functions; the anchors' map; the composer's meant, by its contract. -/
namespace Go.Proofs.YtaphijgbebhdlaaGreatDoor.Grp
open Utf Rws Pln Flw
open Go.RowKit Go.Maps
set_option linter.unusedSimpArgs false
set_option linter.unusedVariables false
set_option maxRecDepth 100000
set_option maxHeartbeats 4000000

/-- what is made so far: nodes, and the anchors, the last one first -/
structure Cs where
  ns : List Nd
  an : List (Ln × Nat)
def look : List (Ln × Nat) → Ln → Option Nat
  | [], _ => none
  | p :: t, x => if p.1 = x then some p.2 else look t x
/-- the Kids' places, an error, and what is made -/
def pls (f : Tr → Cs → Nat × Nat × Cs) (k : Int) : Nat → List Tr → List (Int × Ln) → List Nat → Cs → List Nat × Nat × Cs
  | _, [], _, ps, s => (ps, 0, s)
  | i, t :: ts, ks, ps, s => if kyP k i = true ∧ (t.kind, t.text) ∈ ks then ([], 7, s) else
      if (f t s).2.1 = 0 then pls f k (i + 1) ts (if kyP k i = true then ks ++ [(t.kind, t.text)] else ks) (ps ++ [(f t s).1]) (f t s).2.2 else ([], (f t s).2.1, (f t s).2.2)
/-- a value's node comes -/
def put1 (t : Tr) (s : Cs) : Cs := ⟨s.ns ++ [⟨t.kind, t.text, []⟩], if t.anc = [] then s.an else (t.anc, s.ns.length) :: s.an⟩
/-- its Kids are told -/
def setK (n : Nat) (t : Tr) (r : List Nat × Nat × Cs) : Nat × Nat × Cs := (n, r.2.1, ⟨r.2.2.ns.set n ⟨t.kind, t.text, r.1.map fun a : Nat => (a : Int)⟩, r.2.2.an⟩)
def plc : Nat → Tr → Cs → Nat × Nat × Cs
  | 0, _, s => (0, 0, s)
  | d + 1, t, s => if t.kind = 7 then (match look s.an t.anc with | some a => (a, 0, s) | none => (0, 11, s)) else setK s.ns.length t (pls (plc d) t.kind 0 t.kids [] [] (put1 t s))
/-- how many values a tree has -/
def tsz : Nat → Tr → Nat
  | 0, _ => 0
  | d + 1, t => 1 + (t.kids.map (tsz d)).sum
theorem pls_len {f : Tr → Cs → Nat × Nat × Cs} {z : Tr → Nat} (hf : ∀ t s, (f t s).2.2.ns.length ≤ s.ns.length + z t) (k : Int) : ∀ (ts : List Tr) (i : Nat) (ks : List (Int × Ln)) (ps : List Nat) (s : Cs), (pls f k i ts ks ps s).2.2.ns.length ≤ s.ns.length + (ts.map z).sum
  | [], i, ks, ps, s => by simp [pls]
  | t :: ts, i, ks, ps, s => by
    rw [pls, List.map_cons, List.sum_cons]
    have h1 := hf t s
    split
    · simp only; omega
    · split
      · have := pls_len hf k ts (i + 1) (if kyP k i = true then ks ++ [(t.kind, t.text)] else ks) (ps ++ [(f t s).1]) (f t s).2.2
        omega
      · simp only; omega
theorem plc_len : ∀ (d : Nat) (t : Tr) (s : Cs), (plc d t s).2.2.ns.length ≤ s.ns.length + tsz d t
  | 0, t, s => by simp [plc]
  | d + 1, t, s => by
    rw [plc, tsz]
    split
    · split <;> simp
    · have h1 := pls_len (fun t s => plc_len d t s) t.kind t.kids 0 [] [] (put1 t s)
      unfold setK
      simp only [List.length_set]
      have h2 : (put1 t s).ns.length = s.ns.length + 1 := by simp [put1]
      omega
theorem pls_mono {f : Tr → Cs → Nat × Nat × Cs} (hf : ∀ t s, s.ns.length ≤ (f t s).2.2.ns.length) (k : Int) : ∀ (ts : List Tr) (i : Nat) (ks : List (Int × Ln)) (ps : List Nat) (s : Cs), s.ns.length ≤ (pls f k i ts ks ps s).2.2.ns.length
  | [], i, ks, ps, s => by simp [pls]
  | t :: ts, i, ks, ps, s => by
    rw [pls]
    have h1 := hf t s
    split
    · exact Nat.le_refl _
    · split
      · exact Nat.le_trans h1 (pls_mono hf k ts _ _ _ _)
      · exact h1
theorem plc_mono : ∀ (d : Nat) (t : Tr) (s : Cs), s.ns.length ≤ (plc d t s).2.2.ns.length
  | 0, t, s => by simp [plc]
  | d + 1, t, s => by
    rw [plc]
    split
    · split <;> simp
    · have h1 := pls_mono (fun t s => plc_mono d t s) t.kind t.kids 0 [] [] (put1 t s)
      unfold setK
      simp only [List.length_set]
      have h2 : (put1 t s).ns.length = s.ns.length + 1 := by simp [put1]
      omega
/-- the anchors as a datum -/
def aD : List (Ln × Nat) → DataW Unit
  | [] => .map []
  | p :: t => (aD t).put (.string p.1) (.lit (.int .i64 (p.2 : Int)))
theorem aD_map : ∀ l : List (Ln × Nat), IsMap (aD l)
  | [] => isMap_empty
  | p :: t => (aD_map t).put _ _
theorem aD_has (x : Ln) : ∀ l : List (Ln × Nat), has (aD l) (.string x) = (look l x).isSome
  | [] => rfl
  | p :: t => by
    rw [aD, look]
    by_cases h : p.1 = x
    · rw [if_pos h, h, has_put_same (k := .string x) (aD_map t) trivial]; rfl
    · rw [if_neg h, has_put_other (fun e => h (by cases e; rfl)), aD_has x t]
theorem aD_at (x : Ln) (z : DataW Unit) : ∀ l : List (Ln × Nat), (aD l).atKey (.string x) z = match look l x with | some a => .lit (.int .i64 (a : Int)) | none => z
  | [] => rfl
  | p :: t => by
    rw [aD, look]
    by_cases h : p.1 = x
    · rw [if_pos h, h, atKey_put_same (k := .string x) (aD_map t) trivial]
    · rw [if_neg h, atKey_put_other (fun e => h (by cases e; rfl)), aD_at x z t]
/-- the anchors in memory -/
def AncAt (w : World) (M : Nat) (l : List (Ln × Nat)) : Prop := w.ownsMap Tryz.prog 9 (plainElem Tryz.prog 3) M l.length (aD l)
theorem AncAt.kept {w w' : World} {M : Nat} {l : List (Ln × Nat)} (h : AncAt w M l) (hs : w.heap.size ≤ w'.heap.size) (hk : w'.heap[M]? = w.heap[M]?) : AncAt w' M l := by
  obtain ⟨es, clock, hb, r⟩ := h
  exact ⟨es, clock, hk.trans hb, r⟩
theorem Tryz.undAnc : Tryz.prog.underlying 90 = some (.map 9 3) := by kernel_rfl
theorem Tryz.keyedS : Keyed Tryz.prog 9 := string_keyed Tryz.undS
theorem zeroI (w : World) : (zeroValue 3).run Tryz.prog w = .ok (.int .i64 0) w := by kernel_rfl
theorem key_mk {x : Ln} (h : x.length ≤ 9223372036854775807) : keyOf Tryz.prog 9 (.string (mk x)) = some (.string x) := by
  have := Go.WideMaps.keyOf_string_mk (P := Tryz.prog) Tryz.undS (s := mk x) (by rw [mk_size]; exact h)
  rw [mk_data] at this
  exact this
theorem meant_any {w : World} {K M : Nat} {nv : Value} {l : List (Ln × Nat)} {x : Ln} (hb : Bx w K #[nv, .map (some M)] 92) (hA : AncAt w M l) (hx : x.length ≤ 9223372036854775807) :
    Calls Tryz.prog 55 #[.pointer (some ⟨K, 0, none⟩), .string (mk x)] w fun e w' => e = .returned (match look l x with | some a => .tuple #[.int .i64 (a : Int), .int .i64 0] | none => .tuple #[.int .i64 0, .int .i64 11]) ∧ w = w' := by
  obtain ⟨c0, c1⟩ := hb.c2
  have hkey := key_mk hx
  have HH := aD_has x l
  have HT := fun z => aD_at x z l
  unfold AncAt at hA
  cases hl : look l x with
  | none =>
    rw [hl] at HH
    simp only [Option.isSome_none] at HH
    generalize aD l = D at *
    clear hb HT
    go_enter Tryz.func55, Tryz.ntmps55
    go_wp2_with (at_lookup; refine wpList_lookup_own_ok_int _ rfl _ _ 90 rfl 9 3 .i64 Tryz.keyedS Tryz.undAnc Tryz.undI (zeroI _) M l.length D rfl hA _ _ rfl hkey ?_; intro c hat hwc; rw [HH])
    go_ret2
    exact ⟨rfl, rfl⟩
  | some a =>
    rw [hl] at HH
    simp only [Option.isSome_some] at HH
    simp only [hl] at HT
    generalize aD l = D at *
    clear hb
    go_enter Tryz.func55, Tryz.ntmps55
    go_wp2_with (at_lookup; refine wpList_lookup_own_ok_int _ rfl _ _ 90 rfl 9 3 .i64 Tryz.keyedS Tryz.undAnc Tryz.undI (zeroI _) M l.length D rfl hA _ _ rfl hkey ?_; intro c hat hwc; rw [HH]; have hca : c = (a : Int) := (by have q := hat.symm.trans (HT _); simpa using q); rw [hca]; clear hat hwc hca)
    go_ret2
    exact ⟨rfl, rfl⟩
end Go.Proofs.YtaphijgbebhdlaaGreatDoor.Grp
end

section
/- A composer in memory. -/
namespace Go.Proofs.YtaphijgbebhdlaaGreatDoor.Grp
open Utf Rws Pln Flw
open Go.RowKit Go.Maps
set_option linter.unusedSimpArgs false
set_option linter.unusedVariables false
set_option maxRecDepth 100000

/-- the nodes' cells -/
def ncs (l : List (Nd × Value)) : List Value := l.flatMap fun p => [.int .i64 p.1.kind, .string (mk p.1.text), p.2]
theorem ncs_app (l m : List (Nd × Value)) : ncs (l ++ m) = ncs l ++ ncs m := by unfold ncs; rw [List.flatMap_append]
theorem ncs_len (l : List (Nd × Value)) : (ncs l).length = l.length * 3 := by
  induction l with
  | nil => rfl
  | cons p t ih =>
    have e : ncs (p :: t) = [.int .i64 p.1.kind, .string (mk p.1.text), p.2] ++ ncs t := rfl
    rw [e, List.length_append, ih, List.length_cons]
    simp only [List.length_cons, List.length_nil]
    omega
theorem ncs_get : ∀ (l : List (Nd × Value)) (i : Nat) (p : Nd × Value), l[i]? = some p → (ncs l)[i * 3]? = some (.int .i64 p.1.kind) ∧ (ncs l)[i * 3 + 1]? = some (.string (mk p.1.text)) ∧ (ncs l)[i * 3 + 2]? = some p.2
  | [], i, p, h => by cases h
  | q :: t, 0, p, h => by
    simp only [List.getElem?_cons_zero, Option.some.injEq] at h
    subst h
    exact ⟨rfl, rfl, rfl⟩
  | q :: t, i + 1, p, h => by
    have := ncs_get t i p (by simpa using h)
    have e : ncs (q :: t) = [.int .i64 q.1.kind, .string (mk q.1.text), q.2] ++ ncs t := rfl
    rw [e]
    refine ⟨?_, ?_, ?_⟩
    · rw [List.getElem?_append_right (by simp; omega)]
      simp only [List.length_cons, List.length_nil]
      rw [show (i + 1) * 3 - (0 + 1 + 1 + 1) = i * 3 by omega]; exact this.1
    · rw [List.getElem?_append_right (by simp; omega)]
      simp only [List.length_cons, List.length_nil]
      rw [show (i + 1) * 3 + 1 - (0 + 1 + 1 + 1) = i * 3 + 1 by omega]; exact this.2.1
    · rw [List.getElem?_append_right (by simp; omega)]
      simp only [List.length_cons, List.length_nil]
      rw [show (i + 1) * 3 + 2 - (0 + 1 + 1 + 1) = i * 3 + 2 by omega]; exact this.2.2
theorem ncs_set : ∀ (l : List (Nd × Value)) (i : Nat) (p : Nd × Value) (kds : List Int) (v : Value), l[i]? = some p → ncs (l.set i (⟨p.1.kind, p.1.text, kds⟩, v)) = (ncs l).set (i * 3 + 2) v
  | [], i, p, _, _, h => by cases h
  | q :: t, 0, p, kds, v, h => by
    simp only [List.getElem?_cons_zero, Option.some.injEq] at h
    subst h
    rfl
  | q :: t, i + 1, p, kds, v, h => by
    have := ncs_set t i p kds v (by simpa using h)
    have e : ncs (q :: t) = [.int .i64 q.1.kind, .string (mk q.1.text), q.2] ++ ncs t := rfl
    have e2 : ncs (q :: t.set i (⟨p.1.kind, p.1.text, kds⟩, v)) = [.int .i64 q.1.kind, .string (mk q.1.text), q.2] ++ ncs (t.set i (⟨p.1.kind, p.1.text, kds⟩, v)) := rfl
    rw [List.set_cons_succ, e2, this, e, List.set_append_right _ _ (by simp; omega)]
    simp only [List.length_cons, List.length_nil]
    rw [show (i + 1) * 3 + 2 - (0 + 1 + 1 + 1) = i * 3 + 2 by omega]
theorem own_keep {base : Nat} {e : TypeId} {size : Nat} {v : Value} {n : Nat} {xs : List Value} {w w' : World} (h : w.ownsRow base e size v n xs) (hk : ∀ g, v.ownBlock = some g → w'.heap[g]? = w.heap[g]?) : w'.ownsRow base e size v n xs := by
  refine ⟨h.1, ?_⟩
  rcases h.2 with h2 | ⟨g, cap, cur, rfl, hb, hg, h3⟩
  · exact .inl h2
  · exact .inr ⟨g, cap, cur, rfl, hb, (hk g rfl).trans hg, h3⟩
theorem own_set {base : Nat} {e : TypeId} {size g n cap : Nat} {xs : List Value} {w : World} (h : w.ownsRow base e size (.slice (some ⟨g, 0, none⟩) n cap) n xs) {i : Nat} (hi : i < xs.length) (v : Value) : (w.setCell ⟨g, i, none⟩ v).ownsRow base e size (.slice (some ⟨g, 0, none⟩) n cap) n (xs.set i v) := by
  refine ⟨by rw [List.length_set]; exact h.1, ?_⟩
  rcases h.2 with ⟨h2, _⟩ | ⟨g', cap', cur, he, hb, hg, h3, h4, h5, h6⟩
  · cases h2
  · cases he
    have hset := Bx.set (w := w) (k := g) (cs := cur) (t := e) hg i v
    refine .inr ⟨g, cap, cur.setIfInBounds i v, rfl, hb, hset, h3, h4, by rw [Array.size_setIfInBounds]; exact h5, ?_⟩
    rw [← h6]
    have hl : i < n * size := by rw [← h.1]; exact hi
    rw [Array.toList_setIfInBounds, List.take_set]
theorem own_block {base : Nat} {e : TypeId} {size : Nat} {v : Value} {n : Nat} {xs : List Value} {w : World} (h : w.ownsRow base e size v n xs) {g : Nat} (hg : v.ownBlock = some g) : base ≤ g ∧ g < w.heap.size := by
  rcases h.2 with ⟨rfl, _⟩ | ⟨g', cap, cur, rfl, hb, hh, _⟩
  · cases hg
  · cases hg
    exact ⟨hb, (Array.getElem?_eq_some_iff.1 hh).1⟩
theorem own_shapeN {base : Nat} {e : TypeId} {size : Nat} {v : Value} {n : Nat} {xs : List Value} {w : World} (h : w.ownsRow base e size v n xs) : ∃ ad cap, v = .slice ad n cap ∧ n ≤ cap ∧ cap ≤ maxLen := by
  rcases h.2 with ⟨rfl, rfl⟩ | ⟨g', cap, cur, rfl, hb, hh, h3, h4, _⟩
  · exact ⟨none, 0, rfl, Nat.le_refl _, Nat.zero_le _⟩
  · exact ⟨_, cap, rfl, h3, h4⟩
/-- a node's Kids in memory, beside the rows that grow -/
def KdOk (W : World) (K : Nat) (nv : Value) (p : Nd × Value) : Prop := i64 p.1.kind ∧ p.1.text.length ≤ 9223372036854775807 ∧ ∃ ad len cap, p.2 = .slice ad len cap ∧ len ≤ cap ∧ cap ≤ maxLen ∧ IAt W ad len p.1.kids ∧ ∀ b off, 0 < len → ad = some ⟨b, off, none⟩ → K < b ∧ some b ≠ nv.ownBlock
/-- in which block a node's Kids lie -/
def kb (p : Nd × Value) (b : Nat) : Prop := ∃ off len cap, p.2 = .slice (some ⟨b, off, none⟩) len cap ∧ 0 < len
structure CmS (w0 W : World) (K M : Nat) (nv : Value) (l : List (Nd × Value)) (an : List (Ln × Nat)) : Prop where
  bx : Bx W K #[nv, .map (some M)] 92
  ow : W.ownsRow (K + 1) 47 3 nv l.length (ncs l)
  mp : AncAt W M an
  kk : ∀ p ∈ l, KdOk W K nv p
  bl : Below w0.heap.size w0 W
  hm : w0.heap.size ≤ M
  hk : M < K
  ha : ∀ q ∈ an, q.2 ≤ 1000000
  hl : an.length ≤ l.length
theorem KdOk.lt {W : World} {K : Nat} {nv : Value} {p : Nd × Value} (h : KdOk W K nv p) {b : Nat} (hb : kb p b) : K < b ∧ b < W.heap.size ∧ some b ≠ nv.ownBlock := by
  obtain ⟨_, _, ad, len, cap, e, _, _, hI, hf⟩ := h
  obtain ⟨off, len', cap', e', hp⟩ := hb
  rw [e] at e'
  cases e'
  obtain ⟨b2, off2, e2, hlt, _⟩ := hI.2 hp
  cases e2
  exact ⟨(hf _ _ hp rfl).1, hlt, (hf _ _ hp rfl).2⟩
theorem KdOk.keep {W W' : World} {K : Nat} {nv nv' : Value} {p : Nd × Value} (h : KdOk W K nv p) (hs : W.heap.size ≤ W'.heap.size) (hk : ∀ b, kb p b → W'.heap[b]? = W.heap[b]? ∧ some b ≠ nv'.ownBlock) : KdOk W' K nv' p := by
  obtain ⟨h1, h2, ad, len, cap, e, h3, h4, hI, hf⟩ := h
  refine ⟨h1, h2, ad, len, cap, e, h3, h4, ⟨hI.1, fun hp => ?_⟩, fun b off hp e2 => ?_⟩
  · obtain ⟨b2, off2, e2, hlt, hc⟩ := hI.2 hp
    have hb : kb p b2 := ⟨off2, len, cap, by rw [e, e2], hp⟩
    exact ⟨b2, off2, e2, Nat.lt_of_lt_of_le hlt hs, fun i hi => ⟨(hc i hi).1, (World.cell?_of_block (w := W) (hk b2 hb).1).trans (hc i hi).2⟩⟩
  · have hb : kb p b := ⟨off, len, cap, by rw [e, e2], hp⟩
    exact ⟨(hf b off hp e2).1, (hk b hb).2⟩
/-- what a call may have turned -/
structure Ch (K M : Nat) (nv : Value) (W W' : World) : Prop where
  os : W'.os = W.os
  tape : W'.tape = W.tape
  output : W'.output = W.output
  size : W.heap.size ≤ W'.heap.size
  bk : ∀ k, k < W.heap.size → k ≠ K → k ≠ M → some k ≠ nv.ownBlock → W'.heap[k]? = W.heap[k]?
/-- where the nodes lie behind it -/
def OB (nv nv' : Value) (W : World) : Prop := nv'.ownBlock = nv.ownBlock ∨ ∃ b, nv'.ownBlock = some b ∧ W.heap.size ≤ b
theorem OB.ne {nv nv' : Value} {W : World} (h : OB nv nv' W) {k : Nat} (hk : k < W.heap.size) (hn : some k ≠ nv.ownBlock) : some k ≠ nv'.ownBlock := by
  rcases h with h | ⟨b, h, hb⟩
  · rw [h]; exact hn
  · rw [h]; intro e; cases e; omega
theorem OB.refl (nv : Value) (W : World) : OB nv nv W := .inl rfl
theorem OB.trans {a b c : Value} {W W' : World} (h : OB a b W) (k : OB b c W') (hs : W.heap.size ≤ W'.heap.size) : OB a c W := by
  rcases k with k | ⟨x, k, hx⟩
  · rcases h with h | ⟨y, h, hy⟩
    · exact .inl (k.trans h)
    · exact .inr ⟨y, k.trans h, hy⟩
  · exact .inr ⟨x, k, by omega⟩
theorem Ch.refl (K M : Nat) (nv : Value) (W : World) : Ch K M nv W W := ⟨rfl, rfl, rfl, Nat.le_refl _, fun _ _ _ _ _ => rfl⟩
theorem Ch.trans {K M : Nat} {nv nv' : Value} {A B C : World} (h : Ch K M nv A B) (ho : OB nv nv' A) (k : Ch K M nv' B C) : Ch K M nv A C :=
  ⟨k.os.trans h.os, k.tape.trans h.tape, k.output.trans h.output, Nat.le_trans h.size k.size, fun i hi h1 h2 h3 => (k.bk i (Nat.lt_of_lt_of_le hi h.size) h1 h2 (ho.ne hi h3)).trans (h.bk i hi h1 h2 h3)⟩
theorem Ch.of_below {K M : Nat} {nv : Value} {W W' : World} (h : Below W.heap.size W W') : Ch K M nv W W' := ⟨h.os, h.tape, h.output, h.size, fun k hk _ _ _ => h.block k hk⟩
/-- new nodes' Kids lie in new blocks -/
def NB (l l' : List (Nd × Value)) (W : World) : Prop := ∀ p ∈ l', p ∈ l ∨ ∀ b, kb p b → W.heap.size ≤ b
theorem NB.refl (l : List (Nd × Value)) (W : World) : NB l l W := fun p hp => .inl hp
theorem NB.trans {a b c : List (Nd × Value)} {W W' : World} (h : NB a b W) (k : NB b c W') (hs : W.heap.size ≤ W'.heap.size) : NB a c W := fun p hp => by
  rcases k p hp with q | q
  · exact h p q
  · exact .inr fun x hx => Nat.le_trans hs (q x hx)
/-- the composer stays what it is -/
theorem CmS.keep {w0 W W' : World} {K M : Nat} {nv : Value} {l : List (Nd × Value)} {an : List (Ln × Nat)} (h : CmS w0 W K M nv l an) (hs : W.heap.size ≤ W'.heap.size) (ho : W'.os = W.os) (ht : W'.tape = W.tape) (hu : W'.output = W.output)
    (X : Nat → Prop) (hX : ∀ k, X k → w0.heap.size ≤ k ∧ k ≠ K ∧ k ≠ M ∧ some k ≠ nv.ownBlock ∧ ∀ p ∈ l, ¬ kb p k) (hb : ∀ k, k < W.heap.size → ¬ X k → W'.heap[k]? = W.heap[k]?) : CmS w0 W' K M nv l an := by
  have hKl := h.bx.lt
  have hMl : M < W.heap.size := by have := h.hk; omega
  refine ⟨(hb K hKl (fun x => (hX K x).2.1 rfl)).trans h.bx, own_keep h.ow (fun g hg => hb g (own_block h.ow hg).2 (fun x => (hX g x).2.2.2.1 hg.symm)), h.mp.kept hs (hb M hMl (fun x => (hX M x).2.2.1 rfl)), fun p hp => (h.kk p hp).keep hs (fun b hkb => ⟨hb b ((h.kk p hp).lt hkb).2.1 (fun x => (hX b x).2.2.2.2 p hp hkb), ((h.kk p hp).lt hkb).2.2⟩), ?_, h.hm, h.hk, h.ha, h.hl⟩
  refine h.bl.trans ⟨ho, ht, hu, hs, fun k hk => ?_⟩
  have := h.bl.size
  exact hb k (by omega) (fun x => by have := (hX k x).1; omega)
theorem CmS.later {w0 W W' : World} {K M : Nat} {nv : Value} {l : List (Nd × Value)} {an : List (Ln × Nat)} (h : CmS w0 W K M nv l an) (hb : Below W.heap.size W W') : CmS w0 W' K M nv l an :=
  h.keep hb.size hb.os hb.tape hb.output (fun _ => False) (fun _ x => x.elim) (fun k hk _ => hb.block k hk)
end Go.Proofs.YtaphijgbebhdlaaGreatDoor.Grp
end

section
/- The composer's places, given place, by its contract. -/
namespace Go.Proofs.YtaphijgbebhdlaaGreatDoor.Grp
open Utf Rws Pln Flw
open Go.RowKit Go.Maps
set_option linter.unusedSimpArgs false
set_option linter.unusedVariables false
set_option maxRecDepth 100000
set_option maxHeartbeats 4000000

/-- what place answers -/
def PlRes (w0 : World) (K M : Nat) (nv : Value) (l : List (Nd × Value)) (W : World) (r : Nat × Nat × Cs) (e : Ending) (W' : World) : Prop := e = .returned (.tuple #[.int .i64 (r.1 : Int), .int .i64 (r.2.1 : Int)]) ∧ r.1 ≤ 1000000 ∧ r.2.1 ≤ 100 ∧ ∃ nv' l', CmS w0 W' K M nv' l' r.2.2.an ∧ l'.map (·.1) = r.2.2.ns ∧ Ch K M nv W W' ∧ OB nv nv' W ∧ NB l l' W
/-- place does its work on trees of this depth -/
def PlOk (w0 : World) (K M d : Nat) : Prop := ∀ (v : Value) (t : Tr) (W : World) (nv : Value) (l : List (Nd × Value)) (an : List (Ln × Nat)), TrV w0 d v t → CmS w0 W K M nv l an → l.length + tsz d t ≤ 1000000 →
  Calls Tryz.prog 36 #[.pointer (some ⟨K, 0, none⟩), v] W (PlRes w0 K M nv l W (plc d t ⟨l.map (·.1), an⟩))
/-- what places answers -/
def PsRes (w0 : World) (K M : Nat) (nv : Value) (l : List (Nd × Value)) (W : World) (r : List Nat × Nat × Cs) (e : Ending) (W' : World) : Prop := r.2.1 ≤ 100 ∧ ∃ pa pc nv' l', e = .returned (.tuple #[.slice pa r.1.length pc, .int .i64 (r.2.1 : Int)]) ∧ r.1.length ≤ pc ∧ pc ≤ maxLen ∧ IAt W' pa r.1.length (r.1.map fun a : Nat => (a : Int)) ∧ (∀ b off, 0 < r.1.length → pa = some ⟨b, off, none⟩ → W.heap.size ≤ b ∧ some b ≠ nv'.ownBlock ∧ ∀ p ∈ l', ¬ kb p b) ∧ CmS w0 W' K M nv' l' r.2.2.an ∧ l'.map (·.1) = r.2.2.ns ∧ Ch K M nv W W' ∧ OB nv nv' W ∧ NB l l' W
/-- places under way -/
structure PcS (w0 W wr : World) (K M KB SB : Nat) (tc : Array Value) (nv nvj pv : Value) (l lj : List (Nd × Value)) (anj : List (Ln × Nat)) (keys : List (Int × Ln)) (ps : List Nat) : Prop where
  cm : CmS w0 wr K M nvj lj anj
  tb : Bx wr KB tc 29
  st : SetAt wr SB keys
  pw : wr.ownsRow (SB + 1) 3 1 pv ps.length (ps.map fun a : Nat => Value.int .i64 (a : Int))
  ch : Ch K M nv W wr
  ob : OB nv nvj W
  nb : NB l lj W
  n1 : some KB ≠ nvj.ownBlock
  n2 : some SB ≠ nvj.ownBlock
  n3 : ∀ g, pv.ownBlock = some g → some g ≠ nvj.ownBlock ∧ ∀ p ∈ lj, ¬ kb p g
  n4 : ∀ p ∈ lj, ¬ kb p SB
  h1 : W.heap.size ≤ KB
  h2 : KB < SB
  h3 : K < W.heap.size
  pb : ∀ a ∈ ps, a ≤ 1000000
theorem SetAt.lt {w : World} {B : Nat} {ps : List (Int × Ln)} (h : SetAt w B ps) : B < w.heap.size := h.1.lt
theorem PcS.later {w0 W wr wr' : World} {K M KB SB : Nat} {tc : Array Value} {nv nvj pv : Value} {l lj : List (Nd × Value)} {anj : List (Ln × Nat)} {keys : List (Int × Ln)} {ps : List Nat} (h : PcS w0 W wr K M KB SB tc nv nvj pv l lj anj keys ps) (hb : Below wr.heap.size wr wr') : PcS w0 W wr' K M KB SB tc nv nvj pv l lj anj keys ps :=
  ⟨h.cm.later hb, h.tb.later hb, h.st.later hb, own_keep h.pw (fun g hg => hb.block g (own_block h.pw hg).2), h.ch.trans h.ob (Ch.of_below hb), h.ob, h.nb, h.n1, h.n2, h.n3, h.n4, h.h1, h.h2, h.h3, h.pb⟩
/-- behind add -/
theorem PcS.add {w0 W wr wr' : World} {K M KB SB : Nat} {tc : Array Value} {nv nvj pv : Value} {l lj : List (Nd × Value)} {anj : List (Ln × Nat)} {keys keys' : List (Int × Ln)} {ps : List Nat} (h : PcS w0 W wr K M KB SB tc nv nvj pv l lj anj keys ps) (hg : wr.grownBy wr' (some SB)) (hs : SetAt wr' SB keys') : PcS w0 W wr' K M KB SB tc nv nvj pv l lj anj keys' ps := by
  have q1 := h.h1
  have q2 := h.h2
  have q3 := h.h3
  have q4 := h.cm.bl.size
  have q5 := h.cm.hm
  have q6 := h.cm.hk
  have hkeep : ∀ k, k < wr.heap.size → k ≠ SB → wr'.heap[k]? = wr.heap[k]? := fun k hk hne => hg.block k hk (fun e => hne (by cases e; rfl))
  have hcm : CmS w0 wr' K M nvj lj anj := h.cm.keep hg.size hg.os hg.tape hg.output (fun k => k = SB) (fun k e => by subst e; exact ⟨by omega, by omega, by omega, h.n2, fun p hp => h.n4 p hp⟩) (fun k hk hne => hkeep k hk hne)
  refine ⟨hcm, (hkeep KB h.tb.lt (by omega)).trans h.tb, hs, own_keep h.pw (fun g hgg => hkeep g (own_block h.pw hgg).2 (by have := (own_block h.pw hgg).1; omega)), ?_, h.ob, h.nb, h.n1, h.n2, h.n3, h.n4, h.h1, h.h2, h.h3, h.pb⟩
  refine ⟨hg.os.trans h.ch.os, hg.tape.trans h.ch.tape, hg.output.trans h.ch.output, Nat.le_trans h.ch.size hg.size, fun k hk e1 e2 e3 => (hkeep k (Nat.lt_of_lt_of_le hk h.ch.size) (by omega)).trans (h.ch.bk k hk e1 e2 e3)⟩
/-- behind place -/
theorem PcS.call {w0 W wr wr' : World} {K M KB SB : Nat} {tc : Array Value} {nv nvj nv2 pv : Value} {l lj l2 : List (Nd × Value)} {anj an2 : List (Ln × Nat)} {keys : List (Int × Ln)} {ps : List Nat} (h : PcS w0 W wr K M KB SB tc nv nvj pv l lj anj keys ps) (hc : CmS w0 wr' K M nv2 l2 an2) (hch : Ch K M nvj wr wr') (ho : OB nvj nv2 wr) (hn : NB lj l2 wr) : PcS w0 W wr' K M KB SB tc nv nv2 pv l l2 an2 keys ps := by
  have q1 := h.h1
  have q2 := h.h2
  have q3 := h.h3
  have q6 := h.cm.hk
  have hSl := h.st.lt
  have hKl := h.tb.lt
  have hKBk := hch.bk KB hKl (by omega) (by omega) h.n1
  have hSBk := hch.bk SB hSl (by omega) (by omega) h.n2
  have hpk : ∀ g, pv.ownBlock = some g → wr'.heap[g]? = wr.heap[g]? := fun g hg => hch.bk g (own_block h.pw hg).2 (by have := (own_block h.pw hg).1; omega) (by have := (own_block h.pw hg).1; omega) (h.n3 g hg).1
  have hst : SetAt wr' SB keys := by
    obtain ⟨⟨es, clock, hb, r⟩, hk⟩ := h.st
    exact ⟨⟨es, clock, hSBk.trans hb, r⟩, hk⟩
  refine ⟨hc, hKBk.trans h.tb, hst, own_keep h.pw hpk, h.ch.trans h.ob hch, h.ob.trans ho h.ch.size, h.nb.trans hn h.ch.size, ho.ne hKl h.n1, ho.ne hSl h.n2, fun g hg => ⟨ho.ne (own_block h.pw hg).2 (h.n3 g hg).1, fun p hp => ?_⟩, fun p hp => ?_, h.h1, h.h2, h.h3, h.pb⟩
  · rcases hn p hp with q | q
    · exact (h.n3 g hg).2 p q
    · intro hk; have := q g hk; have := (own_block h.pw hg).2; omega
  · rcases hn p hp with q | q
    · exact h.n4 p q
    · intro hk; have := q SB hk; omega
/-- behind append -/
theorem PcS.app {w0 W wr0 wr' : World} {K M KB SB : Nat} {tc : Array Value} {nv nvj pv pv' : Value} {l lj : List (Nd × Value)} {anj : List (Ln × Nat)} {keys : List (Int × Ln)} {ps : List Nat} {a : Nat} (h0 : PcS w0 W wr0 K M KB SB tc nv nvj pv l lj anj keys ps) (ha : a ≤ 1000000)
    (hw : wr'.ownsRow (SB + 1) 3 1 pv' (ps.length + 1) ((ps.map fun a : Nat => Value.int .i64 (a : Int)) ++ [.int .i64 (a : Int)])) (hg : wr0.grownBy wr' pv.ownBlock) (hat : pv'.ownBlock = pv.ownBlock ∨ pv'.ownBlock = some wr0.heap.size) : PcS w0 W wr' K M KB SB tc nv nvj pv' l lj anj keys (ps ++ [a]) := by
  have q1 := h0.h1
  have q2 := h0.h2
  have q3 := h0.h3
  have q4 := h0.cm.bl.size
  have q5 := h0.cm.hm
  have q6 := h0.cm.hk
  have hSl := h0.st.lt
  have hKl := h0.tb.lt
  have hpw : ∀ g, pv.ownBlock = some g → SB + 1 ≤ g ∧ g < wr0.heap.size := fun g hg => own_block h0.pw hg
  have hkeep : ∀ k, k < wr0.heap.size → some k ≠ pv.ownBlock → wr'.heap[k]? = wr0.heap[k]? := fun k hk hne => hg.block k hk hne
  have hcm : CmS w0 wr' K M nvj lj anj := h0.cm.keep hg.size hg.os hg.tape hg.output (fun k => some k = pv.ownBlock) (fun k e => ⟨by have := (hpw k e.symm).1; omega, by have := (hpw k e.symm).1; omega, by have := (hpw k e.symm).1; omega, (h0.n3 k e.symm).1, (h0.n3 k e.symm).2⟩) (fun k hk hne => hkeep k hk hne)
  have hst : SetAt wr' SB keys := h0.st.kept hg (fun e => by have := (hpw SB e.symm).1; omega)
  have hnk : ∀ k, k ≤ SB → some k ≠ pv.ownBlock := fun k hk e => by have := (hpw k e.symm).1; omega
  refine ⟨hcm, (hkeep KB hKl (hnk KB (by omega))).trans h0.tb, hst, by rw [List.length_append, List.map_append]; exact hw, ?_, h0.ob, h0.nb, h0.n1, h0.n2, fun g hgg => ?_, h0.n4, h0.h1, h0.h2, h0.h3, fun x hx => ?_⟩
  · refine ⟨hg.os.trans h0.ch.os, hg.tape.trans h0.ch.tape, hg.output.trans h0.ch.output, Nat.le_trans h0.ch.size hg.size, fun k hk e1 e2 e3 => (hkeep k (Nat.lt_of_lt_of_le hk h0.ch.size) (hnk k (by omega))).trans (h0.ch.bk k hk e1 e2 e3)⟩
  · rcases hat with e | e
    · rw [e] at hgg; exact h0.n3 g hgg
    · rw [e] at hgg
      cases hgg
      refine ⟨fun e2 => ?_, fun p hp hk => ?_⟩
      · have := (own_block h0.cm.ow e2.symm).2
        omega
      · have := ((h0.cm.kk p hp).lt hk).2.1
        omega
  · rcases List.mem_append.1 hx with hx | hx
    · exact h0.pb x hx
    · rw [List.mem_singleton.1 hx]; exact ha
end Go.Proofs.YtaphijgbebhdlaaGreatDoor.Grp
end
