/- Several texts as one: GraphCan. -/
import Derived.Test.YtcplgjclkjcekaaGreatDoorY14GraphGo
section
/- The graph of what was gone to: (*walk).graph, by its contract. -/
namespace Go.Proofs.YtcplgjclkjcekaaGreatDoor.Grp
open Utf Rws Pln Flw
open Go.RowKit
set_option linter.unusedSimpArgs false
set_option linter.unusedVariables false
set_option maxRecDepth 100000
set_option maxHeartbeats 4000000

theorem Tryz.infoNode : (Tryz.prog.info? 52).map (fun i => (i.zero, i.size, i.bytes)) = some (some (.agg #[.int .i64 0, .string ⟨#[]⟩, .slice none 0 0]), 3, 48) := by kernel_rfl
theorem Tryz.underNodes : Tryz.prog.underlying 22 = some (.slice 52) := by kernel_rfl
abbrev V3 := Value × Value × Value
def z3v : V3 := (.int .i64 0, .string ⟨#[]⟩, .slice none 0 0)
/-- a row of nodes -/
def NRow (W : World) (N n : Nat) (vals : Nat → V3) : Prop := ∃ cs, Bx W N cs 52 ∧ cs.size = n * 3 ∧ ∀ i, i < n → cs[i * 3]? = some (vals i).1 ∧ cs[i * 3 + 1]? = some (vals i).2.1 ∧ cs[i * 3 + 2]? = some (vals i).2.2
theorem NRow.later {W W' : World} {N n : Nat} {vals : Nat → V3} (h : NRow W N n vals) (hb : W'.heap[N]? = W.heap[N]?) : NRow W' N n vals := by
  obtain ⟨cs, h1, h2⟩ := h
  exact ⟨cs, hb.trans h1, h2⟩
theorem NRow.lt {W : World} {N n : Nat} {vals : Nat → V3} (h : NRow W N n vals) : N < W.heap.size := by obtain ⟨cs, h1, h2⟩ := h; exact h1.lt
theorem NRow.cells {W : World} {N n : Nat} {vals : Nat → V3} (h : NRow W N n vals) {i : Nat} (hi : i < n) : W.cell? ⟨N, i * 3, none⟩ = some (vals i).1 ∧ W.cell? ⟨N, i * 3 + 1, none⟩ = some (vals i).2.1 ∧ W.cell? ⟨N, i * 3 + 2, none⟩ = some (vals i).2.2 := by
  obtain ⟨cs, h1, h2, h3⟩ := h
  exact ⟨(h1.cell _).trans (h3 i hi).1, (h1.cell _).trans (h3 i hi).2.1, (h1.cell _).trans (h3 i hi).2.2⟩
theorem NRow.fz {W : World} {N n : Nat} {vals : Nat → V3} (h : NRow W N n vals) (i : Nat) : W.frozen? ⟨N, i, none⟩ = false := by obtain ⟨cs, h1, _⟩ := h; exact h1.fz i
theorem NRow.set2 {W : World} {N n : Nat} {vals : Nat → V3} (h : NRow W N n vals) (j : Nat) (v : Value) : NRow (W.setCell ⟨N, j * 3 + 2, none⟩ v) N n (fun x => if x = j then ((vals x).1, (vals x).2.1, v) else vals x) := by
  obtain ⟨cs, h1, h2, h3⟩ := h
  refine ⟨_, h1.set _ _, by rw [Array.size_setIfInBounds]; exact h2, fun i hi => ?_⟩
  have q := h3 i hi
  show _ = some (if i = j then ((vals i).1, (vals i).2.1, v) else vals i).1 ∧ _ = some (if i = j then ((vals i).1, (vals i).2.1, v) else vals i).2.1 ∧ _ = some (if i = j then ((vals i).1, (vals i).2.1, v) else vals i).2.2
  rw [Array.getElem?_setIfInBounds, Array.getElem?_setIfInBounds, Array.getElem?_setIfInBounds, if_neg (show ¬ j * 3 + 2 = i * 3 by omega), if_neg (show ¬ j * 3 + 2 = i * 3 + 1 by omega)]
  by_cases e : i = j
  · rw [if_pos e, if_pos (show j * 3 + 2 = i * 3 + 2 by omega), if_pos (by omega)]
    exact ⟨q.1, q.2.1, rfl⟩
  · rw [if_neg e, if_neg (show ¬ j * 3 + 2 = i * 3 + 2 by omega)]
    exact q
theorem NRow.set3 {W : World} {N n : Nat} {vals : Nat → V3} (h : NRow W N n vals) (j : Nat) (a b c : Value) : NRow (((W.setCell ⟨N, j * 3, none⟩ a).setCell ⟨N, j * 3 + 1, none⟩ b).setCell ⟨N, j * 3 + 2, none⟩ c) N n (fun x => if x = j then (a, b, c) else vals x) := by
  obtain ⟨cs, h1, h2, h3⟩ := h
  refine ⟨_, ((h1.set _ _).set _ _).set _ _, by rw [Array.size_setIfInBounds, Array.size_setIfInBounds, Array.size_setIfInBounds]; exact h2, fun i hi => ?_⟩
  have q := h3 i hi
  show _ = some (if i = j then (a, b, c) else vals i).1 ∧ _ = some (if i = j then (a, b, c) else vals i).2.1 ∧ _ = some (if i = j then (a, b, c) else vals i).2.2
  have hs1 : (cs.setIfInBounds (j * 3) a).size = cs.size := Array.size_setIfInBounds
  have hs2 : ((cs.setIfInBounds (j * 3) a).setIfInBounds (j * 3 + 1) b).size = cs.size := by rw [Array.size_setIfInBounds]; exact hs1
  by_cases e : i = j
  · rw [if_pos e]
    refine ⟨?_, ?_, ?_⟩
    · rw [Array.getElem?_setIfInBounds, if_neg (by omega), Array.getElem?_setIfInBounds, if_neg (by omega), Array.getElem?_setIfInBounds, if_pos (by omega), if_pos (by omega)]
    · rw [Array.getElem?_setIfInBounds, if_neg (by omega), Array.getElem?_setIfInBounds, if_pos (by omega), if_pos (by omega)]
    · rw [Array.getElem?_setIfInBounds, if_pos (by omega), if_pos (by omega)]
  · rw [if_neg e]
    refine ⟨?_, ?_, ?_⟩
    · rw [Array.getElem?_setIfInBounds, if_neg (by omega), Array.getElem?_setIfInBounds, if_neg (by omega), Array.getElem?_setIfInBounds, if_neg (by omega)]; exact q.1
    · rw [Array.getElem?_setIfInBounds, if_neg (by omega), Array.getElem?_setIfInBounds, if_neg (by omega), Array.getElem?_setIfInBounds, if_neg (by omega)]; exact q.2.1
    · rw [Array.getElem?_setIfInBounds, if_neg (by omega), Array.getElem?_setIfInBounds, if_neg (by omega), Array.getElem?_setIfInBounds, if_neg (by omega)]; exact q.2.2
theorem NRow.made (W : World) (n : Nat) : NRow (W.alloc (.cells (madeCells #[.int .i64 0, .string ⟨#[]⟩, .slice none 0 0] (n * 3)) 52)) W.heap.size n (fun _ => z3v) := by
  refine ⟨_, Bx.new _ _ _, size_madeCells _ _, fun i hi => ?_⟩
  have e0 : (i * 3) % 3 = 0 := by omega
  have e1 : (i * 3 + 1) % 3 = 1 := by omega
  have e2 : (i * 3 + 2) % 3 = 2 := by omega
  have f0 : i * 3 < n * 3 := by omega
  have f1 : i * 3 + 1 < n * 3 := by omega
  have f2 : i * 3 + 2 < n * 3 := by omega
  refine ⟨?_, ?_, ?_⟩
  · simp [madeCells, f0, e0, z3v]
  · simp [madeCells, f1, e1, z3v]
  · simp [madeCells, f2, e2, z3v]
/-- ints in blocks from B on -/
def IAtB (B : Nat) (W : World) (ad : Option Addr) (len : Nat) (l : List Int) : Prop := IAt W ad len l ∧ ∀ b off, 0 < len → ad = some ⟨b, off, none⟩ → B ≤ b
theorem IAtB.keep {B : Nat} {W W' : World} {ad : Option Addr} {len : Nat} {l : List Int} (h : IAtB B W ad len l) (hs : W.heap.size ≤ W'.heap.size) (hk : ∀ b, B ≤ b → b < W.heap.size → W'.heap[b]? = W.heap[b]?) : IAtB B W' ad len l := by
  refine ⟨⟨h.1.1, fun hp => ?_⟩, h.2⟩
  obtain ⟨b, off, e, hlt, hc⟩ := h.1.2 hp
  exact ⟨b, off, e, Nat.lt_of_lt_of_le hlt hs, fun i hi => ⟨(hc i hi).1, (World.cell?_of_block (w := W) (hk b (h.2 b off hp e) hlt)).trans (hc i hi).2⟩⟩
/-- the nodes that are made, up to the j-th one -/
structure GbS (w0 W : World) (Nb n j : Nat) (vals : Nat → V3) (cn : List Nd) : Prop where
  row : NRow W Nb n vals
  dn : ∀ i, i < j → (vals i).1 = .int .i64 (cn.getD i nd0).kind ∧ (vals i).2.1 = .string (mk (cn.getD i nd0).text) ∧ ∃ kad klen kcap, (vals i).2.2 = .slice kad klen kcap ∧ klen ≤ kcap ∧ kcap ≤ maxLen ∧ IAtB (Nb + 1) W kad klen (cn.getD i nd0).kids
  zr : ∀ i, j ≤ i → i < n → vals i = z3v
  bl : Below w0.heap.size w0 W
  hN : w0.heap.size ≤ Nb
/-- the Canon's nodes -/
def cnN (ns : List Nd) (O : List Nat) : List Nd := O.map fun a => ⟨(ns.getD a nd0).kind, (ns.getD a nd0).text, (ns.getD a nd0).kids.map fun b => (O.idxOf b.toNat : Int)⟩
theorem cnN_at (ns : List Nd) (O : List Nat) {j : Nat} (h : j < O.length) : (cnN ns O).getD j nd0 = ⟨(ns.getD O[j] nd0).kind, (ns.getD O[j] nd0).text, (ns.getD O[j] nd0).kids.map fun b => (O.idxOf b.toNat : Int)⟩ := by
  unfold cnN
  rw [List.getD_eq_getElem?_getD, List.getElem?_map, List.getElem?_eq_getElem h]
  rfl
theorem iat_own {w : World} {base : Nat} {t : TypeId} {ad : Option Addr} {n cap : Nat} {l : List Int} (h : w.ownsRow base t 1 (.slice ad n cap) n (l.map fun a => Value.int .i64 a)) (hl : ∀ a ∈ l, i64 a) : IAtB base w ad n l ∧ n ≤ cap ∧ cap ≤ maxLen := by
  have hn : l.length = n := by have := h.1; rw [List.length_map] at this; omega
  rcases h.2 with ⟨h1, h2⟩ | ⟨g, cp, cur, h1, hbg, hg, hnc, hcm, hcs, htk⟩
  · cases h1
    exact ⟨⟨⟨hn.symm, fun hp => absurd hp (by omega)⟩, fun b off hp _ => absurd hp (by omega)⟩, Nat.le_refl _, Nat.zero_le _⟩
  · cases h1
    refine ⟨⟨⟨hn.symm, fun hp => ⟨g, 0, rfl, (Array.getElem?_eq_some_iff.1 hg).1, fun i hi => ?_⟩⟩, fun b off _ e => by cases e; exact hbg⟩, hnc, hcm⟩
    have hil : i < l.length := by omega
    have hm : l.getD i 0 ∈ l := mem_getI hil
    refine ⟨hl _ hm, ?_⟩
    have hc := h.cells (g := g) rfl i (.int .i64 (l.getD i 0)) (by rw [List.getElem?_map, List.getElem?_eq_getElem hil, List.getD_eq_getElem?_getD, List.getElem?_eq_getElem hil]; rfl)
    have e : ((⟨g, 0, none⟩ : Addr).add i) = ⟨g, 0 + i, none⟩ := by simp [Addr.add]; intro h; exact h.symm
    rw [e] at hc
    exact hc
theorem map_nat (O : List Nat) : (O.map fun a : Nat => Value.int .i64 (a : Int)) = (O.map fun a : Nat => (a : Int)).map fun a => Value.int .i64 a := by rw [List.map_map]; rfl
/-- a node's Kids under way -/
structure GcS (w0 W : World) (Nb n j BB : Nat) (vals : Nat → V3) (cn : List Nd) (sv : Value) (l : List Int) : Prop where
  row : NRow W Nb n vals
  dn : ∀ i, i < j → (vals i).1 = .int .i64 (cn.getD i nd0).kind ∧ (vals i).2.1 = .string (mk (cn.getD i nd0).text) ∧ ∃ kad klen kcap, (vals i).2.2 = .slice kad klen kcap ∧ klen ≤ kcap ∧ kcap ≤ maxLen ∧ IAtB (Nb + 1) W kad klen (cn.getD i nd0).kids ∧ ∀ b off, 0 < klen → kad = some ⟨b, off, none⟩ → b < BB
  me : (vals j).1 = .int .i64 (cn.getD j nd0).kind ∧ (vals j).2.1 = .string (mk (cn.getD j nd0).text) ∧ (vals j).2.2 = sv
  own : W.ownsRow BB 3 1 sv l.length (l.map fun a => Value.int .i64 a)
  zr : ∀ i, j < i → i < n → vals i = z3v
  bl : Below w0.heap.size w0 W
  hN : w0.heap.size ≤ Nb
  hB : Nb < BB
  hW : BB ≤ W.heap.size
theorem GcS.step {w0 wr eW : World} {Nb n j BB c : Nat} {vals : Nat → V3} {cn : List Nd} {sad : Option Addr} {scap : Nat} {l l2 : List Int} {q : Int} {ev : Value} (h : GcS w0 wr Nb n j BB vals cn (.slice sad c scap) l) (hob : some Nb ≠ Value.ownBlock (.slice sad c scap)) (hl : l.length = c) (hl2 : l2 = l ++ [q])
    (r1 : eW.ownsRow BB 3 1 ev (c + 1) ((l.map fun a => Value.int .i64 a) ++ [.int .i64 q])) (r2 : (wr.drew.alloc (.cells #[.int .i64 q] 3)).grownBy eW (Value.ownBlock (.slice sad c scap))) :
    GcS w0 (eW.setCell ⟨Nb, j * 3 + 2, none⟩ ev) Nb n j BB (fun x => if x = j then ((vals x).1, (vals x).2.1, ev) else vals x) cn ev l2 := by
  subst hl2
  have hNl := h.row.lt
  have hB := h.hB
  have hs0 : (wr.drew.alloc (.cells #[.int .i64 q] 3)).heap.size = wr.heap.size + 1 := World.size_alloc _ _
  have hown := h.own
  have hob2 : ∀ k, k < BB → some k ≠ Value.ownBlock (.slice sad c scap) := fun k hk e => by
    rcases hown.2 with ⟨h1, _⟩ | ⟨g, cp, cur, h1, h2, _⟩
    · rw [h1] at e; cases e
    · rw [h1] at e
      have : k = g := by simpa [Value.ownBlock] using e
      omega
  have hkeep : ∀ k, k < BB → k < wr.heap.size → eW.heap[k]? = wr.heap[k]? := fun k h1 h2 => (r2.block k (by omega) (hob2 k h1)).trans (Below.heap_alloc wr.drew _ k h2)
  have hsz : wr.heap.size ≤ eW.heap.size := by have := r2.size; omega
  have hkset : ∀ k, k ≠ Nb → (eW.setCell ⟨Nb, j * 3 + 2, none⟩ ev).heap[k]? = eW.heap[k]? := fun k hk => Below.heap_setCell _ _ _ _ hk
  have hss : (eW.setCell ⟨Nb, j * 3 + 2, none⟩ ev).heap.size = eW.heap.size := World.size_setCell _ _ _
  have hbl : Below w0.heap.size w0 eW := by
    have b1 : Below w0.heap.size w0 (wr.drew.alloc (.cells #[.int .i64 q] 3)) := h.bl.drew.trans ((below_alloc wr.drew _).mono h.bl.size)
    refine b1.grown r2 b1.size (fun k e => ?_)
    have hN := h.hN
    rcases Nat.lt_or_ge k BB with hk | hk
    · exact absurd e.symm (hob2 k hk)
    · omega
  have ej : (if j = j then (((vals j).1, (vals j).2.1, ev) : V3) else vals j) = ((vals j).1, (vals j).2.1, ev) := if_pos rfl
  refine ⟨(h.row.later (hkeep Nb hB hNl)).set2 j ev, fun i hi => ?_, ⟨(congrArg (fun t : V3 => t.1) ej).trans h.me.1, (congrArg (fun t : V3 => t.2.1) ej).trans h.me.2.1, congrArg (fun t : V3 => t.2.2) ej⟩, ?_, fun i h1 h2 => ?_, hbl.setCell (p := ⟨Nb, j * 3 + 2, none⟩) h.hN _, h.hN, hB, ?_⟩
  · obtain ⟨q1, q2, ka, kl, kc, q3, q4, q5, q6, q7⟩ := h.dn i hi
    simp only [if_neg (show ¬ i = j by omega)]
    refine ⟨q1, q2, ka, kl, kc, q3, q4, q5, ?_, q7⟩
    refine ⟨⟨q6.1.1, fun hp => ?_⟩, q6.2⟩
    obtain ⟨b, off, e, hlt, hc⟩ := q6.1.2 hp
    have hb1 := q6.2 b off hp e
    have hb2 := q7 b off hp e
    have hk : (eW.setCell ⟨Nb, j * 3 + 2, none⟩ ev).heap[b]? = wr.heap[b]? := (hkset b (by omega)).trans (hkeep b hb2 hlt)
    exact ⟨b, off, e, by omega, fun i hi => ⟨(hc i hi).1, (World.cell?_of_block (w := wr) hk).trans (hc i hi).2⟩⟩
  · rw [List.length_append, List.length_singleton, hl, List.map_append]
    exact own_later1 r1 (fun g hg _ => hkset g (by omega))
  · simp only [if_neg (show ¬ i = j by omega)]
    exact h.zr i h1 h2
  · have := h.hW
    omega
/-- a graph's value in blocks from B on -/
def GrP (B : Nat) (w : World) (v : Value) (g : Gr) : Prop := ∀ W' : World, w.heap.size ≤ W'.heap.size → (∀ k, B ≤ k → k < w.heap.size → W'.heap[k]? = w.heap[k]?) → GrV W' v g
theorem GrP.v {B : Nat} {w : World} {v : Value} {g : Gr} (h : GrP B w v g) : GrV w v g := h w (Nat.le_refl _) (fun _ _ _ => rfl)
theorem GrP.set {B K i : Nat} {w : World} {v u : Value} {g : Gr} (h : GrP B w v g) (hK : K < B) : GrP B (w.setCell ⟨K, i, none⟩ u) v g := fun W' hs hk => h W' (by rw [World.size_setCell] at hs; exact hs) (fun k h1 h2 => (hk k h1 (by rw [World.size_setCell]; exact h2)).trans (Below.heap_setCell _ _ _ _ (by show k ≠ K; omega)))
theorem GrP.mono {B B' : Nat} {w : World} {v : Value} {g : Gr} (h : GrP B w v g) (hB : B' ≤ B) : GrP B' w v g := fun W' hs hk => h W' hs (fun k h1 h2 => hk k (Nat.le_trans hB h1) h2)
def canDp : List (List Nat) := [[], [], [], [], [2, 3], [4], [5], [], [7], [8], [9], [], [10, 11], [12], [13], [6, 14], [0, 1, 15], [16], [15, 17]]
theorem graph_any {wz w : World} {K C : Nat} {ad : Option Addr} {len cap m : Nat} {ns : List Nd} {O : List Nat} (hlen : len ≤ 4096) (hN : NAt w ad len ns) (hW : WkS wz w K C (.slice ad len cap) len O m) (hO : ∀ a ∈ O, a < len) (hcl : ∀ a ∈ O, ∀ b ∈ kd ns a, b ∈ O) (hK : ∀ n ∈ ns, ∀ a ∈ n.kids, isP len a = true) (hsum : sumK ns ≤ 1000000000) :
    Calls Tryz.prog 28 #[.pointer (some ⟨K, 0, none⟩)] w fun e w' => (∃ v, e = .returned v ∧ GrP w.heap.size w' v ⟨cnN ns O, 0⟩) ∧ Below w.heap.size w w' := by
  obtain ⟨i0, hi, hz0, hz1, hz2⟩ := info_parts Tryz.infoNode
  have hol : O.length ≤ 5000 := by have := hW.h5; omega
  have hmk := fun w' : World => run_make (P := Tryz.prog) w' 22 52 i0 _ Tryz.underNodes hi hz0 .i64 .i64 (O.length : Int) (O.length : Int) (by omega) (by omega) (by rw [hz2]; omega) (by omega)
  rw [hz1] at hmk
  obtain ⟨ov, hb, ho⟩ := hW.s
  obtain ⟨oad, ocap, rfl⟩ := own_shape ho
  have b1 := below_alloc w (.cells #[.slice none 0 0, .int .i64 0] 24)
  have hbx := hb.later b1
  have hG := Bx.new w #[.slice none 0 0, .int .i64 0] 24
  have s1 : (w.alloc (.cells #[.slice none 0 0, .int .i64 0] 24)).heap.size = w.heap.size + 1 := World.size_alloc _ _
  go_enter Tryz.func28, Tryz.ntmps28
  go_upto_region 1 with fail
  generalize w.alloc (.cells #[.slice none 0 0, .int .i64 0] 24) = w1 at *
  obtain ⟨c0, c1, c2, c3⟩ := hbx.c4
  have b2 := below_alloc w1 (.cells (madeCells #[.int .i64 0, .string ⟨#[]⟩, .slice none 0 0] (O.length * 3)) 52)
  have hrow := NRow.made w1 O.length
  have hbx2 := hbx.later b2
  have hG2 := hG.later b2
  rw [s1] at hrow
  have bl2 : Below w.heap.size w (w1.alloc (.cells (madeCells #[.int .i64 0, .string ⟨#[]⟩, .slice none 0 0] (O.length * 3)) 52)) := b1.trans (b2.mono b1.size)
  simp only [Int.toNat_natCast, Value.cells] at hmk
  go_upto_region 2 with fail
  have h0 : GbS w (w1.alloc (.cells (madeCells #[.int .i64 0, .string ⟨#[]⟩, .slice none 0 0] (O.length * 3)) 52)) (w.heap.size + 1) O.length 0 (fun _ => z3v) (cnN ns O) := ⟨hrow, fun i hi => absurd hi (Nat.not_lt_zero _), fun _ _ _ => rfl, bl2, by omega⟩
  have hne0 : w.heap.size ≠ w.heap.size + 1 := by omega
  clear hmk c0 c1 c2 c3 hrow bl2 hG hbx b1 b2 s1
  generalize w1.alloc (.cells (madeCells #[.int .i64 0, .string ⟨#[]⟩, .slice none 0 0] (O.length * 3)) 52) = W1 at *
  obtain ⟨c0, c1, c2, c3⟩ := hbx2.c4
  have hKl := hb.lt
  have hCl := hW.c.lt
  have HOI : Hid (IAt w oad O.length (O.map fun a : Nat => (a : Int))) := by
    rw [map_nat] at ho
    exact (iat_own ho (fun a ha => by obtain ⟨x, hx, rfl⟩ := List.mem_map.1 ha; have := hO x hx; constructor <;> omega)).1.1
  have HLn : Hid (len = ns.length) := hN.1
  have HNN : Hid (NAt w ad len ns) := hN
  have HO : Hid (∀ a ∈ O, a < len) := hO
  have HCL : Hid (∀ a ∈ O, ∀ b ∈ kd ns a, b ∈ O) := hcl
  have HKK : Hid (∀ n ∈ ns, ∀ a ∈ n.kids, isP len a = true) := hK
  have HBK : Hid (Bx w K #[.slice ad len cap, .slice oad O.length ocap, .slice (some ⟨C, 0, none⟩) len len, .int .i64 (m : Int)] 72) := hb
  have HBC : Hid (Bx w C (iA (cm O) len) 3) := hW.c
  clear hb ho hW hN hO hcl hK
  obtain ⟨G0, hG0⟩ : ∃ G0, G0 = w.heap.size := ⟨_, rfl⟩
  obtain ⟨Nb, hNb⟩ : ∃ Nb, Nb = w.heap.size + 1 := ⟨_, rfl⟩
  rw [← hNb] at h0 hne0 ⊢
  rw [← hG0] at hG2 hne0 ⊢
  have hGw : w.heap.size ≤ G0 := by omega
  have hGN : G0 < Nb := by omega
  clear hG0 hNb hbx2
  go_wp2_with fail
  clear c0 c1 c2 c3
  go_loopw [20] (fun i wr => ∃ (j : Nat) (vals : Nat → V3), j ≤ O.length ∧ i = .int .i64 j ∧ Hid (GbS w wr Nb O.length j vals (cnN ns O)) ∧ Hid (Bx wr G0 #[.slice none 0 0, .int .i64 0] 24)) (fun i _ => O.length - (intOf i).toNat)
  case atStart => exact ⟨0, _, Nat.zero_le _, rfl, h0, hG2⟩
  case round =>
    obtain ⟨j, vals, hj, rfl, HS, HG⟩ := hrel
    clear h0 hG2
    by_cases hlt : j < O.length
    · obtain ⟨ob, ooff, rfl, hob, hoc⟩ := HOI.out.2 (by omega)
      have x0 := (HS.out.bl.cell (p := ⟨ob, ooff + j, none⟩) hob).trans (hoc j hlt).2
      have hOj : (O.map fun a : Nat => (a : Int)).getD j 0 = ((O[j] : Nat) : Int) := by
        rw [List.getD_eq_getElem?_getD, List.getElem?_map, List.getElem?_eq_getElem hlt]; rfl
      rw [hOj] at x0
      have hal : O[j] < len := HO.out _ (List.getElem_mem hlt)
      have HCN : Hid ((cnN ns O).getD j nd0 = ⟨(ns.getD O[j] nd0).kind, (ns.getD O[j] nd0).text, (ns.getD O[j] nd0).kids.map fun b => (O.idxOf b.toNat : Int)⟩) := cnN_at ns O hlt
      have HKJ : Hid (∀ c ∈ (ns.getD O[j] nd0).kids, isP len c = true) := HKK.out _ (mem_getD (by have := HLn.out; omega))
      have HKO : Hid (∀ c ∈ (ns.getD O[j] nd0).kids, c.toNat ∈ O) := fun c hc => HCL.out _ (List.getElem_mem hlt) _ (List.mem_map_of_mem hc)
      have hkn : (ns.getD O[j] nd0).kids.length ≤ 1000000000 := Nat.le_trans (kids_sum (mem_getD (by have := HLn.out; omega))) hsum
      generalize O[j] = a at *
      obtain ⟨b, off, rfl, hbb, hcc⟩ := HNN.out.2 (by omega)
      obtain ⟨kad, klen, kcap, hk1, hk2, _, _, hI, y0, y1, y2⟩ := hcc a hal
      generalize ns.getD a nd0 = nd at *
      obtain ⟨nk, nx, nl⟩ := nd
      simp only at y0 y1 y2 HCN hI HKJ HKO hkn
      have x1 := (HS.out.bl.cell (p := ⟨b, off + a * 3, none⟩) hbb).trans y0
      have x2 := (HS.out.bl.cell (p := ⟨b, off + a * 3 + 1, none⟩) hbb).trans y1
      have x3 := (HS.out.bl.cell (p := ⟨b, off + a * 3 + 2, none⟩) hbb).trans y2
      have hBK := (HS.out.bl.block K hKl).trans HBK.out
      obtain ⟨c0, c1, c2, c3⟩ := Bx.c4 hBK
      have HII : Hid (IAt w kad klen nl) := hI
      have HLk : Hid (klen = nl.length) := hI.1
      have hkl : klen ≤ 1000000000 := by have := HLk.out; omega
      clear hoc hcc y0 y1 y2 hI hOj hkn hk1 hk2
      go_upto_region 6 with fail
      have bA := below_alloc wr (.cells #[.int .i64 nk, .string (mk nx), .slice kad klen kcap] 52)
      have nA := Bx.new wr #[.int .i64 nk, .string (mk nx), .slice kad klen kcap] 52
      have sA : (wr.alloc (.cells #[.int .i64 nk, .string (mk nx), .slice kad klen kcap] 52)).heap.size = wr.heap.size + 1 := World.size_alloc _ _
      have hNl := HS.out.row.lt
      have hGl := HG.out.lt
      have rA : NRow (wr.alloc (.cells #[.int .i64 nk, .string (mk nx), .slice kad klen kcap] 52)) Nb O.length vals := HS.out.row.later (bA.block Nb hNl)
      have gA := HG.out.later bA
      have blA : Below w.heap.size w (wr.alloc (.cells #[.int .i64 nk, .string (mk nx), .slice kad klen kcap] 52)) := HS.out.bl.trans (bA.mono HS.out.bl.size)
      obtain ⟨KK, hKK⟩ : ∃ KK, KK = wr.heap.size := ⟨_, rfl⟩
      rw [← hKK] at nA ⊢
      have HDN : Hid (∀ i, i < j → (vals i).1 = .int .i64 ((cnN ns O).getD i nd0).kind ∧ (vals i).2.1 = .string (mk ((cnN ns O).getD i nd0).text) ∧ ∃ ka kl kc, (vals i).2.2 = .slice ka kl kc ∧ kl ≤ kc ∧ kc ≤ maxLen ∧ IAtB (Nb + 1) (wr.alloc (.cells #[.int .i64 nk, .string (mk nx), .slice kad klen kcap] 52)) ka kl ((cnN ns O).getD i nd0).kids ∧ ∀ b off, 0 < kl → ka = some ⟨b, off, none⟩ → b < wr.heap.size + 1) := fun i hi => by
        obtain ⟨q1, q2, ka, kl, kc, q3, q4, q5, q6⟩ := HS.out.dn i hi
        refine ⟨q1, q2, ka, kl, kc, q3, q4, q5, q6.keep bA.size (fun b _ hb => bA.block b hb), fun b' off' hp e => ?_⟩
        obtain ⟨b2, off2, e2, h2, _⟩ := q6.1.2 hp
        rw [e] at e2
        cases e2
        omega
      have HZR : Hid (∀ i, j ≤ i → i < O.length → vals i = z3v) := HS.out.zr
      have hNw := HS.out.hN
      clear HS HG bA x0 x1 x2 x3 c0 c1 c2 c3 hBK
      generalize wr.alloc (.cells #[.int .i64 nk, .string (mk nx), .slice kad klen kcap] 52) = w4 at *
      obtain ⟨d0, d1, d2⟩ := nA.c3
      obtain ⟨f0, f1, f2⟩ := rA.cells hlt
      have z0 := rA.fz (j * 3)
      have z1 := rA.fz (j * 3 + 1)
      have z2 := rA.fz (j * 3 + 2)
      have rB := rA.set3 j (.int .i64 nk) (.string (mk nx)) (.slice none 0 0)
      have H5 : Hid (GcS w (((w4.setCell ⟨Nb, j * 3, none⟩ (.int .i64 nk)).setCell ⟨Nb, j * 3 + 1, none⟩ (.string (mk nx))).setCell ⟨Nb, j * 3 + 2, none⟩ (.slice none 0 0)) Nb O.length j (wr.heap.size + 1) (fun x => if x = j then (.int .i64 nk, .string (mk nx), .slice none 0 0) else vals x) (cnN ns O) (.slice none 0 0) []) := by
        have hk3 : ∀ k, k ≠ Nb → (((w4.setCell ⟨Nb, j * 3, none⟩ (.int .i64 nk)).setCell ⟨Nb, j * 3 + 1, none⟩ (.string (mk nx))).setCell ⟨Nb, j * 3 + 2, none⟩ (.slice none 0 0)).heap[k]? = w4.heap[k]? := fun k hk => ((Below.heap_setCell _ _ _ _ hk).trans (Below.heap_setCell _ _ _ _ hk)).trans (Below.heap_setCell _ _ _ _ hk)
        have hs3 : (((w4.setCell ⟨Nb, j * 3, none⟩ (.int .i64 nk)).setCell ⟨Nb, j * 3 + 1, none⟩ (.string (mk nx))).setCell ⟨Nb, j * 3 + 2, none⟩ (.slice none 0 0)).heap.size = w4.heap.size := by rw [World.size_setCell, World.size_setCell, World.size_setCell]
        have ej : (if j = j then ((.int .i64 nk, .string (mk nx), .slice none 0 0) : V3) else vals j) = (.int .i64 nk, .string (mk nx), .slice none 0 0) := if_pos rfl
        refine ⟨rB, fun i hi => ?_, ⟨(congrArg (fun t : V3 => t.1) ej).trans (by rw [HCN.out]), (congrArg (fun t : V3 => t.2.1) ej).trans (by rw [HCN.out]), congrArg (fun t : V3 => t.2.2) ej⟩, World.ownsRow_nil _ _ _ _, fun i h1 h2 => ?_, ((blA.setCell (p := ⟨Nb, j * 3, none⟩) hNw _).setCell (p := ⟨Nb, j * 3 + 1, none⟩) hNw _).setCell (p := ⟨Nb, j * 3 + 2, none⟩) hNw _, hNw, by omega, by rw [hs3]; omega⟩
        · obtain ⟨q1, q2, ka, kl, kc, q3, q4, q5, q6, q7⟩ := HDN.out i hi
          simp only [if_neg (show ¬ i = j by omega)]
          exact ⟨q1, q2, ka, kl, kc, q3, q4, q5, q6.keep (by rw [hs3]; exact Nat.le_refl _) (fun b hb _ => hk3 b (by omega)), q7⟩
        · simp only [if_neg (show ¬ i = j by omega)]
          exact HZR.out i (by omega) h2
      have HG5 : Hid (Bx (((w4.setCell ⟨Nb, j * 3, none⟩ (.int .i64 nk)).setCell ⟨Nb, j * 3 + 1, none⟩ (.string (mk nx))).setCell ⟨Nb, j * 3 + 2, none⟩ (.slice none 0 0)) G0 #[.slice none 0 0, .int .i64 0] 24) := ((gA.other hne0 _ _).other hne0 _ _).other hne0 _ _
      have hKN : KK ≠ Nb := by omega
      have d2' : (((w4.setCell ⟨Nb, j * 3, none⟩ (.int .i64 nk)).setCell ⟨Nb, j * 3 + 1, none⟩ (.string (mk nx))).setCell ⟨Nb, j * 3 + 2, none⟩ (.slice none 0 0)).cell? ⟨KK, 2, none⟩ = some (.slice kad klen kcap) := (((nA.other hKN _ _).other hKN _ _).other hKN _ _).cell 2
      generalize wr.heap.size + 1 = BB at *
      clear hKK HDN HZR rB sA hNl hGl
      go_upto_region 7 with fail
      generalize ((w4.setCell ⟨Nb, j * 3, none⟩ (.int .i64 nk)).setCell ⟨Nb, j * 3 + 1, none⟩ (.string (mk nx))).setCell ⟨Nb, j * 3 + 2, none⟩ (.slice none 0 0) = W5 at H5 HG5 d2' ⊢
      go_wp2_with fail
      clear d0 d1 d2 d2' f0 f1 f2 z0 z1 z2 nA rA gA blA
      go_loopw [43] (fun i wr => ∃ (c : Nat) (sv : Value) (vals' : Nat → V3), c ≤ klen ∧ i = .int .i64 c ∧ Hid (GcS w wr Nb O.length j BB vals' (cnN ns O) sv ((nl.take c).map fun b => (O.idxOf b.toNat : Int))) ∧ Hid (Bx wr G0 #[.slice none 0 0, .int .i64 0] 24)) (fun i _ => klen - (intOf i).toNat)
      case atStart => exact ⟨0, .slice none 0 0, _, Nat.zero_le _, rfl, H5, HG5⟩
      case round =>
        rename_i wro _ _ _ _
        obtain ⟨c, sv, vals', hc, rfl, HS, HG⟩ := hrel
        clear H5 HG5
        by_cases hct : c < klen
        · have hcn : c < nl.length := by have := HLk.out; omega
          obtain ⟨kb, koff, rfl, hkb, hkc⟩ := HII.out.2 (by omega)
          have x0 := (HS.out.bl.cell (p := ⟨kb, koff + c, none⟩) hkb).trans (hkc c hct).2
          obtain ⟨p, hp, hpl⟩ := isP_nat (HKJ.out _ (mem_getI hcn))
          have hpO : p ∈ O := by have := HKO.out _ (mem_getI hcn); rw [hp, Int.toNat_natCast] at this; exact this
          rw [hp] at x0
          go_upto_region 10 with fail
          have hLc : ((nl.take c).map fun b => (O.idxOf b.toNat : Int)).length = c := by rw [List.length_map, List.length_take]; omega
          have hown := HS.out.own
          rw [hLc] at hown
          obtain ⟨sad, scap, hsv⟩ := own_shape hown
          subst hsv
          obtain ⟨q, HQ⟩ : ∃ q, Hid (q = cm O p) := ⟨_, rfl⟩
          have HQI : Hid (q = (O.idxOf p : Int)) := by rw [HQ.out]; unfold cm; rw [if_pos hpO]; exact rfl
          have y2 : wr.cell? ⟨Nb, j * 3 + 2, none⟩ = some (.slice sad c scap) := by rw [(HS.out.row.cells hlt).2.2, HS.out.me.2.2]
          have y1 : wr.cell? ⟨Nb, j * 3 + 1, none⟩ = some (.string (mk ((cnN ns O).getD j nd0).text)) := by rw [(HS.out.row.cells hlt).2.1, HS.out.me.2.1]
          have y0 : wr.cell? ⟨Nb, j * 3, none⟩ = some (.int .i64 ((cnN ns O).getD j nd0).kind) := by rw [(HS.out.row.cells hlt).1, HS.out.me.1]
          have hNl := HS.out.row.lt
          have hBK := (HS.out.bl.block K hKl).trans HBK.out
          have hBC : Bx wr C (iA (cm O) len) 3 := (HS.out.bl.block C hCl).trans HBC.out
          obtain ⟨c0, c1, c2, c3⟩ := Bx.c4 hBK
          have xC := (hBC.cell p).trans (iA_get _ hpl)
          rw [← HQ.out] at xC
          have hNbA : Nb < (wr.drew.alloc (.cells #[.int .i64 q] 3)).heap.size := by rw [World.size_alloc]; show Nb < wr.heap.size + 1; omega
          have y2a : (wr.drew.alloc (.cells #[.int .i64 q] 3)).cell? ⟨Nb, j * 3 + 2, none⟩ = some (.slice sad c scap) := (World.cell?_alloc_lt _ _ _ (by show Nb < wr.heap.size; exact hNl)).trans y2
          have hBB := HS.out.hW
          obtain ⟨i0, hi, hz0, hz1, hz2⟩ := info_parts Tryz.infoInt
          have hmix : Tryz.prog.follows .mixedOrders = true := by kernel_rfl
          have hob : some Nb ≠ Value.ownBlock (.slice sad c scap) := fun e => by
            rcases hown.2 with ⟨h1, _⟩ | ⟨g, cp, cur, h1, h2, _⟩
            · rw [h1] at e; cases e
            · rw [h1] at e
              have : Nb = g := by simpa [Value.ownBlock] using e
              have := HS.out.hB
              omega
          refine wp_region_E hmix (N := 19) (dp := canDp) (by kernel_rfl) (E := Value × World) (fun (e : Value × World) (s : List Bool) => (s.getD 12 false = true → s.getD 10 false = true) ∧ (s.getD 13 false = true → s.getD 12 false = true) ∧ (s.getD 14 false = true → s.getD 13 false = true) ∧ (s.getD 15 false = true → s.getD 14 false = true ∧ s.getD 6 false = true ∧ Hid ((∃ ea ec, e.1 = .slice ea (c + 1) ec) ∧ e.2.ownsRow BB 3 1 e.1 (c + 1) ((((nl.take c).map fun b => (O.idxOf b.toNat : Int)).map fun a => Value.int .i64 a) ++ [.int .i64 q]) ∧ (wr.drew.alloc (.cells #[.int .i64 q] 3)).grownBy e.2 (Value.ownBlock (.slice sad c scap)))) ∧ (s.getD 18 false = true → s.getD 15 false = true)) (fun (e : Value × World) (s : List Bool) => { tmps := #[.pointer (some ⟨K, 0, none⟩), undef, .pointer (some ⟨G0, 0, none⟩), .slice (some ⟨Nb, 0, none⟩) O.length O.length, .int .i64 (j : Int), .int .i64 (a : Int), .pointer (some ⟨KK, 0, none⟩), undef, .int .i64 (p : Int), .pointer (some ⟨K, 0, none⟩), .pointer (some ⟨K, 0, none⟩), .pointer (some ⟨K, 1, none⟩), .slice (some ⟨ob, ooff, none⟩) O.length ocap, .int .i64 (O.length : Int), .slice (some ⟨Nb, 0, none⟩) O.length O.length, .pointer (some ⟨K, 0, none⟩), .pointer (some ⟨K, 0, none⟩), .pointer (some ⟨K, 1, none⟩), .slice (some ⟨ob, ooff, none⟩) O.length ocap, .int .i64 (O.length : Int), .int .i64 (j : Int), .bool true, .int .i64 (j : Int), .pointer (some ⟨ob, ooff + j, none⟩), .int .i64 (a : Int), .pointer (some ⟨K, 0, none⟩), .pointer (some ⟨K, 0, none⟩), .pointer (some ⟨K, 0, none⟩), .slice (some ⟨b, off, none⟩) len cap, .int .i64 (a : Int), .pointer (some ⟨b, off + a * 3, none⟩), .agg #[.int .i64 nk, .string (mk nx), .slice (some ⟨kb, koff, none⟩) klen kcap], .slice (some ⟨Nb, 0, none⟩) O.length O.length, .int .i64 (j : Int), .pointer (some ⟨KK, 0, none⟩), .int .i64 nk, .pointer (some ⟨KK, 1, none⟩), .string (mk nx), .agg #[.int .i64 nk, .string (mk nx), .slice none 0 0], .pointer (some ⟨Nb, j * 3, none⟩), .pointer (some ⟨KK, 2, none⟩), .slice (some ⟨kb, koff, none⟩) klen kcap, .int .i64 (klen : Int), .int .i64 (c : Int), .bool true, .pointer (some ⟨kb, koff + c, none⟩), .int .i64 (p : Int), slu (s.getD 0 false) (.slice (some ⟨Nb, 0, none⟩) O.length O.length) u47, slu (s.getD 1 false) (.int .i64 (j : Int)) u48, slu (s.getD 2 false) (.slice (some ⟨Nb, 0, none⟩) O.length O.length) u49, slu (s.getD 3 false) (.int .i64 (j : Int)) u50, slu (s.getD 4 false) (.pointer (some ⟨Nb, j * 3, none⟩)) u51, slu (s.getD 5 false) (.pointer (some ⟨Nb, j * 3 + 2, none⟩)) u52, slu (s.getD 6 false) (.slice sad c scap) u53, slu (s.getD 7 false) (.pointer (some ⟨K, 0, none⟩)) u54, slu (s.getD 8 false) (.pointer (some ⟨K, 0, none⟩)) u55, slu (s.getD 9 false) (.pointer (some ⟨K, 2, none⟩)) u56, slu (s.getD 10 false) (.slice (some ⟨C, 0, none⟩) len len) u57, slu (s.getD 11 false) (.int .i64 (p : Int)) u58, slu (s.getD 12 false) (.pointer (some ⟨C, p, none⟩)) u59, slu (s.getD 13 false) (.int .i64 q) u60, slu (s.getD 14 false) (.slice (some ⟨wr.heap.size, 0, none⟩) 1 1) u61, slu (s.getD 15 false) (e.1) u62, slu (s.getD 16 false) (.pointer (some ⟨Nb, j * 3, none⟩)) u63, slu (s.getD 17 false) (.pointer (some ⟨Nb, j * 3 + 2, none⟩)) u64, u65, u66, undef, undef], defers := [] }) (fun (e : Value × World) (s : List Bool) => cond (s.getD 18 false) (e.2.setCell ⟨Nb, j * 3 + 2, none⟩ e.1) (cond (s.getD 15 false) e.2 (cond (s.getD 14 false) (wr.drew.alloc (.cells #[.int .i64 q] 3)) wr.drew))) ?hS ?hF (undef, wr) ⟨fun h => absurd h (by decide), fun h => absurd h (by decide), fun h => absurd h (by decide), fun h => absurd h (by decide), fun h => absurd h (by decide)⟩ rfl rfl
          case hS =>
            rintro ⟨ev, eW⟩ s hJ hl i hi' hbi hd Kk hK
            match s, hl with
            | [b0, b1, b2, b3, b4, b5, b6, b7, b8, b9, b10, b11, b12, b13, b14, b15, b16, b17, b18], _ =>
              simp only [List.getD_cons_zero, List.getD_cons_succ] at hJ ⊢
              have hi2 : i = 0 ∨ i = 1 ∨ i = 2 ∨ i = 3 ∨ i = 4 ∨ i = 5 ∨ i = 6 ∨ i = 7 ∨ i = 8 ∨ i = 9 ∨ i = 10 ∨ i = 11 ∨ i = 12 ∨ i = 13 ∨ i = 14 ∨ i = 15 ∨ i = 16 ∨ i = 17 ∨ i = 18 := by omega
              rcases hi2 with rfl | rfl | rfl | rfl | rfl | rfl | rfl | rfl | rfl | rfl | rfl | rfl | rfl | rfl | rfl | rfl | rfl | rfl | rfl
              · have g0 : b0 = false := hbi
                subst g0
                have hK2 := hK (ev, eW) (by first | exact hJ | (refine ⟨fun h => ?_, fun h => ?_, fun h => ?_, fun h => ?_, fun h => ?_⟩ <;> first | exact rfl | exact hJ.1 h | exact hJ.2.1 h | exact hJ.2.2.1 h | exact hJ.2.2.2.1 h | exact hJ.2.2.2.2 h | exact absurd h (by simp)))
                clear hK hJ hd hbi
                simp only [List.set_cons_zero, List.set_cons_succ, List.getD_cons_zero, List.getD_cons_succ, slu_t, slu_f, cond_true, cond_false] at hK2 ⊢
                generalize cond b18 _ _ = WW at hK2 ⊢
                refine wpOp_if rfl ?_
                go_simp
                exact hK2
              · have g1 : b1 = false := hbi
                subst g1
                have hK2 := hK (ev, eW) (by first | exact hJ | (refine ⟨fun h => ?_, fun h => ?_, fun h => ?_, fun h => ?_, fun h => ?_⟩ <;> first | exact rfl | exact hJ.1 h | exact hJ.2.1 h | exact hJ.2.2.1 h | exact hJ.2.2.2.1 h | exact hJ.2.2.2.2 h | exact absurd h (by simp)))
                clear hK hJ hd hbi
                simp only [List.set_cons_zero, List.set_cons_succ, List.getD_cons_zero, List.getD_cons_succ, slu_t, slu_f, cond_true, cond_false] at hK2 ⊢
                generalize cond b18 _ _ = WW at hK2 ⊢
                refine wpOp_if rfl ?_
                go_simp
                exact hK2
              · have g2 : b2 = false := hbi
                subst g2
                have hK2 := hK (ev, eW) (by first | exact hJ | (refine ⟨fun h => ?_, fun h => ?_, fun h => ?_, fun h => ?_, fun h => ?_⟩ <;> first | exact rfl | exact hJ.1 h | exact hJ.2.1 h | exact hJ.2.2.1 h | exact hJ.2.2.2.1 h | exact hJ.2.2.2.2 h | exact absurd h (by simp)))
                clear hK hJ hd hbi
                simp only [List.set_cons_zero, List.set_cons_succ, List.getD_cons_zero, List.getD_cons_succ, slu_t, slu_f, cond_true, cond_false] at hK2 ⊢
                generalize cond b18 _ _ = WW at hK2 ⊢
                refine wpOp_if rfl ?_
                go_simp
                exact hK2
              · have g3 : b3 = false := hbi
                subst g3
                have hK2 := hK (ev, eW) (by first | exact hJ | (refine ⟨fun h => ?_, fun h => ?_, fun h => ?_, fun h => ?_, fun h => ?_⟩ <;> first | exact rfl | exact hJ.1 h | exact hJ.2.1 h | exact hJ.2.2.1 h | exact hJ.2.2.2.1 h | exact hJ.2.2.2.2 h | exact absurd h (by simp)))
                clear hK hJ hd hbi
                simp only [List.set_cons_zero, List.set_cons_succ, List.getD_cons_zero, List.getD_cons_succ, slu_t, slu_f, cond_true, cond_false] at hK2 ⊢
                generalize cond b18 _ _ = WW at hK2 ⊢
                refine wpOp_if rfl ?_
                go_simp
                exact hK2
              · have g4 : b4 = false := hbi
                have h2 : b2 = true := hd 2 (by simp [canDp])
                have h3 : b3 = true := hd 3 (by simp [canDp])
                subst g4 h2 h3
                have hK2 := hK (ev, eW) (by first | exact hJ | (refine ⟨fun h => ?_, fun h => ?_, fun h => ?_, fun h => ?_, fun h => ?_⟩ <;> first | exact rfl | exact hJ.1 h | exact hJ.2.1 h | exact hJ.2.2.1 h | exact hJ.2.2.2.1 h | exact hJ.2.2.2.2 h | exact absurd h (by simp)))
                clear hK hJ hd hbi
                simp only [List.set_cons_zero, List.set_cons_succ, List.getD_cons_zero, List.getD_cons_succ, slu_t, slu_f, cond_true, cond_false] at hK2 ⊢
                generalize cond b18 _ _ = WW at hK2 ⊢
                refine wpOp_if rfl ?_
                go_simp
                exact hK2
              · have g5 : b5 = false := hbi
                have h4 : b4 = true := hd 4 (by simp [canDp])
                subst g5 h4
                have hK2 := hK (ev, eW) (by first | exact hJ | (refine ⟨fun h => ?_, fun h => ?_, fun h => ?_, fun h => ?_, fun h => ?_⟩ <;> first | exact rfl | exact hJ.1 h | exact hJ.2.1 h | exact hJ.2.2.1 h | exact hJ.2.2.2.1 h | exact hJ.2.2.2.2 h | exact absurd h (by simp)))
                clear hK hJ hd hbi
                simp only [List.set_cons_zero, List.set_cons_succ, List.getD_cons_zero, List.getD_cons_succ, slu_t, slu_f, cond_true, cond_false] at hK2 ⊢
                generalize cond b18 _ _ = WW at hK2 ⊢
                refine wpOp_if rfl ?_
                go_simp
                exact hK2
              · have g6 : b6 = false := hbi
                have h5 : b5 = true := hd 5 (by simp [canDp])
                have f15 : b15 = false := by cases b15 with | false => rfl | true => exact absurd ((hJ.2.2.2.1 rfl).2.1) (by rw [g6]; simp)
                have f18 : b18 = false := by cases b18 with | false => rfl | true => exact absurd (hJ.2.2.2.2 rfl) (by rw [f15]; simp)
                subst g6 h5 f15 f18
                have hK2 := hK (ev, eW) (by first | exact hJ | (refine ⟨fun h => ?_, fun h => ?_, fun h => ?_, fun h => ?_, fun h => ?_⟩ <;> first | exact rfl | exact hJ.1 h | exact hJ.2.1 h | exact hJ.2.2.1 h | exact hJ.2.2.2.1 h | exact hJ.2.2.2.2 h | exact absurd h (by simp)))
                clear hK hJ hd hbi
                cases b14
                all_goals
                  simp only [List.set_cons_zero, List.set_cons_succ, List.getD_cons_zero, List.getD_cons_succ, slu_t, slu_f, cond_true, cond_false] at hK2 ⊢
                  refine wpOp_if rfl ?_
                  go_simp
                  exact hK2
              · have g7 : b7 = false := hbi
                subst g7
                have hK2 := hK (ev, eW) (by first | exact hJ | (refine ⟨fun h => ?_, fun h => ?_, fun h => ?_, fun h => ?_, fun h => ?_⟩ <;> first | exact rfl | exact hJ.1 h | exact hJ.2.1 h | exact hJ.2.2.1 h | exact hJ.2.2.2.1 h | exact hJ.2.2.2.2 h | exact absurd h (by simp)))
                clear hK hJ hd hbi
                simp only [List.set_cons_zero, List.set_cons_succ, List.getD_cons_zero, List.getD_cons_succ, slu_t, slu_f, cond_true, cond_false] at hK2 ⊢
                generalize cond b18 _ _ = WW at hK2 ⊢
                refine wpOp_if rfl ?_
                go_simp
                exact hK2
              · have g8 : b8 = false := hbi
                have h7 : b7 = true := hd 7 (by simp [canDp])
                subst g8 h7
                have hK2 := hK (ev, eW) (by first | exact hJ | (refine ⟨fun h => ?_, fun h => ?_, fun h => ?_, fun h => ?_, fun h => ?_⟩ <;> first | exact rfl | exact hJ.1 h | exact hJ.2.1 h | exact hJ.2.2.1 h | exact hJ.2.2.2.1 h | exact hJ.2.2.2.2 h | exact absurd h (by simp)))
                clear hK hJ hd hbi
                simp only [List.set_cons_zero, List.set_cons_succ, List.getD_cons_zero, List.getD_cons_succ, slu_t, slu_f, cond_true, cond_false] at hK2 ⊢
                generalize cond b18 _ _ = WW at hK2 ⊢
                refine wpOp_if rfl ?_
                go_simp
                exact hK2
              · have g9 : b9 = false := hbi
                have h8 : b8 = true := hd 8 (by simp [canDp])
                subst g9 h8
                have hK2 := hK (ev, eW) (by first | exact hJ | (refine ⟨fun h => ?_, fun h => ?_, fun h => ?_, fun h => ?_, fun h => ?_⟩ <;> first | exact rfl | exact hJ.1 h | exact hJ.2.1 h | exact hJ.2.2.1 h | exact hJ.2.2.2.1 h | exact hJ.2.2.2.2 h | exact absurd h (by simp)))
                clear hK hJ hd hbi
                simp only [List.set_cons_zero, List.set_cons_succ, List.getD_cons_zero, List.getD_cons_succ, slu_t, slu_f, cond_true, cond_false] at hK2 ⊢
                generalize cond b18 _ _ = WW at hK2 ⊢
                refine wpOp_if rfl ?_
                go_simp
                exact hK2
              · have g10 : b10 = false := hbi
                have h9 : b9 = true := hd 9 (by simp [canDp])
                have f12 : b12 = false := by cases b12 with | false => rfl | true => exact absurd (hJ.1 rfl) (by rw [g10]; simp)
                have f13 : b13 = false := by cases b13 with | false => rfl | true => exact absurd (hJ.2.1 rfl) (by rw [f12]; simp)
                have f14 : b14 = false := by cases b14 with | false => rfl | true => exact absurd (hJ.2.2.1 rfl) (by rw [f13]; simp)
                have f15 : b15 = false := by cases b15 with | false => rfl | true => exact absurd ((hJ.2.2.2.1 rfl).1) (by rw [f14]; simp)
                have f18 : b18 = false := by cases b18 with | false => rfl | true => exact absurd (hJ.2.2.2.2 rfl) (by rw [f15]; simp)
                subst g10 h9 f12 f13 f14 f15 f18
                have hK2 := hK (ev, eW) (by first | exact hJ | (refine ⟨fun h => ?_, fun h => ?_, fun h => ?_, fun h => ?_, fun h => ?_⟩ <;> first | exact rfl | exact hJ.1 h | exact hJ.2.1 h | exact hJ.2.2.1 h | exact hJ.2.2.2.1 h | exact hJ.2.2.2.2 h | exact absurd h (by simp)))
                clear hK hJ hd hbi
                simp only [List.set_cons_zero, List.set_cons_succ, List.getD_cons_zero, List.getD_cons_succ, slu_t, slu_f, cond_true, cond_false] at hK2 ⊢
                refine wpOp_if rfl ?_
                go_simp
                exact hK2
              · have g11 : b11 = false := hbi
                subst g11
                have hK2 := hK (ev, eW) (by first | exact hJ | (refine ⟨fun h => ?_, fun h => ?_, fun h => ?_, fun h => ?_, fun h => ?_⟩ <;> first | exact rfl | exact hJ.1 h | exact hJ.2.1 h | exact hJ.2.2.1 h | exact hJ.2.2.2.1 h | exact hJ.2.2.2.2 h | exact absurd h (by simp)))
                clear hK hJ hd hbi
                simp only [List.set_cons_zero, List.set_cons_succ, List.getD_cons_zero, List.getD_cons_succ, slu_t, slu_f, cond_true, cond_false] at hK2 ⊢
                generalize cond b18 _ _ = WW at hK2 ⊢
                refine wpOp_if rfl ?_
                go_simp
                exact hK2
              · have g12 : b12 = false := hbi
                have h10 : b10 = true := hd 10 (by simp [canDp])
                have h11 : b11 = true := hd 11 (by simp [canDp])
                have f13 : b13 = false := by cases b13 with | false => rfl | true => exact absurd (hJ.2.1 rfl) (by rw [g12]; simp)
                have f14 : b14 = false := by cases b14 with | false => rfl | true => exact absurd (hJ.2.2.1 rfl) (by rw [f13]; simp)
                have f15 : b15 = false := by cases b15 with | false => rfl | true => exact absurd ((hJ.2.2.2.1 rfl).1) (by rw [f14]; simp)
                have f18 : b18 = false := by cases b18 with | false => rfl | true => exact absurd (hJ.2.2.2.2 rfl) (by rw [f15]; simp)
                subst g12 h10 h11 f13 f14 f15 f18
                have hK2 := hK (ev, eW) (by first | exact hJ | (refine ⟨fun h => ?_, fun h => ?_, fun h => ?_, fun h => ?_, fun h => ?_⟩ <;> first | exact rfl | exact hJ.1 h | exact hJ.2.1 h | exact hJ.2.2.1 h | exact hJ.2.2.2.1 h | exact hJ.2.2.2.2 h | exact absurd h (by simp)))
                clear hK hJ hd hbi
                simp only [List.set_cons_zero, List.set_cons_succ, List.getD_cons_zero, List.getD_cons_succ, slu_t, slu_f, cond_true, cond_false] at hK2 ⊢
                refine wpOp_if rfl ?_
                go_simp
                exact hK2
              · have g13 : b13 = false := hbi
                have h12 : b12 = true := hd 12 (by simp [canDp])
                have f14 : b14 = false := by cases b14 with | false => rfl | true => exact absurd (hJ.2.2.1 rfl) (by rw [g13]; simp)
                have f15 : b15 = false := by cases b15 with | false => rfl | true => exact absurd ((hJ.2.2.2.1 rfl).1) (by rw [f14]; simp)
                have f18 : b18 = false := by cases b18 with | false => rfl | true => exact absurd (hJ.2.2.2.2 rfl) (by rw [f15]; simp)
                subst g13 h12 f14 f15 f18
                have hK2 := hK (ev, eW) (by first | exact hJ | (refine ⟨fun h => ?_, fun h => ?_, fun h => ?_, fun h => ?_, fun h => ?_⟩ <;> first | exact rfl | exact hJ.1 h | exact hJ.2.1 h | exact hJ.2.2.1 h | exact hJ.2.2.2.1 h | exact hJ.2.2.2.2 h | exact absurd h (by simp)))
                clear hK hJ hd hbi
                simp only [List.set_cons_zero, List.set_cons_succ, List.getD_cons_zero, List.getD_cons_succ, slu_t, slu_f, cond_true, cond_false] at hK2 ⊢
                refine wpOp_if rfl ?_
                go_simp
                exact hK2
              · have g14 : b14 = false := hbi
                have h13 : b13 = true := hd 13 (by simp [canDp])
                have f15 : b15 = false := by cases b15 with | false => rfl | true => exact absurd ((hJ.2.2.2.1 rfl).1) (by rw [g14]; simp)
                have f18 : b18 = false := by cases b18 with | false => rfl | true => exact absurd (hJ.2.2.2.2 rfl) (by rw [f15]; simp)
                subst g14 h13 f15 f18
                have hK2 := hK (ev, eW) (by first | exact hJ | (refine ⟨fun h => ?_, fun h => ?_, fun h => ?_, fun h => ?_, fun h => ?_⟩ <;> first | exact rfl | exact hJ.1 h | exact hJ.2.1 h | exact hJ.2.2.1 h | exact hJ.2.2.2.1 h | exact hJ.2.2.2.2 h | exact absurd h (by simp)))
                clear hK hJ hd hbi
                simp only [List.set_cons_zero, List.set_cons_succ, List.getD_cons_zero, List.getD_cons_succ, slu_t, slu_f, cond_true, cond_false] at hK2 ⊢
                refine wpOp_if rfl ?_
                go_simp
                exact hK2
              · have g15 : b15 = false := hbi
                have h6 : b6 = true := hd 6 (by simp [canDp])
                have h14 : b14 = true := hd 14 (by simp [canDp])
                have f18 : b18 = false := by cases b18 with | false => rfl | true => exact absurd (hJ.2.2.2.2 rfl) (by rw [g15]; simp)
                subst g15 h6 h14 f18
                clear hd hbi
                refine wpOp_append rfl rfl _ _ 44 rfl BB 3 i0 (.int .i64 0) 1 8 Tryz.underInts hi hz0 hz1 hz2 rfl (by decide) (.slice sad c scap) c _ rfl ((show wr.drew.ownsRow BB 3 1 (.slice sad c scap) c _ from hown).alloc _) ⟨wr.heap.size, 0, none⟩ 1 1 [Value.int .i64 q] rfl rfl (cell_one_new _ _ _) (fun u hu => by rw [List.mem_singleton.1 hu]; rfl) (by have : maxLen = 9223372036854775807 := rfl; omega) (by omega) (by show BB ≤ (wr.drew.alloc (.cells #[.int .i64 q] 3)).heap.size; rw [World.size_alloc]; show BB ≤ wr.heap.size + 1; omega) (fun v' w' r1 r2 => ?_)
                exact hK (v', w') ⟨hJ.1, hJ.2.1, hJ.2.2.1, fun _ => ⟨rfl, rfl, own_shape r1, r1, r2⟩, fun h => absurd h (by simp)⟩
              · have g16 : b16 = false := hbi
                have h0 : b0 = true := hd 0 (by simp [canDp])
                have h1 : b1 = true := hd 1 (by simp [canDp])
                have h15 : b15 = true := hd 15 (by simp [canDp])
                subst g16 h0 h1 h15
                have hK2 := hK (ev, eW) (by first | exact hJ | (refine ⟨fun h => ?_, fun h => ?_, fun h => ?_, fun h => ?_, fun h => ?_⟩ <;> first | exact rfl | exact hJ.1 h | exact hJ.2.1 h | exact hJ.2.2.1 h | exact hJ.2.2.2.1 h | exact hJ.2.2.2.2 h | exact absurd h (by simp)))
                clear hK hJ hd hbi
                simp only [List.set_cons_zero, List.set_cons_succ, List.getD_cons_zero, List.getD_cons_succ, slu_t, slu_f, cond_true, cond_false] at hK2 ⊢
                generalize cond b18 _ _ = WW at hK2 ⊢
                refine wpOp_if rfl ?_
                go_simp
                exact hK2
              · have g17 : b17 = false := hbi
                have h16 : b16 = true := hd 16 (by simp [canDp])
                subst g17 h16
                have hK2 := hK (ev, eW) (by first | exact hJ | (refine ⟨fun h => ?_, fun h => ?_, fun h => ?_, fun h => ?_, fun h => ?_⟩ <;> first | exact rfl | exact hJ.1 h | exact hJ.2.1 h | exact hJ.2.2.1 h | exact hJ.2.2.2.1 h | exact hJ.2.2.2.2 h | exact absurd h (by simp)))
                clear hK hJ hd hbi
                simp only [List.set_cons_zero, List.set_cons_succ, List.getD_cons_zero, List.getD_cons_succ, slu_t, slu_f, cond_true, cond_false] at hK2 ⊢
                generalize cond b18 _ _ = WW at hK2 ⊢
                refine wpOp_if rfl ?_
                go_simp
                exact hK2
              · have g18 : b18 = false := hbi
                have h15 : b15 = true := hd 15 (by simp [canDp])
                have h17 : b17 = true := hd 17 (by simp [canDp])
                subst g18 h15 h17
                obtain ⟨⟨ea, ec, he⟩, r1, r2⟩ := (hJ.2.2.2.1 rfl).2.2.out
                subst he
                have hK2 := hK (.slice ea (c + 1) ec, eW) ⟨hJ.1, hJ.2.1, hJ.2.2.1, hJ.2.2.2.1, fun _ => rfl⟩
                have yE : eW.heap[Nb]? = wr.heap[Nb]? := (r2.block Nb hNbA hob).trans (Below.heap_alloc _ _ _ hNl)
                have y2e : eW.cell? ⟨Nb, j * 3 + 2, none⟩ = some (.slice sad c scap) := (World.cell?_of_block (w := wr) yE).trans y2
                have z2e : eW.frozen? ⟨Nb, j * 3 + 2, none⟩ = false := (HS.out.row.later yE).fz _
                clear hK hJ hd hbi r1 r2 yE
                simp only [List.set_cons_zero, List.set_cons_succ, List.getD_cons_zero, List.getD_cons_succ, slu_t, slu_f, cond_true, cond_false] at hK2 ⊢
                refine wpOp_if rfl ?_
                go_simp
                exact hK2
          case hF =>
            rintro ⟨ev, eW⟩ hJ
            obtain ⟨⟨ea, ec, he⟩, r1, r2⟩ := (hJ.2.2.2.1 rfl).2.2.out
            subst he
            have HS2 : Hid (GcS w (eW.setCell ⟨Nb, j * 3 + 2, none⟩ (.slice ea (c + 1) ec)) Nb O.length j BB (fun x => if x = j then ((vals' x).1, (vals' x).2.1, .slice ea (c + 1) ec) else vals' x) (cnN ns O) (.slice ea (c + 1) ec) ((nl.take (c + 1)).map fun b => (O.idxOf b.toNat : Int))) := HS.out.step hob (by rw [hLc]) (by
              rw [List.take_succ_eq_append_getElem hcn, List.map_append]
              have : nl[c] = (p : Int) := by rw [← hp, List.getD_eq_getElem?_getD, List.getElem?_eq_getElem hcn]; rfl
              rw [List.map_singleton, this, Int.toNat_natCast, ← HQI.out]) r1 r2
            have HG2 : Hid (Bx (eW.setCell ⟨Nb, j * 3 + 2, none⟩ (.slice ea (c + 1) ec)) G0 #[.slice none 0 0, .int .i64 0] 24) := by
              have hGl := HG.out.lt
              have hoG : some G0 ≠ Value.ownBlock (.slice sad c scap) := fun e => by
                rcases hown.2 with ⟨h1, _⟩ | ⟨g, cp, cur, h1, h2, _⟩
                · rw [h1] at e; cases e
                · rw [h1] at e
                  have : G0 = g := by simpa [Value.ownBlock] using e
                  have := HS.out.hB
                  omega
              have : Bx eW G0 #[.slice none 0 0, .int .i64 0] 24 := (r2.block G0 (by rw [World.size_alloc]; show G0 < wr.heap.size + 1; omega) hoG).trans ((Below.heap_alloc _ _ _ hGl).trans HG.out)
              exact this.other hne0 _ _
            clear hJ r1 r2 y0 y1 y2 y2a c0 c1 c2 c3 xC hBK hBC hown
            simp only [show List.replicate 19 true = [true, true, true, true, true, true, true, true, true, true, true, true, true, true, true, true, true, true, true] from rfl, List.getD_cons_zero, List.getD_cons_succ, slu_t, cond_true]
            generalize eW.setCell ⟨Nb, j * 3 + 2, none⟩ (.slice ea (c + 1) ec) = W8 at HS2 HG2 ⊢
            go_wp2
            go_roundw
            case rel => exact ⟨c + 1, _, _, by omega, by go_num, HS2, HG2⟩
            case measure => simp [intOf]; omega
        · have HS3 : Hid (GbS w wr Nb O.length (j + 1) vals' (cnN ns O)) := by
            have hLc : ((nl.take c).map fun b => (O.idxOf b.toNat : Int)).length = c := by rw [List.length_map, List.length_take]; have := HLk.out; omega
            have hown := HS.out.own
            rw [hLc] at hown
            obtain ⟨sad, scap, hsv⟩ := own_shape hown
            rw [hsv] at hown
            have hq := iat_own hown (fun a ha => by
              obtain ⟨x, hx, rfl⟩ := List.mem_map.1 ha
              have := List.idxOf_le_length (a := x.toNat) (l := O)
              constructor <;> omega)
            have hall : (nl.take c) = nl := List.take_of_length_le (by have := HLk.out; omega)
            refine ⟨HS.out.row, fun i hi => ?_, fun i h1 h2 => HS.out.zr i (by omega) h2, HS.out.bl, HS.out.hN⟩
            by_cases e : i = j
            · subst e
              refine ⟨HS.out.me.1, HS.out.me.2.1, sad, c, scap, HS.out.me.2.2.trans hsv, hq.2.1, hq.2.2, ?_⟩
              rw [HCN.out]
              have h1 := hq.1
              rw [hall] at h1
              exact ⟨h1.1, fun b off hp e => by have := h1.2 b off hp e; have := HS.out.hB; omega⟩
            · obtain ⟨q1, q2, ka, kl, kc, q3, q4, q5, q6, _⟩ := HS.out.dn i (by omega)
              exact ⟨q1, q2, ka, kl, kc, q3, q4, q5, q6⟩
          go_wp2
          go_roundw
          case rel => exact ⟨j + 1, vals', by omega, by go_num, HS3, HG⟩
          case measure => simp [intOf]; omega
    · obtain ⟨d0, d1⟩ := HG.out.c2
      have z0 := HG.out.fz 0
      have z1 := HG.out.fz 1
      have HE : Hid (GbS w wr Nb O.length j vals (cnN ns O)) := HS
      have HG9 := (HG.out.set 0 (.slice (some ⟨Nb, 0, none⟩) O.length O.length)).set 1 (.int .i64 0)
      clear HS
      go_wp2
      have hk9 : ∀ k, k ≠ G0 → ((wr.setCell ⟨G0, 0, none⟩ (.slice (some ⟨Nb, 0, none⟩) O.length O.length)).setCell ⟨G0, 1, none⟩ (.int .i64 0)).heap[k]? = wr.heap[k]? := fun k hk => (Below.heap_setCell _ _ _ _ hk).trans (Below.heap_setCell _ _ _ _ hk)
      have hs9 : ((wr.setCell ⟨G0, 0, none⟩ (.slice (some ⟨Nb, 0, none⟩) O.length O.length)).setCell ⟨G0, 1, none⟩ (.int .i64 0)).heap.size = wr.heap.size := by rw [World.size_setCell, World.size_setCell]
      have bl9 : Below w.heap.size w ((wr.setCell ⟨G0, 0, none⟩ (.slice (some ⟨Nb, 0, none⟩) O.length O.length)).setCell ⟨G0, 1, none⟩ (.int .i64 0)) := (HE.out.bl.setCell (p := ⟨G0, 0, none⟩) hGw _).setCell (p := ⟨G0, 1, none⟩) hGw _
      generalize (wr.setCell ⟨G0, 0, none⟩ (.slice (some ⟨Nb, 0, none⟩) O.length O.length)).setCell ⟨G0, 1, none⟩ (.int .i64 0) = W9 at HG9 hk9 hs9 bl9 ⊢
      have g0 : W9.cell? ⟨G0, 0, none⟩ = some (.slice (some ⟨Nb, 0, none⟩) O.length O.length) := HG9.cell 0
      have g1 : W9.cell? ⟨G0, 1, none⟩ = some (.int .i64 0) := HG9.cell 1
      refine bodyPost_ret (v := gv (some ⟨Nb, 0, none⟩) O.length O.length 0) (by simp [results, Tryz.results28, go_sem, g0, g1]) rfl ?_
      refine ⟨⟨_, rfl, fun W' hW1 hW2 => ⟨some ⟨Nb, 0, none⟩, O.length, O.length, rfl, Nat.le_refl _, ?_, (show i64 0 from ⟨by decide, by decide⟩), ?_, fun hp => ⟨Nb, 0, rfl, ?_, fun i hi => ?_⟩⟩⟩, bl9⟩
      · have : maxLen = 9223372036854775807 := rfl
        omega
      · show _ = (cnN ns O).length
        unfold cnN
        rw [List.length_map]
      · have := HE.out.row.lt; omega
      · obtain ⟨q1, q2, ka, kl, kc, q3, q4, q5, q6⟩ := HE.out.dn i (by omega)
        have hNl := HE.out.row.lt
        have hNw := HE.out.hN
        have hr := (HE.out.row.later (hk9 Nb (by omega))).later (hW2 Nb hNw (by omega))
        obtain ⟨e0, e1, e2⟩ := hr.cells hi
        rw [q1] at e0
        rw [q2] at e1
        rw [q3] at e2
        have q7 := (q6.keep (W' := W9) (by rw [hs9]; exact Nat.le_refl _) (fun b hb _ => hk9 b (by omega))).keep hW1 (fun b hb hl => hW2 b (by omega) hl)
        have hcn := cnN_at ns O hi
        have hal : O[i] < len := HO.out _ (List.getElem_mem hi)
        obtain ⟨b, off, _, _, hcc⟩ := HNN.out.2 (by omega)
        obtain ⟨_, _, _, _, _, hk3, hk4, _⟩ := hcc O[i] hal
        refine ⟨ka, kl, kc, q4, q5, ?_, ?_, q7.1, ?_, ?_, ?_⟩
        · show i64 ((cnN ns O).getD i nd0).kind
          rw [hcn]; exact hk3
        · show ((cnN ns O).getD i nd0).text.length ≤ _
          rw [hcn]; exact hk4
        · rw [Nat.zero_add]; exact e0
        · rw [Nat.zero_add]; exact e1
        · rw [Nat.zero_add]; exact e2
end Go.Proofs.YtcplgjclkjcekaaGreatDoor.Grp
end
