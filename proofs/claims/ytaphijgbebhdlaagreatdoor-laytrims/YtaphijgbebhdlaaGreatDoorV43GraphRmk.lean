/- Several texts as one: GraphRmk, GraphRfnd, GraphRadd. -/
import Derived.Test.YtaphijgbebhdlaaGreatDoorV21GraphPls2
import Derived.Test.YtaphijgbebhdlaaGreatDoorV22GraphPlc2
import Derived.Deep.RegionLaw
import Derived.Laws.OwnMore
import Derived.BigRegion
import Derived.BigQuiet
import Derived.Deep.QuietTactic
section
/- The document's maker of graphs, in memory. -/
namespace Go.Proofs.YtaphijgbebhdlaaGreatDoor.Grp
open Utf Rws Pln Flw
open Go.RowKit Go.Maps
set_option linter.unusedSimpArgs false
set_option linter.unusedVariables false
set_option maxRecDepth 100000
set_option maxHeartbeats 4000000

/-- anchors' cells, the first one first -/
def acs (an : List (Ln × Nat)) : List Value := an.reverse.flatMap fun q => [.string (mk q.1), .int .i64 (q.2 : Int)]
theorem acs_cons (q : Ln × Nat) (an : List (Ln × Nat)) : acs (q :: an) = acs an ++ [.string (mk q.1), .int .i64 (q.2 : Int)] := by
  unfold acs
  rw [List.reverse_cons, List.flatMap_append]
  simp
theorem acs_len (an : List (Ln × Nat)) : (acs an).length = an.length * 2 := by
  induction an with
  | nil => rfl
  | cons q t ih =>
    rw [acs_cons, List.length_append, ih, List.length_cons]
    simp only [List.length_cons, List.length_nil]
    omega
/-- the cells of the anchor that is told by how many came behind it -/
theorem acs_get : ∀ (an : List (Ln × Nat)) (i : Nat) (q : Ln × Nat), an[i]? = some q → (acs an)[(an.length - 1 - i) * 2]? = some (.string (mk q.1)) ∧ (acs an)[(an.length - 1 - i) * 2 + 1]? = some (.int .i64 (q.2 : Int))
  | [], i, q, h => by cases h
  | p :: t, 0, q, h => by
    simp only [List.getElem?_cons_zero, Option.some.injEq] at h
    subst h
    rw [acs_cons]
    have hl := acs_len t
    simp only [List.length_cons, Nat.sub_zero, Nat.add_sub_cancel]
    rw [List.getElem?_append_right (by omega), List.getElem?_append_right (by omega), hl, Nat.sub_self, show t.length * 2 + 1 - t.length * 2 = 1 by omega]
    exact ⟨rfl, rfl⟩
  | p :: t, i + 1, q, h => by
    have h' : t[i]? = some q := by simpa using h
    have hi : i < t.length := (List.getElem?_eq_some_iff.1 h').1
    have := acs_get t i q h'
    have hl := acs_len t
    rw [acs_cons]
    simp only [List.length_cons]
    rw [show t.length + 1 - 1 - (i + 1) = t.length - 1 - i by omega]
    rw [List.getElem?_append_left (by omega), List.getElem?_append_left (by omega)]
    exact this
structure MkS (w0 W : World) (K : Nat) (nv lv : Value) (l : List (Nd × Value)) (an : List (Ln × Nat)) (e : Nat) : Prop where
  bx : Bx W K #[nv, .int .i64 0, lv, .int .i64 (e : Int)] 96
  ow : W.ownsRow (K + 1) 47 3 nv l.length (ncs l)
  ol : W.ownsRow (K + 1) 119 2 lv an.length (acs an)
  kk : ∀ p ∈ l, KdOk W K nv p ∧ KdOk W K lv p
  ne : ∀ g, nv.ownBlock = some g → some g ≠ lv.ownBlock
  bl : Below w0.heap.size w0 W
  hk : w0.heap.size ≤ K
  ha : ∀ q ∈ an, q.2 ≤ 1000000
  hl : an.length ≤ l.length
/-- what a call may have turned -/
structure Cm2 (K : Nat) (nv lv : Value) (W W' : World) : Prop where
  os : W'.os = W.os
  tape : W'.tape = W.tape
  output : W'.output = W.output
  size : W.heap.size ≤ W'.heap.size
  bk : ∀ k, k < W.heap.size → k ≠ K → some k ≠ nv.ownBlock → some k ≠ lv.ownBlock → W'.heap[k]? = W.heap[k]?
theorem Cm2.refl (K : Nat) (nv lv : Value) (W : World) : Cm2 K nv lv W W := ⟨rfl, rfl, rfl, Nat.le_refl _, fun _ _ _ _ _ => rfl⟩
theorem Cm2.trans {K : Nat} {nv nv' lv lv' : Value} {A B C : World} (h : Cm2 K nv lv A B) (ho : OB nv nv' A) (hp : OB lv lv' A) (k : Cm2 K nv' lv' B C) : Cm2 K nv lv A C :=
  ⟨k.os.trans h.os, k.tape.trans h.tape, k.output.trans h.output, Nat.le_trans h.size k.size, fun i hi h1 h2 h3 => (k.bk i (Nat.lt_of_lt_of_le hi h.size) h1 (ho.ne hi h2) (hp.ne hi h3)).trans (h.bk i hi h1 h2 h3)⟩
theorem Cm2.of_below {K : Nat} {nv lv : Value} {W W' : World} (h : Below W.heap.size W W') : Cm2 K nv lv W W' := ⟨h.os, h.tape, h.output, h.size, fun k hk _ _ _ => h.block k hk⟩
variable {w0 W W' : World} {K : Nat} {nv lv : Value} {l : List (Nd × Value)} {an : List (Ln × Nat)} {e : Nat}
theorem mks_keep (h : MkS w0 W K nv lv l an e) (hs : W.heap.size ≤ W'.heap.size) (ho : W'.os = W.os) (ht : W'.tape = W.tape) (hu : W'.output = W.output)
    (X : Nat → Prop) (hX : ∀ k, X k → w0.heap.size ≤ k ∧ k ≠ K ∧ some k ≠ nv.ownBlock ∧ some k ≠ lv.ownBlock ∧ ∀ p ∈ l, ¬ kb p k) (hb : ∀ k, k < W.heap.size → ¬ X k → W'.heap[k]? = W.heap[k]?) : MkS w0 W' K nv lv l an e := by
  have hKl := h.bx.lt
  have hkb : ∀ p ∈ l, ∀ b, kb p b → W'.heap[b]? = W.heap[b]? := fun p hp b hkb => hb b ((h.kk p hp).1.lt hkb).2.1 (fun x => (hX b x).2.2.2.2 p hp hkb)
  refine ⟨(hb K hKl (fun x => (hX K x).2.1 rfl)).trans h.bx, own_keep h.ow (fun g hg => hb g (own_block h.ow hg).2 (fun x => (hX g x).2.2.1 hg.symm)), own_keep h.ol (fun g hg => hb g (own_block h.ol hg).2 (fun x => (hX g x).2.2.2.1 hg.symm)),
    fun p hp => ⟨(h.kk p hp).1.keep hs (fun b q => ⟨hkb p hp b q, ((h.kk p hp).1.lt q).2.2⟩), (h.kk p hp).2.keep hs (fun b q => ⟨hkb p hp b q, ((h.kk p hp).2.lt q).2.2⟩)⟩, h.ne, ?_, h.hk, h.ha, h.hl⟩
  refine h.bl.trans ⟨ho, ht, hu, hs, fun k hk => ?_⟩
  have := h.bl.size
  exact hb k (by omega) (fun x => by have := (hX k x).1; omega)
theorem mks_later (h : MkS w0 W K nv lv l an e) (hb : Below W.heap.size W W') : MkS w0 W' K nv lv l an e :=
  mks_keep h hb.size hb.os hb.tape hb.output (fun _ => False) (fun _ x => x.elim) (fun k hk _ => hb.block k hk)
/-- an error is told -/
theorem mks_err (h : MkS w0 W K nv lv l an e) (e' : Nat) : MkS w0 (W.setCell ⟨K, 3, none⟩ (.int .i64 (e' : Int))) K nv lv l an e' ∧ Cm2 K nv lv W (W.setCell ⟨K, 3, none⟩ (.int .i64 (e' : Int))) := by
  have hs : (W.setCell ⟨K, 3, none⟩ (.int .i64 (e' : Int))).heap.size = W.heap.size := World.size_setCell _ _ _
  have hset : ∀ b, b ≠ K → (W.setCell ⟨K, 3, none⟩ (.int .i64 (e' : Int))).heap[b]? = W.heap[b]? := fun b hb => Below.heap_setCell _ _ _ _ hb
  have hkb : ∀ p ∈ l, ∀ b, kb p b → (W.setCell ⟨K, 3, none⟩ (.int .i64 (e' : Int))).heap[b]? = W.heap[b]? := fun p hp b hkb => hset b (by have := ((h.kk p hp).1.lt hkb).1; omega)
  refine ⟨⟨h.bx.set 3 _, own_keep h.ow (fun g hg => hset g (by have := (own_block h.ow hg).1; omega)), own_keep h.ol (fun g hg => hset g (by have := (own_block h.ol hg).1; omega)),
    fun p hp => ⟨(h.kk p hp).1.keep (by rw [hs]; exact Nat.le_refl _) (fun b q => ⟨hkb p hp b q, ((h.kk p hp).1.lt q).2.2⟩), (h.kk p hp).2.keep (by rw [hs]; exact Nat.le_refl _) (fun b q => ⟨hkb p hp b q, ((h.kk p hp).2.lt q).2.2⟩)⟩, h.ne, h.bl.setCell (p := ⟨K, 3, none⟩) h.hk _, h.hk, h.ha, h.hl⟩,
    ⟨rfl, rfl, rfl, by rw [hs]; exact Nat.le_refl _, fun k _ e1 _ _ => hset k e1⟩⟩
/-- a node is appended, and the maker holds the new row -/
theorem mks_app {A eW : World} {ev : Value} {k : Int} {x : Ln} (h : MkS w0 A K nv lv l an e) (hk : i64 k) (hx : x.length ≤ 9223372036854775807)
    (r1 : eW.ownsRow (K + 1) 47 3 ev (l.length + 1) (ncs l ++ [.int .i64 k, .string (mk x), .slice none 0 0])) (r2 : (A.alloc (.cells #[.int .i64 k, .string (mk x), .slice none 0 0] 47)).grownBy eW nv.ownBlock) (r3 : ev.ownBlock = nv.ownBlock ∨ ev.ownBlock = some (A.alloc (.cells #[.int .i64 k, .string (mk x), .slice none 0 0] 47)).heap.size) :
    MkS w0 (eW.setCell ⟨K, 0, none⟩ ev) K ev lv (l ++ [(⟨k, x, []⟩, .slice none 0 0)]) an e ∧ Cm2 K nv lv A (eW.setCell ⟨K, 0, none⟩ ev) ∧ OB nv ev A := by
  have hs : (A.alloc (.cells #[.int .i64 k, .string (mk x), .slice none 0 0] 47)).heap.size = A.heap.size + 1 := World.size_alloc _ _
  have hKl := h.bx.lt
  have hw0 := h.hk
  have hws := h.bl.size
  have hss : (eW.setCell ⟨K, 0, none⟩ ev).heap.size = eW.heap.size := World.size_setCell _ _ _
  have hsz := r2.size
  have hown : ∀ g, nv.ownBlock = some g → K + 1 ≤ g ∧ g < A.heap.size := fun g hg => own_block h.ow hg
  have hkeep : ∀ b, b < A.heap.size → some b ≠ nv.ownBlock → eW.heap[b]? = A.heap[b]? := fun b hb hn => (r2.block b (by omega) hn).trans (Below.heap_alloc A _ b hb)
  have hset : ∀ b, b ≠ K → (eW.setCell ⟨K, 0, none⟩ ev).heap[b]? = eW.heap[b]? := fun b hb => Below.heap_setCell _ _ _ _ hb
  have hkE : Bx eW K #[nv, .int .i64 0, lv, .int .i64 (e : Int)] 96 := (hkeep K hKl (fun e => by have := (hown K e.symm).1; omega)).trans h.bx
  have hOB : OB nv ev A := by
    rcases r3 with q | q
    · exact .inl q
    · exact .inr ⟨_, q, by omega⟩
  have hch : Cm2 K nv lv A (eW.setCell ⟨K, 0, none⟩ ev) := ⟨r2.os, r2.tape, r2.output, by rw [hss]; omega, fun b hb e1 e2 _ => (hset b e1).trans (hkeep b hb e2)⟩
  have hlb : ∀ g, lv.ownBlock = some g → g < A.heap.size ∧ some g ≠ nv.ownBlock ∧ g ≠ K := fun g hg => ⟨(own_block h.ol hg).2, fun q => h.ne g q.symm hg.symm, by have := (own_block h.ol hg).1; omega⟩
  refine ⟨⟨hkE.set 0 ev, ?_, ?_, fun p hp => ?_, ?_, ?_, h.hk, h.ha, by rw [List.length_append]; have := h.hl; omega⟩, hch, hOB⟩
  · rw [List.length_append, List.length_singleton, ncs_app]
    exact own_keep r1 (fun g hg => hset g (by have := (own_block r1 hg).1; omega))
  · exact own_keep h.ol (fun g hg => (hset g (hlb g hg).2.2).trans (hkeep g (hlb g hg).1 (hlb g hg).2.1))
  · rcases List.mem_append.1 hp with hp | hp
    · have hbk : ∀ b, kb p b → (eW.setCell ⟨K, 0, none⟩ ev).heap[b]? = A.heap[b]? := fun b hb => by
        have q := (h.kk p hp).1.lt hb
        exact (hset b (by omega)).trans (hkeep b q.2.1 q.2.2)
      exact ⟨(h.kk p hp).1.keep (by rw [hss]; omega) (fun b hb => ⟨hbk b hb, hOB.ne ((h.kk p hp).1.lt hb).2.1 ((h.kk p hp).1.lt hb).2.2⟩), (h.kk p hp).2.keep (by rw [hss]; omega) (fun b hb => ⟨hbk b hb, ((h.kk p hp).2.lt hb).2.2⟩)⟩
    · rw [List.mem_singleton.1 hp]
      have q : ∀ u, KdOk (eW.setCell ⟨K, 0, none⟩ ev) K u (⟨k, x, []⟩, .slice none 0 0) := fun u => ⟨hk, hx, none, 0, 0, rfl, Nat.le_refl _, Nat.zero_le _, ⟨rfl, fun h => absurd h (by simp)⟩, fun _ _ h => absurd h (by simp)⟩
      exact ⟨q _, q _⟩
  · intro g hg
    rcases r3 with q | q
    · rw [q] at hg; exact h.ne g hg
    · rw [q] at hg
      cases hg
      intro q2
      have := (hlb _ q2.symm).1
      omega
  · have b1 : Below w0.heap.size w0 (A.alloc (.cells #[.int .i64 k, .string (mk x), .slice none 0 0] 47)) := h.bl.trans ((below_alloc A _).mono h.bl.size)
    refine (b1.grown r2 b1.size (fun g e => ?_)).setCell (p := ⟨K, 0, none⟩) (by show w0.heap.size ≤ K; omega) _
    have := (hown g e).1
    omega
/-- an anchor is appended -/
theorem mks_anc {A eW : World} {ev : Value} {x : Ln} {n : Nat} (h : MkS w0 A K nv lv l an e) (hn : n ≤ 1000000) (hal : an.length < l.length)
    (r1 : eW.ownsRow (K + 1) 119 2 ev (an.length + 1) (acs an ++ [.string (mk x), .int .i64 (n : Int)])) (r2 : (A.alloc (.cells #[.string (mk x), .int .i64 (n : Int)] 119)).grownBy eW lv.ownBlock) (r3 : ev.ownBlock = lv.ownBlock ∨ ev.ownBlock = some (A.alloc (.cells #[.string (mk x), .int .i64 (n : Int)] 119)).heap.size) :
    MkS w0 (eW.setCell ⟨K, 2, none⟩ ev) K nv ev l ((x, n) :: an) e ∧ Cm2 K nv lv A (eW.setCell ⟨K, 2, none⟩ ev) ∧ OB lv ev A := by
  have hs : (A.alloc (.cells #[.string (mk x), .int .i64 (n : Int)] 119)).heap.size = A.heap.size + 1 := World.size_alloc _ _
  have hKl := h.bx.lt
  have hw0 := h.hk
  have hws := h.bl.size
  have hss : (eW.setCell ⟨K, 2, none⟩ ev).heap.size = eW.heap.size := World.size_setCell _ _ _
  have hsz := r2.size
  have hown : ∀ g, lv.ownBlock = some g → K + 1 ≤ g ∧ g < A.heap.size := fun g hg => own_block h.ol hg
  have hkeep : ∀ b, b < A.heap.size → some b ≠ lv.ownBlock → eW.heap[b]? = A.heap[b]? := fun b hb hn => (r2.block b (by omega) hn).trans (Below.heap_alloc A _ b hb)
  have hset : ∀ b, b ≠ K → (eW.setCell ⟨K, 2, none⟩ ev).heap[b]? = eW.heap[b]? := fun b hb => Below.heap_setCell _ _ _ _ hb
  have hkE : Bx eW K #[nv, .int .i64 0, lv, .int .i64 (e : Int)] 96 := (hkeep K hKl (fun e => by have := (hown K e.symm).1; omega)).trans h.bx
  have hOB : OB lv ev A := by
    rcases r3 with q | q
    · exact .inl q
    · exact .inr ⟨_, q, by omega⟩
  have hch : Cm2 K nv lv A (eW.setCell ⟨K, 2, none⟩ ev) := ⟨r2.os, r2.tape, r2.output, by rw [hss]; omega, fun b hb e1 _ e3 => (hset b e1).trans (hkeep b hb e3)⟩
  have hnb : ∀ g, nv.ownBlock = some g → g < A.heap.size ∧ some g ≠ lv.ownBlock ∧ g ≠ K := fun g hg => ⟨(own_block h.ow hg).2, h.ne g hg, by have := (own_block h.ow hg).1; omega⟩
  refine ⟨⟨hkE.set 2 ev, ?_, ?_, fun p hp => ?_, ?_, ?_, h.hk, fun q hq => ?_, hal⟩, hch, hOB⟩
  · exact own_keep h.ow (fun g hg => (hset g (hnb g hg).2.2).trans (hkeep g (hnb g hg).1 (hnb g hg).2.1))
  · rw [List.length_cons, acs_cons]
    exact own_keep r1 (fun g hg => hset g (by have := (own_block r1 hg).1; omega))
  · have hbk : ∀ b, kb p b → (eW.setCell ⟨K, 2, none⟩ ev).heap[b]? = A.heap[b]? := fun b hb => by
      have q := (h.kk p hp).2.lt hb
      exact (hset b (by omega)).trans (hkeep b q.2.1 q.2.2)
    exact ⟨(h.kk p hp).1.keep (by rw [hss]; omega) (fun b hb => ⟨hbk b hb, ((h.kk p hp).1.lt hb).2.2⟩), (h.kk p hp).2.keep (by rw [hss]; omega) (fun b hb => ⟨hbk b hb, hOB.ne ((h.kk p hp).2.lt hb).2.1 ((h.kk p hp).2.lt hb).2.2⟩)⟩
  · intro g hg q2
    rcases r3 with q | q
    · rw [q] at q2; exact h.ne g hg q2
    · rw [q] at q2
      cases q2
      have := (hnb _ hg).1
      omega
  · have b1 : Below w0.heap.size w0 (A.alloc (.cells #[.string (mk x), .int .i64 (n : Int)] 119)) := h.bl.trans ((below_alloc A _).mono h.bl.size)
    refine (b1.grown r2 b1.size (fun g e => ?_)).setCell (p := ⟨K, 2, none⟩) (by show w0.heap.size ≤ K; omega) _
    have := (hown g e).1
    omega
  · rcases List.mem_cons.1 hq with rfl | hq
    · exact hn
    · exact h.ha q hq
/-- a node's Kids are told -/
theorem mks_kids (h : MkS w0 W K nv lv l an e) {i : Nat} {p : Nd × Value} (hp : l[i]? = some p) {pa : Option Addr} {len pc : Nat} {kds : List Int} (h1 : len ≤ pc) (h2 : pc ≤ maxLen) (hI : IAt W pa len kds)
    (hf : ∀ b off, 0 < len → pa = some ⟨b, off, none⟩ → K < b ∧ some b ≠ nv.ownBlock ∧ some b ≠ lv.ownBlock) {g n cap : Nat} (hnv : nv = .slice (some ⟨g, 0, none⟩) n cap) :
    MkS w0 (W.setCell ⟨g, i * 3 + 2, none⟩ (.slice pa len pc)) K nv lv (l.set i (⟨p.1.kind, p.1.text, kds⟩, .slice pa len pc)) an e ∧ Cm2 K nv lv W (W.setCell ⟨g, i * 3 + 2, none⟩ (.slice pa len pc)) := by
  have hob : nv.ownBlock = some g := by rw [hnv]; rfl
  have hgb := own_block h.ow hob
  have hw0 := h.hk
  have hs : (W.setCell ⟨g, i * 3 + 2, none⟩ (.slice pa len pc)).heap.size = W.heap.size := World.size_setCell _ _ _
  have hset : ∀ b, b ≠ g → (W.setCell ⟨g, i * 3 + 2, none⟩ (.slice pa len pc)).heap[b]? = W.heap[b]? := fun b hb => Below.heap_setCell _ _ _ _ hb
  have hil : i < l.length := (List.getElem?_eq_some_iff.1 hp).1
  have hn : n = l.length := by
    obtain ⟨ad, c, e, _⟩ := own_shapeN h.ow
    rw [hnv] at e
    cases e
    rfl
  refine ⟨⟨(hset K (by omega)).trans h.bx, ?_, own_keep h.ol (fun b hb => hset b (fun q => h.ne g hob (by rw [← q]; exact hb.symm))), fun q hq => ?_, h.ne, h.bl.setCell (p := ⟨g, i * 3 + 2, none⟩) (by show w0.heap.size ≤ g; omega) _, h.hk, h.ha, by rw [List.length_set]; exact h.hl⟩, ⟨rfl, rfl, rfl, by rw [hs]; exact Nat.le_refl _, fun k hk _ e2 _ => hset k (fun e => e2 (by rw [hob, e]))⟩⟩
  · rw [ncs_set l i p kds _ hp, List.length_set]
    have ho := h.ow
    rw [hnv, hn] at ho ⊢
    exact own_set ho (by rw [ncs_len]; omega) _
  · rcases List.mem_or_eq_of_mem_set hq with hq | rfl
    · have hbk : ∀ b, kb q b → (W.setCell ⟨g, i * 3 + 2, none⟩ (.slice pa len pc)).heap[b]? = W.heap[b]? := fun b hb => hset b (fun e => ((h.kk q hq).1.lt hb).2.2 (by rw [hob, e]))
      exact ⟨(h.kk q hq).1.keep (by rw [hs]; exact Nat.le_refl _) (fun b hb => ⟨hbk b hb, ((h.kk q hq).1.lt hb).2.2⟩), (h.kk q hq).2.keep (by rw [hs]; exact Nat.le_refl _) (fun b hb => ⟨hbk b hb, ((h.kk q hq).2.lt hb).2.2⟩)⟩
    · have hpk := (h.kk p (List.mem_of_getElem? hp)).1
      have hI3 : IAt (W.setCell ⟨g, i * 3 + 2, none⟩ (.slice pa len pc)) pa len kds := ⟨hI.1, fun hl => by
        obtain ⟨b2, off2, e2, hlt, hc⟩ := hI.2 hl
        exact ⟨b2, off2, e2, by rw [hs]; exact hlt, fun j hj => ⟨(hc j hj).1, (World.cell?_of_block (w := W) (hset b2 (fun e => (hf b2 off2 hl e2).2.1 (by rw [hob, e])))).trans (hc j hj).2⟩⟩⟩
      exact ⟨⟨hpk.1, hpk.2.1, pa, len, pc, rfl, h1, h2, hI3, fun b off a c => ⟨(hf b off a c).1, (hf b off a c).2.1⟩⟩, ⟨hpk.1, hpk.2.1, pa, len, pc, rfl, h1, h2, hI3, fun b off a c => ⟨(hf b off a c).1, (hf b off a c).2.2⟩⟩⟩
end Go.Proofs.YtaphijgbebhdlaaGreatDoor.Grp
end

section
/- The document's maker: find, by its contract. -/
namespace Go.Proofs.YtaphijgbebhdlaaGreatDoor.Grp
open Utf Rws Pln Flw
open Go.RowKit Go.Maps
set_option linter.unusedSimpArgs false
set_option linter.unusedVariables false
set_option maxRecDepth 100000
set_option maxHeartbeats 4000000

def fnd (an : List (Ln × Nat)) (x : Ln) : Int := match look an x with | some a => (a : Int) | none => -1
theorem look_drop {an : List (Ln × Nat)} {i : Nat} {q : Ln × Nat} (h : an[i]? = some q) (x : Ln) : look (an.drop i) x = if q.1 = x then some q.2 else look (an.drop (i + 1)) x := by
  obtain ⟨hi, e⟩ := List.getElem?_eq_some_iff.1 h
  rw [List.drop_eq_getElem_cons hi, e]
  rfl
theorem find_any {w0 W : World} {K : Nat} {nv lv : Value} {l : List (Nd × Value)} {an : List (Ln × Nat)} {e : Nat} {x : Ln} (h : MkS w0 W K nv lv l an e) (hx : x.length ≤ 9223372036854775807) :
    Calls Tryz.prog 59 #[.pointer (some ⟨K, 0, none⟩), .string (mk x)] W fun e W' => e = .returned (.int .i64 (fnd an x)) ∧ W = W' := by
  obtain ⟨la, lc, hlv, hl1, hl2⟩ := own_shapeN h.ol
  subst hlv
  obtain ⟨c0, c1, c2, c3⟩ := h.bx.c4
  have HOL : Hid (W.ownsRow (K + 1) 119 2 (.slice la an.length lc) an.length (acs an)) := h.ol
  have hm : maxLen = 9223372036854775807 := rfl
  obtain ⟨n, hn⟩ : ∃ n, n = an.length := ⟨_, rfl⟩
  rw [← hn] at c2 hl1
  have HN : Hid (n = an.length) := hn
  have hnb : n ≤ 9223372036854775807 := by omega
  obtain ⟨R, HR⟩ : ∃ R, Hid (R = fnd an x) := ⟨_, rfl⟩
  rw [← HR.out]
  clear h hn
  go_enter Tryz.func59, Tryz.ntmps59
  go_wp2_with fail
  go_loop [5] (fun i => ∃ j : Nat, j ≤ n ∧ i = .int .i64 ((j : Int) - 1) ∧ Hid (look an x = look (an.drop (n - j)) x)) (fun i => (intOf i + 1).toNat)
  case atStart => exact ⟨n, Nat.le_refl _, rfl, (by rw [Nat.sub_self]; rfl : look an x = look (an.drop (n - n)) x)⟩
  case round =>
    obtain ⟨j, hj, rfl, HJ⟩ := hrel
    by_cases h0 : 0 < j
    · obtain ⟨q, hq⟩ : ∃ q, an[n - j]? = some q := ⟨_, List.getElem?_eq_getElem (by have := HN.out; omega)⟩
      obtain ⟨g, cap, cur, hla, hb, hh, _⟩ := HOL.out.2.resolve_left (fun z => by have := z.2; have := HN.out; omega)
      cases hla
      have hg := acs_get an (n - j) q hq
      rw [show an.length - 1 - (n - j) = j - 1 by have := HN.out; omega] at hg
      have hcl : ∀ i u, i < an.length * 2 → (acs an)[i]? = some u → W.cell? ⟨g, i, none⟩ = some u := fun i u hi hu => (HOL.out.cellAt i hi).trans hu
      obtain ⟨m, rfl⟩ : ∃ m, j = m + 1 := ⟨j - 1, by omega⟩
      rw [Nat.add_sub_cancel] at hg
      have x0 := hcl _ _ (by have := HN.out; omega) hg.1
      have x1 := hcl _ _ (by have := HN.out; omega) hg.2
      have hqe : ((mk q.1).toList == (mk x).toList) = decide (q.1 = x) := by rw [beq_mk]; by_cases e : q.1 = x <;> simp [e]
      have HJ2 := look_drop hq x
      have hji : ((m + 1 : Nat) : Int) - 1 = (m : Int) := by omega
      rw [hji]
      clear hg hcl HOL hh hji
      by_cases he : q.1 = x
      · rw [decide_eq_true he] at hqe
        have HRE : Hid (R = (q.2 : Int)) := by
          show _ = _
          rw [HR.out]
          unfold fnd
          rw [HJ.out, HJ2, if_pos he]
        clear HJ HJ2 HR he hq
        go_wp2
        go_ret
        exact ⟨by rw [HRE.out]; rfl, rfl⟩
      · rw [decide_eq_false he] at hqe
        have HJ3 : Hid (look an x = look (an.drop (n - m)) x) := by
          show _ = _
          rw [HJ.out, HJ2, if_neg he, show n - (m + 1) + 1 = n - m by omega]
        clear HJ HJ2 HR he hq
        go_wp2
        go_round
        case rel => exact ⟨m, by omega, by go_num, HJ3⟩
        case measure => (simp [intOf] <;> omega)
    · have hz : j = 0 := by omega
      subst hz
      have HRE : Hid (R = -1) := by
        show _ = _
        rw [HR.out]
        unfold fnd
        rw [HJ.out, Nat.sub_zero, List.drop_of_length_le (by have := HN.out; omega)]
        rfl
      clear HJ HR
      go_wp2
      go_ret
      exact ⟨by rw [HRE.out]; rfl, rfl⟩
end Go.Proofs.YtaphijgbebhdlaaGreatDoor.Grp
end

section
/- The document's maker: add, by its contract. -/
namespace Go.Proofs.YtaphijgbebhdlaaGreatDoor.Grp
open Utf Rws Pln Flw
open Go.RowKit Go.Maps
set_option linter.unusedSimpArgs false
set_option linter.unusedVariables false
set_option maxRecDepth 100000
set_option maxHeartbeats 4000000

/-- the keys among the first Kids -/
def kyU (k : Int) (ts : List Tr) (j : Nat) : List (Int × Ln) := ((List.range j).filter fun i => kyP k i).map fun i => ((ts.getD i tr0).kind, (ts.getD i tr0).text)
theorem kyU_succ (k : Int) (ts : List Tr) (j : Nat) : kyU k ts (j + 1) = if kyP k j = true then kyU k ts j ++ [((ts.getD j tr0).kind, (ts.getD j tr0).text)] else kyU k ts j := by
  unfold kyU
  rw [List.range_succ, List.filter_append, List.map_append]
  by_cases h : kyP k j = true
  · rw [if_pos h, List.filter_cons_of_pos h]; rfl
  · rw [if_neg h, List.filter_cons_of_neg h]; simp
theorem kyU_mem {k : Int} {ts : List Tr} {j : Nat} {p : Int × Ln} : p ∈ kyU k ts j ↔ ∃ i, i < j ∧ kyP k i = true ∧ ((ts.getD i tr0).kind, (ts.getD i tr0).text) = p := by
  unfold kyU
  rw [List.mem_map]
  constructor
  · rintro ⟨i, hi, rfl⟩
    rw [List.mem_filter, List.mem_range] at hi
    exact ⟨i, hi.1, hi.2, rfl⟩
  · rintro ⟨i, h1, h2, rfl⟩
    exact ⟨i, List.mem_filter.2 ⟨List.mem_range.2 h1, h2⟩, rfl⟩
/-- what add answers -/
def AdRes (w0 : World) (K : Nat) (nv lv : Value) (l : List (Nd × Value)) (W : World) (r : Nat × Nat × Cs) (tz : Nat) (e : Ending) (W' : World) : Prop := ∃ (a : Int) (nv' lv' : Value) (l' : List (Nd × Value)) (an' : List (Ln × Nat)), e = .returned (.int .i64 a) ∧ i64 a ∧ MkS w0 W' K nv' lv' l' an' r.2.1 ∧ (r.2.1 = 0 → a = (r.1 : Int) ∧ l'.map (·.1) = r.2.2.ns ∧ an' = r.2.2.an) ∧ l.length ≤ l'.length ∧ l'.length ≤ l.length + tz ∧ (∀ i, i < l.length → l'[i]? = l[i]?) ∧ Cm2 K nv lv W W' ∧ OB nv nv' W ∧ OB lv lv' W ∧ NB l l' W
def AdOk (w0 : World) (K d : Nat) : Prop := ∀ (v : Value) (t : Tr) (W : World) (nv lv : Value) (l : List (Nd × Value)) (an : List (Ln × Nat)), TrV w0 d v t → MkS w0 W K nv lv l an 0 → l.length + tsz d t ≤ 1000000 →
  Calls Tryz.prog 38 #[.pointer (some ⟨K, 0, none⟩), v] W (AdRes w0 K nv lv l W (plc d t ⟨l.map (·.1), an⟩) (tsz d t))
/-- add under way -/
structure MaS (w0 W wr : World) (K KB : Nat) (tc : Array Value) (nv lv nvj lvj pv : Value) (l lj : List (Nd × Value)) (anj : List (Ln × Nat)) (e : Nat) (ps : List Int) : Prop where
  ms : MkS w0 wr K nvj lvj lj anj e
  tb : Bx wr KB tc 29
  pw : wr.ownsRow (KB + 1) 3 1 pv ps.length (ps.map (Value.int .i64))
  ch : Cm2 K nv lv W wr
  ob : OB nv nvj W
  oc : OB lv lvj W
  nb : NB l lj W
  n1 : some KB ≠ nvj.ownBlock ∧ some KB ≠ lvj.ownBlock
  n3 : ∀ g, pv.ownBlock = some g → some g ≠ nvj.ownBlock ∧ some g ≠ lvj.ownBlock ∧ ∀ p ∈ lj, ¬ kb p g
  h1 : W.heap.size ≤ KB
  h3 : K < W.heap.size
  pb : ∀ a ∈ ps, i64 a
variable {w0 W wr wr' : World} {K KB : Nat} {tc : Array Value} {nv lv nvj lvj pv : Value} {l lj : List (Nd × Value)} {anj : List (Ln × Nat)} {e : Nat} {ps : List Int}
theorem mas_later (h : MaS w0 W wr K KB tc nv lv nvj lvj pv l lj anj e ps) (hb : Below wr.heap.size wr wr') : MaS w0 W wr' K KB tc nv lv nvj lvj pv l lj anj e ps :=
  ⟨mks_later h.ms hb, h.tb.later hb, own_keep h.pw (fun g hg => hb.block g (own_block h.pw hg).2), h.ch.trans h.ob h.oc (Cm2.of_below hb), h.ob, h.oc, h.nb, h.n1, h.n3, h.h1, h.h3, h.pb⟩
theorem mas_call {nv2 lv2 : Value} {l2 : List (Nd × Value)} {an2 : List (Ln × Nat)} {e2 : Nat} (h : MaS w0 W wr K KB tc nv lv nvj lvj pv l lj anj e ps) (hc : MkS w0 wr' K nv2 lv2 l2 an2 e2) (hch : Cm2 K nvj lvj wr wr') (ho : OB nvj nv2 wr) (hp : OB lvj lv2 wr) (hn : NB lj l2 wr) : MaS w0 W wr' K KB tc nv lv nv2 lv2 pv l l2 an2 e2 ps := by
  have q1 := h.h1
  have q3 := h.h3
  have hKl := h.tb.lt
  have hKBk := hch.bk KB hKl (by omega) h.n1.1 h.n1.2
  have hpk : ∀ g, pv.ownBlock = some g → wr'.heap[g]? = wr.heap[g]? := fun g hg => hch.bk g (own_block h.pw hg).2 (by have := (own_block h.pw hg).1; omega) (h.n3 g hg).1 (h.n3 g hg).2.1
  refine ⟨hc, hKBk.trans h.tb, own_keep h.pw hpk, h.ch.trans h.ob h.oc hch, h.ob.trans ho h.ch.size, h.oc.trans hp h.ch.size, h.nb.trans hn h.ch.size, ⟨ho.ne hKl h.n1.1, hp.ne hKl h.n1.2⟩, fun g hg => ⟨ho.ne (own_block h.pw hg).2 (h.n3 g hg).1, hp.ne (own_block h.pw hg).2 (h.n3 g hg).2.1, fun p hp => ?_⟩, h.h1, h.h3, h.pb⟩
  rcases hn p hp with q | q
  · exact (h.n3 g hg).2.2 p q
  · intro hk; have := q g hk; have := (own_block h.pw hg).2; omega
theorem mas_app {pv' : Value} {a : Int} (h0 : MaS w0 W wr K KB tc nv lv nvj lvj pv l lj anj e ps) (ha : i64 a)
    (hw : wr'.ownsRow (KB + 1) 3 1 pv' (ps.length + 1) (ps.map (Value.int .i64) ++ [.int .i64 a])) (hg : wr.grownBy wr' pv.ownBlock) (hat : pv'.ownBlock = pv.ownBlock ∨ pv'.ownBlock = some wr.heap.size) : MaS w0 W wr' K KB tc nv lv nvj lvj pv' l lj anj e (ps ++ [a]) := by
  have q1 := h0.h1
  have q3 := h0.h3
  have q4 := h0.ms.bl.size
  have q5 := h0.ms.hk
  have hKl := h0.tb.lt
  have hpw : ∀ g, pv.ownBlock = some g → KB + 1 ≤ g ∧ g < wr.heap.size := fun g hg => own_block h0.pw hg
  have hkeep : ∀ k, k < wr.heap.size → some k ≠ pv.ownBlock → wr'.heap[k]? = wr.heap[k]? := fun k hk hne => hg.block k hk hne
  have hms : MkS w0 wr' K nvj lvj lj anj e := mks_keep h0.ms hg.size hg.os hg.tape hg.output (fun k => some k = pv.ownBlock) (fun k e => ⟨by have := (hpw k e.symm).1; omega, by have := (hpw k e.symm).1; omega, (h0.n3 k e.symm).1, (h0.n3 k e.symm).2.1, (h0.n3 k e.symm).2.2⟩) (fun k hk hne => hkeep k hk hne)
  have hnk : ∀ k, k ≤ KB → some k ≠ pv.ownBlock := fun k hk e => by have := (hpw k e.symm).1; omega
  refine ⟨hms, (hkeep KB hKl (hnk KB (Nat.le_refl _))).trans h0.tb, by rw [List.length_append, List.map_append]; exact hw, ?_, h0.ob, h0.oc, h0.nb, h0.n1, fun g hgg => ?_, h0.h1, h0.h3, fun x hx => ?_⟩
  · exact ⟨hg.os.trans h0.ch.os, hg.tape.trans h0.ch.tape, hg.output.trans h0.ch.output, Nat.le_trans h0.ch.size hg.size, fun k hk e1 e2 e3 => (hkeep k (Nat.lt_of_lt_of_le hk h0.ch.size) (hnk k (by omega))).trans (h0.ch.bk k hk e1 e2 e3)⟩
  · rcases hat with q | q
    · rw [q] at hgg; exact h0.n3 g hgg
    · rw [q] at hgg
      cases hgg
      refine ⟨fun e2 => ?_, fun e2 => ?_, fun p hp hk => ?_⟩
      · have := (own_block h0.ms.ow e2.symm).2; omega
      · have := (own_block h0.ms.ol e2.symm).2; omega
      · have := ((h0.ms.kk p hp).1.lt hk).2.1; omega
  · rcases List.mem_append.1 hx with hx | hx
    · exact h0.pb x hx
    · rw [List.mem_singleton.1 hx]; exact ha
/-- an error is told -/
theorem mas_err (h : MaS w0 W wr K KB tc nv lv nvj lvj pv l lj anj e ps) (e' : Nat) : MaS w0 W (wr.setCell ⟨K, 3, none⟩ (.int .i64 (e' : Int))) K KB tc nv lv nvj lvj pv l lj anj e' ps :=
  mas_call h (mks_err h.ms e').1 (mks_err h.ms e').2 (OB.refl _ _) (OB.refl _ _) (NB.refl _ _)
/-- add is done: the Kids are told -/
theorem mas_done {nn cap : Nat} {g : Nat} (h : MaS w0 W wr K KB tc nv lv nvj lvj pv l lj anj e ps) {n : Nat} {p : Nd × Value} (hp : lj[n]? = some p) (hnv : nvj = .slice (some ⟨g, 0, none⟩) nn cap) {pa : Option Addr} {pc : Nat} (hpv : pv = .slice pa ps.length pc) (h6 : ps.length ≤ pc) (h7 : pc ≤ maxLen) (hI : IAt wr pa ps.length ps) :
    MkS w0 (wr.setCell ⟨g, n * 3 + 2, none⟩ pv) K nvj lvj (lj.set n (⟨p.1.kind, p.1.text, ps⟩, pv)) anj e ∧ Cm2 K nv lv W (wr.setCell ⟨g, n * 3 + 2, none⟩ pv) ∧ NB l (lj.set n (⟨p.1.kind, p.1.text, ps⟩, pv)) W := by
  have hq := h.h1
  have q3 := h.h3
  subst hpv
  obtain ⟨m1, m2⟩ := mks_kids h.ms hp h6 h7 hI (fun b off hl e => by
    have hob : Value.ownBlock (.slice pa ps.length pc) = some b := by rw [e]; rfl
    have := (own_block h.pw hob).1
    exact ⟨by omega, (h.n3 b hob).1, (h.n3 b hob).2.1⟩) hnv
  refine ⟨m1, h.ch.trans h.ob h.oc m2, fun q hq2 => ?_⟩
  rcases List.mem_or_eq_of_mem_set hq2 with hq2 | rfl
  · exact h.nb q hq2
  · right
    rintro b ⟨off, len', cap', e2, hl⟩
    have hob : Value.ownBlock (.slice pa ps.length pc) = some b := by simp only at e2; rw [e2]; rfl
    have := (own_block h.pw hob).1
    omega
end Go.Proofs.YtaphijgbebhdlaaGreatDoor.Grp
end
