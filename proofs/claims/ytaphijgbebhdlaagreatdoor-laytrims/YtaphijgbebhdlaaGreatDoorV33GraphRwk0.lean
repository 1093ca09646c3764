/- Several texts as one: GraphRwk0, GraphRwk. -/
import Derived.Test.YtaphijgbebhdlaaGreatDoorV32GraphKyV
import Derived.Test.YtaphijgbebhdlaaGreatDoorV15GraphCanZ
import Derived.Test.YtaphijgbebhdlaaGreatDoorV16GraphTop2I
import Derived.BigQuiet
import Derived.Deep.QuietTactic
section
/- The document's walk, of layer 12: its state in memory. -/
namespace Go.Proofs.YtaphijgbebhdlaaGreatDoor.Grp
open Utf Rws Pln Flw
open Go.RowKit Go.Shelf
set_option linter.unusedSimpArgs false
set_option linter.unusedVariables false
set_option maxRecDepth 100000
set_option maxHeartbeats 4000000

abbrev iv (l : List Int) : List Value := l.map (Value.int .i64)
/-- a row of one that was just laid -/
theorem own_one1 (W : World) (B : Nat) (hB : B ≤ W.heap.size) (a : Int) : (W.alloc (.cells #[.int .i64 a] 3)).ownsRow B 3 1 (.slice (some ⟨W.heap.size, 0, none⟩) 1 1) 1 (iv [a]) :=
  ⟨rfl, .inr ⟨W.heap.size, 1, #[.int .i64 a], rfl, hB, heap_alloc_new W _, Nat.le_refl _, by decide, rfl, rfl⟩⟩
/-- a row that is cut -/
theorem own_cut {W : World} {B g n cap : Nat} {l : List Int} (h : W.ownsRow B 3 1 (.slice (some ⟨g, 0, none⟩) n cap) n (iv l)) {m : Nat} (hm : m ≤ n) : W.ownsRow B 3 1 (.slice (some ⟨g, 0, none⟩) m cap) m (iv (l.take m)) := by
  have hl : l.length = n := by have := h.1; rw [List.length_map] at this; omega
  rcases h.2 with ⟨e, _⟩ | ⟨g', cap', cur, e, hb, hh, h3, h4, h5, h6⟩
  · cases e
  · cases e
    refine ⟨by rw [List.length_map, List.length_take]; omega, .inr ⟨g, cap, cur, rfl, hb, hh, by omega, h4, h5, ?_⟩⟩
    rw [iv, List.map_take, ← iv, ← h6, List.take_take, Nat.mul_one, Nat.mul_one, Nat.min_eq_left hm]
/-- the boxes, the marks, and three rows that grow -/
structure WaS (w W : World) (K0 KY len : Nat) (g0 g1 : Value) (Y : Nat → Bool) (tv dv ov : Value) (st ds os : List Int) : Prop where
  g : Bx W K0 #[g0, g1] 24
  y : Bx W KY (bA Y len) 4
  t : W.ownsRow w.heap.size 3 1 tv st.length (iv st)
  d : W.ownsRow w.heap.size 3 1 dv ds.length (iv ds)
  o : W.ownsRow w.heap.size 3 1 ov os.length (iv os)
  bl : Below w.heap.size w W
  hk : w.heap.size ≤ K0
  hy : w.heap.size ≤ KY
  n0 : K0 ≠ KY
  nt : ∀ b, tv.ownBlock = some b → b ≠ K0 ∧ b ≠ KY ∧ dv.ownBlock ≠ some b ∧ ov.ownBlock ≠ some b
  nd : ∀ b, dv.ownBlock = some b → b ≠ K0 ∧ b ≠ KY ∧ ov.ownBlock ≠ some b
  no : ∀ b, ov.ownBlock = some b → b ≠ K0 ∧ b ≠ KY
variable {w W W' : World} {K0 KY len : Nat} {g0 g1 : Value} {Y : Nat → Bool} {tv dv ov v' : Value} {st ds os : List Int} {a : Int}
theorem was_later (h : WaS w W K0 KY len g0 g1 Y tv dv ov st ds os) (hb : Below W.heap.size W W') : WaS w W' K0 KY len g0 g1 Y tv dv ov st ds os :=
  ⟨h.g.later hb, h.y.later hb, own_keep h.t (fun b e => hb.block b (own_block h.t e).2), own_keep h.d (fun b e => hb.block b (own_block h.d e).2), own_keep h.o (fun b e => hb.block b (own_block h.o e).2), h.bl.trans (hb.mono h.bl.size), h.hk, h.hy, h.n0, h.nt, h.nd, h.no⟩
theorem was_mark (h : WaS w W K0 KY len g0 g1 Y tv dv ov st ds os) (i : Nat) : WaS w (W.setCell ⟨KY, i, none⟩ (.bool true)) K0 KY len g0 g1 (mark Y i) tv dv ov st ds os := by
  have hset : ∀ b, b ≠ KY → (W.setCell ⟨KY, i, none⟩ (.bool true)).heap[b]? = W.heap[b]? := fun b hb => Below.heap_setCell _ _ _ _ hb
  refine ⟨h.g.other h.n0 _ _, ?_, own_keep h.t (fun b e => hset b (h.nt b e).2.1), own_keep h.d (fun b e => hset b (h.nd b e).2.1), own_keep h.o (fun b e => hset b (h.no b e).2), h.bl.setCell (p := ⟨KY, i, none⟩) h.hy _, h.hk, h.hy, h.n0, h.nt, h.nd, h.no⟩
  have := h.y.set i (.bool true)
  rw [bA_set] at this
  exact this
theorem was_t (h : WaS w W K0 KY len g0 g1 Y tv dv ov st ds os) (hw : W'.ownsRow w.heap.size 3 1 v' (st.length + 1) (iv st ++ [.int .i64 a])) (hg : W.grownBy W' tv.ownBlock) (hat : v'.ownBlock = tv.ownBlock ∨ v'.ownBlock = some W.heap.size) : WaS w W' K0 KY len g0 g1 Y v' dv ov (st ++ [a]) ds os := by
  have hkeep : ∀ b, b < W.heap.size → tv.ownBlock ≠ some b → W'.heap[b]? = W.heap[b]? := fun b hb hn => hg.block b hb (fun e => hn e.symm)
  refine ⟨(hkeep K0 h.g.lt (fun e => (h.nt K0 e).1 rfl)).trans h.g, (hkeep KY h.y.lt (fun e => (h.nt KY e).2.1 rfl)).trans h.y, by rw [List.length_append, iv, List.map_append]; exact hw, own_keep h.d (fun b e => hkeep b (own_block h.d e).2 (fun q => (h.nt b q).2.2.1 e)), own_keep h.o (fun b e => hkeep b (own_block h.o e).2 (fun q => (h.nt b q).2.2.2 e)), h.bl.grown hg h.bl.size (fun b e => (own_block h.t e).1), h.hk, h.hy, h.n0, fun b e => ?_, h.nd, h.no⟩
  rcases hat with q | q
  · rw [q] at e; exact h.nt b e
  · rw [q] at e
    cases e
    have := h.g.lt
    have := h.y.lt
    exact ⟨by omega, by omega, fun e => by have := (own_block h.d e).2; omega, fun e => by have := (own_block h.o e).2; omega⟩
theorem was_d (h : WaS w W K0 KY len g0 g1 Y tv dv ov st ds os) (hw : W'.ownsRow w.heap.size 3 1 v' (ds.length + 1) (iv ds ++ [.int .i64 a])) (hg : W.grownBy W' dv.ownBlock) (hat : v'.ownBlock = dv.ownBlock ∨ v'.ownBlock = some W.heap.size) : WaS w W' K0 KY len g0 g1 Y tv v' ov st (ds ++ [a]) os := by
  have hkeep : ∀ b, b < W.heap.size → dv.ownBlock ≠ some b → W'.heap[b]? = W.heap[b]? := fun b hb hn => hg.block b hb (fun e => hn e.symm)
  refine ⟨(hkeep K0 h.g.lt (fun e => (h.nd K0 e).1 rfl)).trans h.g, (hkeep KY h.y.lt (fun e => (h.nd KY e).2.1 rfl)).trans h.y, own_keep h.t (fun b e => hkeep b (own_block h.t e).2 (h.nt b e).2.2.1), by rw [List.length_append, iv, List.map_append]; exact hw, own_keep h.o (fun b e => hkeep b (own_block h.o e).2 (fun q => (h.nd b q).2.2 e)), h.bl.grown hg h.bl.size (fun b e => (own_block h.d e).1), h.hk, h.hy, h.n0, fun b e => ?_, fun b e => ?_, h.no⟩
  · refine ⟨(h.nt b e).1, (h.nt b e).2.1, ?_, (h.nt b e).2.2.2⟩
    rcases hat with q | q
    · rw [q]; exact (h.nt b e).2.2.1
    · rw [q]
      intro e2
      cases e2
      have := (own_block h.t e).2
      omega
  · rcases hat with q | q
    · rw [q] at e; exact h.nd b e
    · rw [q] at e
      cases e
      have := h.g.lt
      have := h.y.lt
      exact ⟨by omega, by omega, fun e => by have := (own_block h.o e).2; omega⟩
theorem was_o (h : WaS w W K0 KY len g0 g1 Y tv dv ov st ds os) (hw : W'.ownsRow w.heap.size 3 1 v' (os.length + 1) (iv os ++ [.int .i64 a])) (hg : W.grownBy W' ov.ownBlock) (hat : v'.ownBlock = ov.ownBlock ∨ v'.ownBlock = some W.heap.size) : WaS w W' K0 KY len g0 g1 Y tv dv v' st ds (os ++ [a]) := by
  have hkeep : ∀ b, b < W.heap.size → ov.ownBlock ≠ some b → W'.heap[b]? = W.heap[b]? := fun b hb hn => hg.block b hb (fun e => hn e.symm)
  refine ⟨(hkeep K0 h.g.lt (fun e => (h.no K0 e).1 rfl)).trans h.g, (hkeep KY h.y.lt (fun e => (h.no KY e).2 rfl)).trans h.y, own_keep h.t (fun b e => hkeep b (own_block h.t e).2 (h.nt b e).2.2.2), own_keep h.d (fun b e => hkeep b (own_block h.d e).2 (h.nd b e).2.2), by rw [List.length_append, iv, List.map_append]; exact hw, h.bl.grown hg h.bl.size (fun b e => (own_block h.o e).1), h.hk, h.hy, h.n0, fun b e => ?_, fun b e => ?_, fun b e => ?_⟩
  · refine ⟨(h.nt b e).1, (h.nt b e).2.1, (h.nt b e).2.2.1, ?_⟩
    rcases hat with q | q
    · rw [q]; exact (h.nt b e).2.2.2
    · rw [q]
      intro e2
      cases e2
      have := (own_block h.t e).2
      omega
  · refine ⟨(h.nd b e).1, (h.nd b e).2.1, ?_⟩
    rcases hat with q | q
    · rw [q]; exact (h.nd b e).2.2
    · rw [q]
      intro e2
      cases e2
      have := (own_block h.d e).2
      omega
  · rcases hat with q | q
    · rw [q] at e; exact h.no b e
    · rw [q] at e
      cases e
      have := h.g.lt
      have := h.y.lt
      exact ⟨by omega, by omega⟩
/-- the last ones of the two stacks are taken off -/
theorem was_pop {gt gd nt nd ct cd : Nat} (h : WaS w W K0 KY len g0 g1 Y (.slice (some ⟨gt, 0, none⟩) nt ct) (.slice (some ⟨gd, 0, none⟩) nd cd) ov st ds os) (ht : nt = st.length) (hd : nd = ds.length) : WaS w W K0 KY len g0 g1 Y (.slice (some ⟨gt, 0, none⟩) (nt - 1) ct) (.slice (some ⟨gd, 0, none⟩) (nd - 1) cd) ov st.dropLast ds.dropLast os := by
  have h1 := h.t
  have h2 := h.d
  rw [← ht] at h1
  rw [← hd] at h2
  have q1 := own_cut h1 (Nat.sub_le nt 1)
  have q2 := own_cut h2 (Nat.sub_le nd 1)
  refine ⟨h.g, h.y, ?_, ?_, h.o, h.bl, h.hk, h.hy, h.n0, h.nt, h.nd, h.no⟩
  · rw [List.length_dropLast, ← ht, List.dropLast_eq_take, ← ht]; exact q1
  · rw [List.length_dropLast, ← hd, List.dropLast_eq_take, ← hd]; exact q2
/-- how much there is to be gone to, out of the world -/
def meW (ns : List Nd) (len KY : Nat) (tv : Value) (W : World) : Nat := (match tv with | .slice _ n _ => n | _ => 0) + ((List.range len).map fun x => match W.cell? ⟨KY, x, none⟩ with | some (.bool true) => 0 | _ => (kd ns x).length).sum
theorem meW_eq {ns : List Nd} {len KY n c : Nat} {ad : Option Addr} {W : World} {Y : Nat → Bool} {td : List (Nat × Nat)} {out : List Nat} (hy : Bx W KY (bA Y len) 4) (hY : ∀ x, x < len → (Y x = true ↔ x ∈ out)) (hn : n = td.length) : meW ns len KY (.slice ad n c) W = mea (kd ns) len td out := by
  unfold meW mea
  rw [hn]
  congr 1
  have key : ∀ l : List Nat, (∀ x ∈ l, x < len) → (l.map fun x => match W.cell? ⟨KY, x, none⟩ with | some (.bool true) => 0 | _ => (kd ns x).length).sum = ((l.filter fun a => decide (a ∉ out)).map fun a => (kd ns a).length).sum := by
    intro l
    induction l with
    | nil => intro _; rfl
    | cons x l ih =>
      intro hl
      have hx := hl x (by simp)
      have hc := (hy.cell x).trans (bA_get Y hx)
      have ih2 := ih (fun z hz => hl z (by simp [hz]))
      rw [List.map_cons, List.sum_cons, ih2, hc]
      cases hz : Y x
      · have : x ∉ out := fun q => by rw [(hY x hx).2 q] at hz; cases hz
        rw [List.filter_cons_of_pos (by simpa using this), List.map_cons, List.sum_cons]
      · have : x ∈ out := (hY x hx).1 hz
        rw [List.filter_cons_of_neg (by simpa using this)]
        simp
  exact key _ (fun x hx => List.mem_range.1 hx)
end Go.Proofs.YtaphijgbebhdlaaGreatDoor.Grp
end

section
/- The document's walk, of layer 12, by its contract. -/
namespace Go.Proofs.YtaphijgbebhdlaaGreatDoor.Grp
open Utf Rws Pln Flw
open Go.RowKit Go.Shelf Go.Maps
set_option linter.unusedSimpArgs false
set_option linter.unusedVariables false
set_option maxRecDepth 100000
set_option maxHeartbeats 4000000

abbrev t1 (td : List (Nat × Nat)) : List Int := td.reverse.map fun p => (p.1 : Int)
abbrev t2 (td : List (Nat × Nat)) : List Int := td.reverse.map fun p => (p.2 : Int)
abbrev nI (l : List Nat) : List Int := l.map fun a : Nat => (a : Int)
def WkRes (w : World) (n : Nat) (l : List Nat) (d : Nat) (e : Ending) (w' : World) : Prop := ∃ (oa : Option Addr) (oc : Nat), e = .returned (.tuple #[.slice oa l.length oc, .int .i64 (d : Int)]) ∧ Hid (w'.ownsRow w.heap.size 3 1 (.slice oa l.length oc) l.length (iv (nI l))) ∧ Hid (Below w.heap.size w w')
/-- what a round is -/
structure WaR (ns : List Nd) (len : Nat) (R : List Nat × Nat) (n : Nat) (td : List (Nat × Nat)) (out : List Nat) (mm : Nat) (Y : Nat → Bool) : Prop where
  r : R = wk (kd ns) n td out mm
  m : mea (kd ns) len td out < n
  n : n ≤ 1000000002
  t : ∀ p ∈ td, p.1 < len ∧ p.2 ≤ out.length + 1
  mm : mm ≤ out.length + 1
  nd : out.Nodup
  lt : ∀ x ∈ out, x < len
  y : ∀ x, x < len → (Y x = true ↔ x ∈ out)
theorem was_start (w : World) (g0 g1 : Value) (len m : Nat) : WaS w ((((w.alloc (.cells #[g0, g1] 24)).alloc (.cells (madeCells #[Value.bool false] len) 4)).alloc (.cells #[.int .i64 (m : Int)] 3)).alloc (.cells #[.int .i64 1] 3)) w.heap.size (w.heap.size + 1) len g0 g1 (fun _ => false) (.slice (some ⟨w.heap.size + 1 + 1, 0, none⟩) 1 1) (.slice (some ⟨w.heap.size + 1 + 1 + 1, 0, none⟩) 1 1) (.slice none 0 0) (t1 [(m, 1)]) (t2 [(m, 1)]) (nI []) := by
  rw [bA_made]
  have b1 := below_alloc w (.cells #[g0, g1] 24)
  have n1 := Bx.new w #[g0, g1] 24
  have s1 : (w.alloc (.cells #[g0, g1] 24)).heap.size = w.heap.size + 1 := World.size_alloc _ _
  generalize w.alloc (.cells #[g0, g1] 24) = w1 at *
  have b2 := below_alloc w1 (.cells (bA (fun _ => false) len) 4)
  have n2 := Bx.new w1 (bA (fun _ => false) len) 4
  have s2 : (w1.alloc (.cells (bA (fun _ => false) len) 4)).heap.size = w1.heap.size + 1 := World.size_alloc _ _
  rw [s1] at n2 s2
  generalize w1.alloc (.cells (bA (fun _ => false) len) 4) = w2 at *
  have b3 := below_alloc w2 (.cells #[.int .i64 (m : Int)] 3)
  have o3 := own_one1 w2 w.heap.size (by omega) (m : Int)
  have s3 : (w2.alloc (.cells #[.int .i64 (m : Int)] 3)).heap.size = w2.heap.size + 1 := World.size_alloc _ _
  rw [s2] at o3 s3
  generalize w2.alloc (.cells #[.int .i64 (m : Int)] 3) = w3 at *
  have b4 := below_alloc w3 (.cells #[.int .i64 1] 3)
  have o4 := own_one1 w3 w.heap.size (by omega) 1
  rw [s3] at o4
  refine ⟨((n1.later b2).later b3).later b4, (n2.later b3).later b4, own_keep o3 (fun b e => b4.block b (own_block o3 e).2), o4, World.ownsRow_nil _ _ _ _, ((b1.trans (b2.mono b1.size)).trans (b3.mono (by omega))).trans (b4.mono (by omega)), Nat.le_refl _, by omega, by omega, fun b e => ?_, fun b e => ?_, fun b e => by cases e⟩
  · have e2 : w.heap.size + 1 + 1 = b := Option.some.inj e
    refine ⟨by omega, by omega, fun e => ?_, fun e => by cases e⟩
    have e3 : w.heap.size + 1 + 1 + 1 = b := Option.some.inj e
    omega
  · have e2 : w.heap.size + 1 + 1 + 1 = b := Option.some.inj e
    exact ⟨by omega, by omega, fun e => by cases e⟩
theorem walk_core {w : World} {ad : Option Addr} {len cap m : Nat} {r0 : Int} {ns : List Nd} (hlen : len ≤ 4096) (hN : NAt w ad len ns) (hks : ∀ n ∈ ns, ∀ a ∈ n.kids, isP len a = true) (hsum : sumK ns ≤ 1000000000) (hm : m < len) :
    Calls Tryz.prog 35 #[gv ad len cap r0, .int .i64 (m : Int)] w (WkRes w len (odG ns m) (dpG ns m)) := by
  have HN : Hid (NAt w ad len ns) := hN
  have HNL : Hid (len = ns.length) := hN.1
  have HKS : Hid (∀ n ∈ ns, ∀ a ∈ n.kids, isP len a = true) := hks
  have HKD : Hid (∀ a, a < len → ∀ b ∈ kd ns a, b < len) := kd_lt hks hN.1
  obtain ⟨R, HR⟩ : ∃ R, Hid (R = (odG ns m, dpG ns m)) := ⟨_, rfl⟩
  have HR1 : Hid (odG ns m = R.1 ∧ dpG ns m = R.2) := by rw [HR.out]; exact ⟨rfl, rfl⟩
  rw [HR1.out.1, HR1.out.2]
  have hmk2 := fun w' : World => run_make_row' (P := Tryz.prog) 54 4 (.bool false) 1 Tryz.underBools Tryz.infoBool rfl .i64 .i64 len (by omega) (by omega) w'
  have H0 : Hid (WaR ns len R (ful (kd ns) len) [(m, 1)] [] 0 (fun _ => false)) := by
    refine ⟨?_, mea_ful _ _ _ _, ?_, fun p hp => ?_, Nat.zero_le _, List.nodup_nil, fun x hx => absurd hx (by simp), fun x _ => by simp⟩
    · rw [HR.out, HNL.out]; rfl
    · unfold ful
      have e1 := map_range ns (fun n => n.kids.length)
      have e2 : ((List.range len).map fun a => (kd ns a).length) = (List.range ns.length).map fun a => (ns.getD a nd0).kids.length := by
        rw [HNL.out]
        exact List.map_congr_left fun a _ => by unfold kd; rw [List.length_map]
      have e3 : sumK ns = (ns.map (fun n => n.kids.length)).sum := rfl
      rw [e2]
      omega
    · rw [List.mem_singleton.1 hp]; exact ⟨hm, Nat.le_refl _⟩
  clear hN hks hsum HR HR1
  go_enter Tryz.func35, Tryz.ntmps35
  go_wp2_with fail
  have h1 := was_start w (.slice ad len cap) (.int .i64 r0) len m
  generalize (((w.alloc (.cells #[.slice ad len cap, .int .i64 r0] 24)).alloc (.cells (madeCells #[Value.bool false] len) 4)).alloc (.cells #[.int .i64 (m : Int)] 3)).alloc (.cells #[.int .i64 1] 3) = W0 at h1 ⊢
  generalize Value.slice (some ⟨w.heap.size + 1 + 1, 0, none⟩) 1 1 = tv0 at h1 ⊢
  generalize Value.slice (some ⟨w.heap.size + 1 + 1 + 1, 0, none⟩) 1 1 = dv0 at h1 ⊢
  generalize w.heap.size + 1 = KY at h1 ⊢
  obtain ⟨K0, hK0⟩ : ∃ K0, K0 = w.heap.size := ⟨_, rfl⟩
  have h2 : WaS w W0 K0 KY len (.slice ad len cap) (.int .i64 r0) (fun _ => false) tv0 dv0 (.slice none 0 0) (t1 [(m, 1)]) (t2 [(m, 1)]) (nI []) := by rw [hK0]; exact h1
  rw [← hK0]
  have H1 : Hid (WaS w W0 K0 KY len (.slice ad len cap) (.int .i64 r0) (fun _ => false) tv0 dv0 (.slice none 0 0) (t1 [(m, 1)]) (t2 [(m, 1)]) (nI [])) := h2
  clear h1 h2 hK0 hmk2
  go_loopw [7, 8, 9, 10] (fun tv dv mv ov wr => ∃ (n : Nat) (td : List (Nat × Nat)) (out : List Nat) (mm : Nat) (Y : Nat → Bool), mv = .int .i64 (mm : Int) ∧ Hid (WaS w wr K0 KY len (.slice ad len cap) (.int .i64 r0) Y tv dv ov (t1 td) (t2 td) (nI out)) ∧ Hid (WaR ns len R n td out mm Y)) (fun tv _ _ _ wr => meW ns len KY tv wr)
  case atStart => exact ⟨_, [(m, 1)], [], 0, _, rfl, H1, H0⟩
  case round =>
    obtain ⟨n, td, out, mm, Y, rfl, HS, HA⟩ := hrel
    clear H1 H0
    have hol : out.length ≤ len := len_le HA.out.nd HA.out.lt
    have hmm : mm ≤ 4097 := by have := HA.out.mm; omega
    cases td with
    | nil =>
      have HRE : Hid (R.1 = out ∧ R.2 = mm) := by
        have h1 := HA.out.r
        obtain ⟨k, hk⟩ : ∃ k, n = k + 1 := ⟨n - 1, by have := HA.out.m; omega⟩
        rw [hk, wk] at h1
        rw [h1]; exact ⟨rfl, rfl⟩
      obtain ⟨ta, tc, htv, _, _⟩ := own_shapeN HS.out.t
      have htv2 : u7 = .slice ta 0 tc := htv
      obtain ⟨oa, oc, hov, _, _⟩ := own_shapeN HS.out.o
      have hov2 : u10 = .slice oa out.length oc := by rw [hov, List.length_map]
      subst htv2
      subst hov2
      clear htv hov
      go_wp2
      go_ret2
      refine ⟨oa, oc, by rw [HRE.out.1, HRE.out.2]; rfl, ?_, HS.out.bl⟩
      rw [HRE.out.1]
      have := HS.out.o
      rw [List.length_map] at this
      exact this
    | cons p t =>
      obtain ⟨a, d⟩ := p
      obtain ⟨hal, hd1⟩ := HA.out.t (a, d) (by simp)
      simp only at hal hd1
      have hd2 : d ≤ 4097 := by omega
      have htl : t.length + 1 ≤ 1000000002 := by
        have h1 := HA.out.m
        have h2 := HA.out.n
        unfold mea at h1
        rw [List.length_cons] at h1
        omega
      obtain ⟨gt, ct, htv, hct1, hct2⟩ : ∃ g c, u7 = .slice (some ⟨g, 0, none⟩) (t.length + 1) c ∧ t.length + 1 ≤ c ∧ c ≤ maxLen := by
        rcases HS.out.t.2 with ⟨_, h2⟩ | ⟨g, c, cur, h2, _, _, h3, h4, _⟩
        · rw [List.length_map, List.length_reverse, List.length_cons] at h2; omega
        · rw [List.length_map, List.length_reverse, List.length_cons] at h2 h3
          exact ⟨g, c, h2, h3, h4⟩
      obtain ⟨gd, cd, hdv, hcd1, hcd2⟩ : ∃ g c, u8 = .slice (some ⟨g, 0, none⟩) (t.length + 1) c ∧ t.length + 1 ≤ c ∧ c ≤ maxLen := by
        rcases HS.out.d.2 with ⟨_, h2⟩ | ⟨g, c, cur, h2, _, _, h3, h4, _⟩
        · rw [List.length_map, List.length_reverse, List.length_cons] at h2; omega
        · rw [List.length_map, List.length_reverse, List.length_cons] at h2 h3
          exact ⟨g, c, h2, h3, h4⟩
      subst htv hdv
      have x0 : wr.cell? ⟨gt, t.length, none⟩ = some (.int .i64 (a : Int)) := by
        have h1 := HS.out.t
        have e1 : (t1 ((a, d) :: t)).length = t.length + 1 := by rw [List.length_map, List.length_reverse, List.length_cons]
        rw [e1] at h1
        rw [h1.cellAt t.length (by omega)]
        simp [t1]
      have x1 : wr.cell? ⟨gd, t.length, none⟩ = some (.int .i64 (d : Int)) := by
        have h1 := HS.out.d
        have e1 : (t2 ((a, d) :: t)).length = t.length + 1 := by rw [List.length_map, List.length_reverse, List.length_cons]
        rw [e1] at h1
        rw [h1.cellAt t.length (by omega)]
        simp [t2]
      have q0 := (HS.out.y.cell a).trans (bA_get Y hal)
      have z0 := HS.out.y.fz a
      have HP : Hid (WaS w wr K0 KY len (.slice ad len cap) (.int .i64 r0) Y (.slice (some ⟨gt, 0, none⟩) t.length ct) (.slice (some ⟨gd, 0, none⟩) t.length cd) u10 (t1 t) (t2 t) (nI out)) := by
        have := was_pop HS.out (by rw [List.length_map, List.length_reverse, List.length_cons]) (by rw [List.length_map, List.length_reverse, List.length_cons])
        rw [show (t1 ((a, d) :: t)).dropLast = t1 t by simp [t1], show (t2 ((a, d) :: t)).dropLast = t2 t by simp [t2]] at this
        exact this
      have hML : maxLen = 9223372036854775807 := rfl
      generalize hTn : t.length = tn at *
      have HTN : Hid (t.length = tn) := hTn
      clear hTn
      have hyv : Y a = true ∨ Y a = false := by cases Y a <;> simp
      rcases hyv with hy | hy
      · have HA2 : Hid (WaR ns len R (n - 1) t out mm Y) := by
          have hin : a ∈ out := (HA.out.y a hal).1 hy
          obtain ⟨k, hk⟩ : ∃ k, n = k + 1 := ⟨n - 1, by have := HA.out.m; omega⟩
          have hr := HA.out.r
          have hmea := HA.out.m
          rw [hk, wk, if_pos hin] at hr
          refine ⟨by rw [hr, hk]; rfl, ?_, by have := HA.out.n; omega, fun p hp => HA.out.t p (by simp [hp]), HA.out.mm, HA.out.nd, HA.out.lt, HA.out.y⟩
          unfold mea at hmea ⊢
          rw [List.length_cons] at hmea
          omega
        have HME : Hid (∀ k, meW ns len KY (.slice (some ⟨gt, 0, none⟩) tn ct) (wr.drewN k) < meW ns len KY (.slice (some ⟨gt, 0, none⟩) (tn + 1) ct) wr) := fun k => by
          show _ < _
          unfold meW
          have e : ∀ x, (wr.drewN k).cell? ⟨KY, x, none⟩ = wr.cell? ⟨KY, x, none⟩ := fun x => rfl
          simp only [e]
          omega
        rw [hy] at q0
        have HPP : Hid (∀ k, WaS w (wr.drewN k) K0 KY len (.slice ad len cap) (.int .i64 r0) Y (.slice (some ⟨gt, 0, none⟩) tn ct) (.slice (some ⟨gd, 0, none⟩) tn cd) u10 (t1 t) (t2 t) (nI out)) := fun k => was_later HP.out (below_drewN (Below.refl _ _) k)
        clear HA HS hy
        go_wp2
        go_quiet (fail)
        go_wp2
        go_quiet (fail)
        go_wp2
        go_roundw
        case rel => exact ⟨n - 1, t, out, mm, Y, rfl, by first | exact HPP.out _ | (have := HPP.out 2; exact this), HA2⟩
        case measure => first | exact HME.out _ | (have := HME.out 2; exact this)
      · have HMK : Hid (∀ k, WaS w ((wr.drewN k).setCell ⟨KY, a, none⟩ (.bool true)) K0 KY len (.slice ad len cap) (.int .i64 r0) (mark Y a) (.slice (some ⟨gt, 0, none⟩) tn ct) (.slice (some ⟨gd, 0, none⟩) tn cd) u10 (t1 t) (t2 t) (nI out)) := fun k => was_mark (was_later HP.out (below_drewN (Below.refl _ _) k)) a
        have hnin : a ∉ out := fun h => by rw [(HA.out.y a hal).2 h] at hy; cases hy
        have HA2 : Hid (WaR ns len R (n - 1) ((kd ns a).map (fun b => (b, d + 1)) ++ t) (out ++ [a]) (max mm d) (mark Y a)) := by
          obtain ⟨k, hk⟩ : ∃ k, n = k + 1 := ⟨n - 1, by have := HA.out.m; omega⟩
          have hr := HA.out.r
          have hmea := HA.out.m
          rw [hk, wk, if_neg hnin] at hr
          have hst := mea_step (kd ns) len a d t out hnin hal
          refine ⟨by rw [hr, hk]; rfl, by omega, by have := HA.out.n; omega, fun p hp => ?_, ?_, ?_, fun x hx => ?_, fun x hx => ?_⟩
          · rw [List.length_append, List.length_singleton]
            rcases List.mem_append.1 hp with hp | hp
            · obtain ⟨b, hb, rfl⟩ := List.mem_map.1 hp
              exact ⟨HKD.out a hal b hb, by simp only; omega⟩
            · have := HA.out.t p (by simp [hp])
              exact ⟨this.1, by omega⟩
          · rw [List.length_append, List.length_singleton]
            have := HA.out.mm
            omega
          · rw [List.nodup_append]
            exact ⟨HA.out.nd, by simp, fun x hx y hy => by rw [List.mem_singleton.1 hy]; rintro rfl; exact hnin hx⟩
          · rcases List.mem_append.1 hx with hx | hx
            · exact HA.out.lt x hx
            · rw [List.mem_singleton.1 hx]; exact hal
          · unfold mark
            rw [Bool.or_eq_true, decide_eq_true_iff, HA.out.y x hx, List.mem_append, List.mem_singleton]
            exact ⟨fun h => h.elim .inr .inl, fun h => h.elim .inr .inl⟩
        have HME : Hid (mea (kd ns) len ((kd ns a).map (fun b => (b, d + 1)) ++ t) (out ++ [a]) < mea (kd ns) len ((a, d) :: t) out ∧ meW ns len KY (.slice (some ⟨gt, 0, none⟩) (tn + 1) ct) wr = mea (kd ns) len ((a, d) :: t) out) := by
          have hst := mea_step (kd ns) len a d t out hnin hal
          exact ⟨by omega, meW_eq HS.out.y HA.out.y (by rw [List.length_cons, HTN.out])⟩
        have hk1 : (kd ns a).length ≤ 1000000002 := by
          have h1 := HA2.out.m
          have h2 := HA2.out.n
          unfold mea at h1
          rw [List.length_append, List.length_map] at h1
          omega
        rw [hy] at q0
        obtain ⟨i0, hi, hz0, hz1, hz2⟩ := info_parts Tryz.infoInt
        have hosl : (nI out).length ≤ 4096 := by rw [List.length_map]; omega
        clear HA HS hy hnin
        go_wp2
        go_quiet (fail)
        generalize nq = k1
        go_wp2
        go_quiet (fail)
        go_upto_region 11 with fail
        have HM2 := HMK.out (k1 + nq)
        generalize (wr.drewN (k1 + nq)).setCell ⟨KY, a, none⟩ (.bool true) = W2 at HM2 ⊢
        have HM3 : Hid (WaS w (W2.alloc (.cells #[.int .i64 (a : Int)] 3)) K0 KY len (.slice ad len cap) (.int .i64 r0) (mark Y a) (.slice (some ⟨gt, 0, none⟩) tn ct) (.slice (some ⟨gd, 0, none⟩) tn cd) u10 (t1 t) (t2 t) (nI out)) := was_later HM2 (below_alloc W2 _)
        clear HMK HP x0 x1 q0 z0 HM2
        go_upto_region 12 with (at_builtin; refine wpList_append_own_at _ rfl _ _ 45 rfl w.heap.size 3 i0 (.int .i64 0) 1 8 Tryz.underInts hi hz0 hz1 hz2 rfl (by decide) u10 (nI out).length _ rfl HM3.out.o ⟨W2.heap.size, 0, none⟩ 1 1 [Value.int .i64 (a : Int)] rfl rfl (cell_one_new _ _ _) (fun u hu => by rw [List.mem_singleton.1 hu]; rfl) (by omega) (by omega) (HM3.out.bl.size) ?_; intro ov' W4 hw4 hg4 _ hat4)
        have HM4 : Hid (WaS w W4 K0 KY len (.slice ad len cap) (.int .i64 r0) (mark Y a) (.slice (some ⟨gt, 0, none⟩) tn ct) (.slice (some ⟨gd, 0, none⟩) tn cd) ov' (t1 t) (t2 t) (nI (out ++ [a]))) := by
          have := was_o HM3.out hw4 hg4 hat4
          rw [show nI out ++ [(a : Int)] = nI (out ++ [a]) by simp [nI]] at this
          exact this
        clear HM3 hw4 hg4 hat4
        obtain ⟨b, off, rfl, hb, hc⟩ := HN.out.2 (by omega)
        obtain ⟨kad, klen, kcap, hkc1, hkc2, _, _, hI, y0, y1, y2⟩ := hc a hal
        replace y2 := (HM4.out.bl.cell (p := ⟨b, off + a * 3 + 2, none⟩) hb).trans y2
        have HI : Hid (IAt w kad klen (ns.getD a nd0).kids) := hI
        have HKL : Hid (klen = (kd ns a).length) := by show _ = _; unfold kd; rw [List.length_map]; exact hI.1
        have hkl : klen ≤ 1000000002 := by have := HKL.out; omega
        obtain ⟨c0, c1⟩ := HM4.out.g.c2
        clear hc hI y0 y1 hkc1 hkc2
        go_wp2_with fail
        clear c0 c1 y2
        have HKK : Hid (∀ c ∈ (ns.getD a nd0).kids, isP len c = true) := HKS.out _ (mem_getD (by have := HNL.out; omega))
        have htb : t.length ≤ 1000000002 := by have := HTN.out; omega
        have H5 : Hid (WaS w W4 K0 KY len (.slice (some ⟨b, off, none⟩) len cap) (.int .i64 r0) (mark Y a) (.slice (some ⟨gt, 0, none⟩) tn ct) (.slice (some ⟨gd, 0, none⟩) tn cd) ov' (t1 (((kd ns a).drop klen).map (fun b => (b, d + 1)) ++ t)) (t2 (((kd ns a).drop klen).map (fun b => (b, d + 1)) ++ t)) (nI (out ++ [a]))) := by
          show WaS _ _ _ _ _ _ _ _ _ _ _ _ _ _
          rw [List.drop_of_length_le (by have := HKL.out; omega)]
          exact HM4.out
        go_loopw [7, 8, 14] (fun tv dv iv wq => ∃ j : Nat, j ≤ klen ∧ iv = .int .i64 ((j : Int) - 1) ∧ Hid (WaS w wq K0 KY len (.slice (some ⟨b, off, none⟩) len cap) (.int .i64 r0) (mark Y a) tv dv ov' (t1 (((kd ns a).drop j).map (fun b => (b, d + 1)) ++ t)) (t2 (((kd ns a).drop j).map (fun b => (b, d + 1)) ++ t)) (nI (out ++ [a])))) (fun _ _ i _ => (intOf i + 1).toNat)
        case atStart => exact ⟨klen, Nat.le_refl _, rfl, H5⟩
        case round =>
          obtain ⟨j, hj, rfl, H6⟩ := hrel
          clear H5 HM4
          by_cases h0 : 0 < j
          · obtain ⟨q, rfl⟩ : ∃ q, j = q + 1 := ⟨j - 1, by omega⟩
            have hqk : q < klen := by omega
            have hql : q < (ns.getD a nd0).kids.length := by have := HI.out.1; omega
            obtain ⟨kb, koff, rfl, hkb, hkc⟩ := HI.out.2 (by omega)
            obtain ⟨p, hp, hpl⟩ := isP_nat (HKK.out _ (mem_getI hql))
            have x0 := (H6.out.bl.cell (p := ⟨kb, koff + q, none⟩) hkb).trans (hkc q hqk).2
            rw [hp] at x0
            have HDR : Hid ((kd ns a).drop q = p :: (kd ns a).drop (q + 1)) := by
              have hq2 : q < (kd ns a).length := by have := HKL.out; omega
              show _ = _
              rw [List.drop_eq_getElem_cons hq2]
              have hp1 : (ns.getD a nd0).kids[q]? = some (p : Int) := by
                rw [List.getD_eq_getElem?_getD, List.getElem?_eq_getElem hql] at hp
                rw [List.getElem?_eq_getElem hql]
                exact congrArg some hp
              have hp2 : (kd ns a)[q]? = some p := by
                show (List.map Int.toNat (ns.getD a nd0).kids)[q]? = some p
                rw [List.getElem?_map, hp1]
                rfl
              have hp3 : (kd ns a)[q] = p := by
                have := hp2
                rw [List.getElem?_eq_getElem hq2] at this
                exact Option.some.inj this
              rw [hp3]
            obtain ⟨td, htd⟩ : ∃ td, td = ((kd ns a).drop (q + 1)).map (fun b => (b, d + 1)) ++ t := ⟨_, rfl⟩
            have HTD : Hid (td = ((kd ns a).drop (q + 1)).map (fun b => (b, d + 1)) ++ t) := htd
            rw [← htd] at H6
            have htdl : td.length ≤ 2000000004 := by
              rw [htd, List.length_append, List.length_map, List.length_drop]
              omega
            have hl1 : (t1 td).length = td.length := by rw [List.length_map, List.length_reverse]
            have hl2 : (t2 td).length = td.length := by rw [List.length_map, List.length_reverse]
            have H7 : Hid (WaS w (wr.alloc (.cells #[.int .i64 (p : Int)] 3)) K0 KY len (.slice (some ⟨b, off, none⟩) len cap) (.int .i64 r0) (mark Y a) u7 u8 ov' (t1 td) (t2 td) (nI (out ++ [a]))) := was_later H6.out (below_alloc wr _)
            have hji : ((q + 1 : Nat) : Int) - 1 = (q : Int) := by omega
            rw [hji]
            clear hp hkc htd hji H6
            go_upto_region 18 with (at_builtin; refine wpList_append_own_at _ rfl _ _ 45 rfl w.heap.size 3 i0 (.int .i64 0) 1 8 Tryz.underInts hi hz0 hz1 hz2 rfl (by decide) u7 (t1 td).length _ rfl H7.out.t ⟨wr.heap.size, 0, none⟩ 1 1 [Value.int .i64 (p : Int)] rfl rfl (cell_one_new _ _ _) (fun u hu => by rw [List.mem_singleton.1 hu]; rfl) (by omega) (by omega) (H7.out.bl.size) ?_; intro tv' W8 hw8 hg8 _ hat8)
            have H8 : Hid (WaS w W8 K0 KY len (.slice (some ⟨b, off, none⟩) len cap) (.int .i64 r0) (mark Y a) tv' u8 ov' (t1 td ++ [(p : Int)]) (t2 td) (nI (out ++ [a]))) := was_t H7.out hw8 hg8 hat8
            have H9 : Hid (WaS w (W8.alloc (.cells #[.int .i64 ((d : Int) + 1)] 3)) K0 KY len (.slice (some ⟨b, off, none⟩) len cap) (.int .i64 r0) (mark Y a) tv' u8 ov' (t1 td ++ [(p : Int)]) (t2 td) (nI (out ++ [a]))) := was_later H8.out (below_alloc W8 _)
            clear H7 hw8 hg8 hat8 x0
            go_wp2_with (at_builtin; refine wpList_append_own_at _ rfl _ _ 45 rfl w.heap.size 3 i0 (.int .i64 0) 1 8 Tryz.underInts hi hz0 hz1 hz2 rfl (by decide) u8 (t2 td).length _ rfl H9.out.d ⟨W8.heap.size, 0, none⟩ 1 1 [Value.int .i64 ((d : Int) + 1)] rfl rfl (cell_one_new _ _ _) (fun u hu => by rw [List.mem_singleton.1 hu]; rfl) (by omega) (by omega) (H9.out.bl.size) ?_; intro dv' W9 hw9 hg9 _ hat9)
            have H10 : Hid (WaS w W9 K0 KY len (.slice (some ⟨b, off, none⟩) len cap) (.int .i64 r0) (mark Y a) tv' dv' ov' (t1 (((kd ns a).drop q).map (fun b => (b, d + 1)) ++ t)) (t2 (((kd ns a).drop q).map (fun b => (b, d + 1)) ++ t)) (nI (out ++ [a]))) := by
              have h1 := was_d H9.out hw9 hg9 hat9
              rw [HDR.out, List.map_cons, List.cons_append, ← HTD.out]
              have e1 : t1 ((p, d + 1) :: td) = t1 td ++ [(p : Int)] := by simp [t1]
              have e2 : t2 ((p, d + 1) :: td) = t2 td ++ [(d : Int) + 1] := by simp [t2]
              rw [e1, e2]
              exact h1
            clear H8 H9 hw9 hg9 hat9
            go_roundw
            case rel => exact ⟨q, by omega, by go_num, H10⟩
            case measure => (simp [intOf] <;> omega)
          · have hz : j = 0 := by omega
            subst hz
            have H7 : Hid (WaS w wr K0 KY len (.slice (some ⟨b, off, none⟩) len cap) (.int .i64 r0) (mark Y a) u7 u8 ov' (t1 ((kd ns a).map (fun b => (b, d + 1)) ++ t)) (t2 ((kd ns a).map (fun b => (b, d + 1)) ++ t)) (nI (out ++ [a]))) := by
              have := H6.out
              rw [List.drop_zero] at this
              exact this
            obtain ⟨ta, tc, htv, _, _⟩ := own_shapeN H7.out.t
            have HMW : Hid (meW ns len KY u7 wr = mea (kd ns) len ((kd ns a).map (fun b => (b, d + 1)) ++ t) (out ++ [a])) := by
              show _ = _
              rw [htv]
              exact meW_eq H7.out.y HA2.out.y (by rw [List.length_map, List.length_reverse])
            have hmx : max (mm : Int) (d : Int) = ((max mm d : Nat) : Int) := by omega
            rw [hmx]
            clear htv hmx H6
            go_wp2
            go_roundw
            case rel => exact ⟨n - 1, _, out ++ [a], max mm d, mark Y a, rfl, H7, HA2⟩
            case measure => rw [HMW.out, HME.out.2]; exact HME.out.1
end Go.Proofs.YtaphijgbebhdlaaGreatDoor.Grp
end
