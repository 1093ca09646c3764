/- Several texts as one: GraphSeq, GraphMark, GraphIsKeyI, GraphTim. -/
import Derived.RangeFuncNested
import Derived.RangeFuncBound
import Derived.RangeFuncBox
import Derived.RangeFuncCalls
import Derived.RangeFuncLeaves
import Derived.Shelf.Abstract
import Derived.Shelf.RegionOpen
import Derived.WalkKit
import Derived.OwnWalkIn
import Derived.TacticsInMore
import Derived.LoopNIn
import Derived.LoopIn
import Derived.Test.YtaphijgbebhdlaaGreatDoorV10GraphPlain
import Derived.Deep.OwnRows
section
/- Package graph's keysOf, by the contract of an iterator. -/
namespace Go.Proofs.YtaphijgbebhdlaaGreatDoor.Grp
open Utf Rws Pln Flw
open Go.RowKit Go.Shelf
set_option linter.unusedSimpArgs false
set_option linter.unusedVariables false
set_option maxRecDepth 100000
attribute [local go_sem] Oper.semAt_some

/-- the keys among the Kids -/
def kys (k : Int) : Nat → List Int → List Int
  | _, [] => []
  | i, a :: t => if kyP k i = true then a :: kys k (i + 1) t else kys k (i + 1) t
theorem kys_mem (k : Int) : ∀ (i : Nat) (l : List Int), ∀ a ∈ kys k i l, a ∈ l
  | _, [], a, h => h
  | i, b :: t, a, h => by
    rw [kys] at h
    split at h
    · rcases List.mem_cons.1 h with rfl | h
      · simp
      · exact List.mem_cons_of_mem _ (kys_mem k (i + 1) t a h)
    · exact List.mem_cons_of_mem _ (kys_mem k (i + 1) t a h)
theorem kys_at (k : Int) (j : Nat) (l : List Int) (h : j < l.length) : kys k j (l.drop j) = if kyP k j = true then l.getD j 0 :: kys k (j + 1) (l.drop (j + 1)) else kys k (j + 1) (l.drop (j + 1)) := by
  rw [List.drop_eq_getElem_cons h, List.getD_eq_getElem?_getD, List.getElem?_eq_getElem h]
  rfl
/-- a Kid, with its proof -/
abbrev Kx (l : List Int) := { a : Int // a ∈ l }
/-- what a round keeps -/
def KpK (Bs : Nat) (kad : Option Addr) (klen : Nat) (W W' : World) : Prop := W.heap.size ≤ W'.heap.size ∧ W'.heap[Bs]? = W.heap[Bs]? ∧ ∀ b off, 0 < klen → kad = some ⟨b, off, none⟩ → W'.heap[b]? = W.heap[b]?
theorem kpk_trans {Bs : Nat} {kad : Option Addr} {klen : Nat} {A B C : World} (h : KpK Bs kad klen A B) (k : KpK Bs kad klen B C) : KpK Bs kad klen A C := ⟨Nat.le_trans h.1 k.1, k.2.1.trans h.2.1, fun b off p e => (k.2.2 b off p e).trans (h.2.2 b off p e)⟩
theorem kpk_below {Bs : Nat} {kad : Option Addr} {klen : Nat} {W W' : World} {l : List Int} (hb : Below W.heap.size W W') (hB : Bs < W.heap.size) (hI : IAt W kad klen l) : KpK Bs kad klen W W' := by
  refine ⟨hb.size, hb.block _ hB, fun b off p e => ?_⟩
  obtain ⟨b', off', e', hlt, _⟩ := hI.2 p
  rw [e] at e'
  cases e'
  exact hb.block _ hlt
/-- a node's box and its Kids -/
structure KsAt (W : World) (Bs : Nat) (k : Int) (x : Ln) (kad : Option Addr) (klen kcap : Nat) (l : List Int) : Prop where
  bx : Bx W Bs #[.int .i64 k, .string (mk x), .slice kad klen kcap] 47
  ks : IAt W kad klen l
theorem KsAt.kp {W W' : World} {Bs : Nat} {k : Int} {x : Ln} {kad : Option Addr} {klen kcap : Nat} {l : List Int} (h : KsAt W Bs k x kad klen kcap l) (hk : KpK Bs kad klen W W') : KsAt W' Bs k x kad klen kcap l := by
  refine ⟨hk.2.1.trans h.bx, h.ks.1, fun p => ?_⟩
  obtain ⟨b, off, e, hlt, hc⟩ := h.ks.2 p
  exact ⟨b, off, e, Nat.lt_of_lt_of_le hlt hk.1, fun i hi => ⟨(hc i hi).1, (World.cell?_of_block (w := W) (hk.2.2 b off p e)).trans (hc i hi).2⟩⟩

set_option maxHeartbeats 4000000 in
theorem keys1_in (n : Nat) (hn : 1 ≤ n) (m Bs : Nat) (k : Int) (x : Ln) (kad : Option Addr) (klen kcap : Nat) (l : List Int) (hkl : klen ≤ 9223372036854775807) (J Jx : List (Kx l) → World → Prop) (W : World)
    (hY : ∀ pre a W1, J pre W1 → pre.length < l.length → YieldAt Fence.wide (n - 1) Tryz.prog m #[.int .i64 a.1] W1 fun e W' =>
      (e = .returned (.bool true) ∧ J (pre ++ [a]) W' ∧ KpK Bs kad klen W1 W') ∨ (e = .returned (.bool false) ∧ Jx (pre ++ [a]) W'))
    (hH : KsAt W Bs k x kad klen kcap l) (h0 : J [] W) :
    CallsIn Fence.wide n Tryz.prog 90 #[.func (.yield m) #[] #[], .pointer (some ⟨Bs, 0, none⟩)] W fun e W' => (∃ v, e = .returned v) ∧
      ((∃ ys, ys.map (·.1) = kys k 0 l ∧ J ys W') ∨ (∃ pre, pre.map (·.1) <+: kys k 0 l ∧ Jx pre W')) := by
  obtain ⟨hc0, hc1, hc2⟩ := hH.bx.c3
  refine callsIn_of_wp Tryz.func90 rfl trivial ?_ rfl
  simp only [Tryz.ntmps90, List.size_toArray, List.length_cons, List.length_nil, Nat.reduceAdd, Nat.reduceSub, Array.replicate_succ, Array.replicate_zero, List.push_toArray, List.append_toArray, List.nil_append, List.cons_append]
  have HH : Hid (KsAt W Bs k x kad klen kcap l) := hH
  have HL : Hid (klen = l.length) := hH.ks.1
  clear hH
  gi_wp2
  clear hc0 hc1 hc2
  gi_loopw [8] (fun u wr => ∃ (j : Nat) (pre : List (Kx l)), u = .int .i64 (j : Int) ∧ j ≤ klen ∧ Hid (pre.map (·.1) ++ kys k j (l.drop j) = kys k 0 l) ∧ Hid (KsAt wr Bs k x kad klen kcap l) ∧ Hid (pre.length ≤ j) ∧ J pre wr) (fun u _ => klen - (intOf u).toNat)
  case atStart => exact ⟨0, [], rfl, Nat.zero_le _, rfl, HH, Nat.le_refl _, h0⟩
  case round =>
    obtain ⟨j, pre, rfl, hj, HX, HS, HP, hJ⟩ := hrel
    obtain ⟨c0, c1, c2⟩ := HS.out.bx.c3
    by_cases hlt : j < klen
    · obtain ⟨b, off, rfl, hb, hc⟩ := HS.out.ks.2 (by omega)
      have x0 := (hc j hlt).2
      have hll : j < l.length := by have := HL.out; omega
      have hmem : l.getD j 0 ∈ l := by
        rw [List.getD_eq_getElem?_getD, List.getElem?_eq_getElem hll]
        exact List.getElem_mem hll
      have HX2 := HX.out
      rw [kys_at k j l hll] at HX2
      have HX3 : Hid (pre.map (·.1) ++ (if kyP k j = true then l.getD j 0 :: kys k (j + 1) (l.drop (j + 1)) else kys k (j + 1) (l.drop (j + 1))) = kys k 0 l) := HX2
      clear HX2 HX
      obtain ⟨a, ha⟩ : ∃ a : Kx l, a.1 = l.getD j 0 := ⟨⟨_, hmem⟩, rfl⟩
      rw [← ha] at x0 HX3
      clear hmem ha hc
      have HK := fun w' : World => kyPlace_any (w := w') (k := k) j (by omega)
      have HPl : Hid (pre.length < l.length) := by have := HP.out; show _ < _; omega
      cases hk : kyP k j
      · have HK0 : Hid (∀ w', Calls Tryz.prog 70 #[.int .i64 k, .int .i64 (j : Int)] w' fun e w'' => e = .returned (.bool false) ∧ w' = w'') := fun w' => by have := HK w'; rw [hk] at this; exact this
        clear HK
        rw [hk, if_neg (by decide)] at HX3
        gi_wp2_with (first | (refine ⟨trivial, ?_⟩; gi_at_call 70; refine (callsIn_wide.2 (HK0.out _)).mono ?_; rintro e w' ⟨rfl, rfl⟩))
        rename_i hK _ _ _ heq
        refine ⟨fun f h => (by cases h), hK _ _ ?_⟩
        clear heq
        gi_wp2
        go_roundw
        case rel => exact ⟨j + 1, pre, by go_num, by omega, HX3, HS, by have := HP.out; show _ ≤ _; omega, hJ⟩
        case measure => simp [intOf]; omega
      · have HK0 : Hid (∀ w', Calls Tryz.prog 70 #[.int .i64 k, .int .i64 (j : Int)] w' fun e w'' => e = .returned (.bool true) ∧ w' = w'') := fun w' => by have := HK w'; rw [hk] at this; exact this
        clear HK
        rw [hk, if_pos rfl] at HX3
        have HX4 : Hid ((pre ++ [a]).map (·.1) ++ kys k (j + 1) (l.drop (j + 1)) = kys k 0 l) := by
          show _ = _
          rw [List.map_append, List.append_assoc]
          exact HX3.out
        clear HX3
        obtain ⟨fn, tmps, assign, body, hy, hR⟩ := hY pre a wr hJ HPl.out
        gi_wp2_with (first | (refine ⟨trivial, ?_⟩; gi_at_call 70; refine (callsIn_wide.2 (HK0.out _)).mono ?_; rintro e w' ⟨rfl, rfl⟩))
        refine hR.mono ?_
        rintro e W3 (⟨rfl, hJ3, hK3⟩ | ⟨rfl, hJx3⟩)
        · have HS3 : Hid (KsAt W3 Bs k x (some ⟨b, off, none⟩) klen kcap l) := HS.out.kp hK3
          gi_wp2
          go_roundw
          case rel => exact ⟨j + 1, pre ++ [a], by go_num, by omega, HX4, HS3, by have := HP.out; show _ ≤ _; rw [List.length_append, List.length_singleton]; omega, hJ3⟩
          case measure => simp [intOf]; omega
        · gi_wp2
          refine bodyPost_ret (results_none rfl _ _ _) rfl ?_
          exact ⟨⟨_, rfl⟩, .inr ⟨pre ++ [a], ⟨_, HX4.out⟩, hJx3⟩⟩
    · have HE : Hid (pre.map (·.1) = kys k 0 l) := by
        have h := HX.out
        rw [List.drop_of_length_le (by have := HL.out; omega)] at h
        rw [kys, List.append_nil] at h
        exact h
      gi_wp2
      go_end0
      exact ⟨⟨_, rfl⟩, .inl ⟨pre, HE.out, hJ⟩⟩
theorem keysOf_in (k : Int) (x : Ln) (kad : Option Addr) (klen kcap : Nat) (n : Nat) (w : World) :
    CallsIn Fence.wide n Tryz.prog 71 #[nv k x kad klen kcap] w fun e w' => e = .returned (.func (.func 90) #[] #[.pointer (some ⟨w.heap.size, 0, none⟩)]) ∧ w' = w.alloc (.cells #[.int .i64 k, .string (mk x), .slice kad klen kcap] 47) := by
  refine callsIn_of_wp Tryz.func71 rfl trivial ?_ rfl
  simp only [Tryz.ntmps71, List.size_toArray, List.length_cons, List.length_nil, Nat.reduceAdd, Nat.reduceSub, Array.replicate_succ, Array.replicate_zero, List.push_toArray, List.append_toArray, List.nil_append, List.cons_append]
  gi_wp2
  go_ret
  exact ⟨rfl, rfl⟩
/-- **the iterator's contract** -/
theorem keys_stops (n : Nat) (hn : 1 ≤ n) (Bs : Nat) (k : Int) (x : Ln) (kad : Option Addr) (klen kcap : Nat) (l : List Int) (hkl : klen ≤ 9223372036854775807) (w : World) (hH : KsAt w Bs k x kad klen kcap l) :
    SeqStopsK Fence.wide n Tryz.prog 90 #[.pointer (some ⟨Bs, 0, none⟩)] (fun a : Kx l => #[Value.int .i64 a.1]) (KpK Bs kad klen) (fun ys => ys.map (·.1) = kys k 0 l) (fun pre => pre.map (·.1) <+: kys k 0 l) l.length w := fun m J Jx W hW hJ _ hY h0 =>
  keys1_in n hn m Bs k x kad klen kcap l hkl J Jx W hY (hH.kp (kpk_below hW hH.bx.lt hH.ks)) h0
end Go.Proofs.YtaphijgbebhdlaaGreatDoor.Grp
end

section
/- A loop that holds a range over a function: the marks that its rounds leave. -/
namespace Go.Proofs.YtaphijgbebhdlaaGreatDoor.Grp
open Utf Rws Pln Flw
open Go.RowKit Go.Shelf
set_option linter.unusedSimpArgs false
set_option linter.unusedVariables false
set_option maxRecDepth 100000

/-- the marks of rounds, in blocks from B on and below T -/
structure Mks (B T : Nat) (W : World) (l : List Nat) : Prop where
  nd : l.Nodup
  bl : ∀ D ∈ l, B ≤ D ∧ D < T ∧ W.heap[D]? = some (.deferred (some []))
def dfs (l : List Nat) : List Deferred := l.map fun D => { target := .collected D, args := #[] }
theorem Mks.nil (B T : Nat) (W : World) : Mks B T W [] := ⟨List.nodup_nil, fun D h => absurd h (by simp)⟩
theorem Mks.kept {B T : Nat} {W W' : World} {l : List Nat} (h : Mks B T W l) (hk : ∀ k, k < T → W'.heap[k]? = W.heap[k]?) : Mks B T W' l := ⟨h.nd, fun D hD => ⟨(h.bl D hD).1, (h.bl D hD).2.1, (hk D (h.bl D hD).2.1).trans (h.bl D hD).2.2⟩⟩
theorem Mks.later {B T T' : Nat} {W W' : World} {l : List Nat} (h : Mks B T W l) (hb : Below T' W W') (hT : T ≤ T') : Mks B T W' l := h.kept fun k hk => hb.block k (Nat.lt_of_lt_of_le hk hT)
theorem Mks.more {B T T' : Nat} {W : World} {l : List Nat} (h : Mks B T W l) (hT : T ≤ T') : Mks B T' W l := ⟨h.nd, fun D hD => ⟨(h.bl D hD).1, Nat.lt_of_lt_of_le (h.bl D hD).2.1 hT, (h.bl D hD).2.2⟩⟩
theorem Mks.set {B T : Nat} {W : World} {l : List Nat} (h : Mks B T W l) {a : Addr} {u v : Value} (hc : W.cell? a = some u) : Mks B T (W.setCell a v) l := by
  refine ⟨h.nd, fun D hD => ⟨(h.bl D hD).1, (h.bl D hD).2.1, ?_⟩⟩
  have hd := (h.bl D hD).2.2
  refine (Below.heap_setCell _ _ _ _ (fun e => ?_)).trans hd
  obtain ⟨o, ho, hcc⟩ := cells_of_cell hc
  rw [← e, hd] at ho
  cases ho
  cases hcc
theorem Mks.own {β : Type} {B T : Nat} (l : List Nat) : OwnFrom T (fun (_ : β) W => Mks B T W l) := fun s W W' row h hg hr => ⟨h.nd, fun D hD => ⟨(h.bl D hD).1, (h.bl D hD).2.1, by
  have hd := (h.bl D hD).2.2
  refine (hg.block D (Array.getElem?_eq_some_iff.1 hd).1 (fun e => ?_)).trans hd
  have := (hr D e.symm).1
  have := (h.bl D hD).2.1
  omega⟩⟩
theorem Mks.cons {B T D : Nat} {W : World} {l : List Nat} (h : Mks B T W l) (hT : T ≤ D) (hB : B ≤ D) (hD : W.heap[D]? = some (.deferred (some []))) : Mks B W.heap.size W (D :: l) := by
  refine ⟨List.nodup_cons.2 ⟨fun q => ?_, h.nd⟩, fun D' h' => ?_⟩
  · have := (h.bl D q).2.1
    omega
  · rcases List.mem_cons.1 h' with rfl | h'
    · exact ⟨hB, (Array.getElem?_eq_some_iff.1 hD).1, hD⟩
    · exact ⟨(h.bl D' h').1, (Array.getElem?_eq_some_iff.1 (h.bl D' h').2.2).1, (h.bl D' h').2.2⟩
/-- the way out past the marks -/
theorem leaves_dfs {F : Fence} {n : Nat} {P : Program} {fn : Func} {tmps : Array Value} {R : Ending → World → Prop} {w0 : World} {T : Nat} : ∀ (l : List Nat) (W : World), Mks w0.heap.size T W l →
    (∀ W', Below w0.heap.size W W' → (∀ a v, W.cell? a = some v → W'.cell? a = some v) → LeavesInM F n P fn tmps R [] .returning W') → LeavesInM F n P fn tmps R (dfs l) .returning W
  | [], W, _, h => h W (Below.refl _ _) (fun _ _ q => q)
  | D :: l, W, hm, h => by
    have hD := (hm.bl D (by simp)).2.2
    refine ⟨by simp, .inl ⟨D, _, rfl, run_takeDeferred hD, ?_⟩⟩
    have b1 := belowK_b (w := w0) (Nat.le_refl _) W D _ (.deferred none) (hm.bl D (by simp)).1 hD rfl rfl
    refine leaves_dfs l _ ⟨(List.nodup_cons.1 hm.nd).2, fun D' h' => ⟨(hm.bl D' (by simp [h'])).1, (hm.bl D' (by simp [h'])).2.1, ?_⟩⟩ (fun W' hb hc => h W' (b1.trans hb) (fun a v q => hc a v (cell_kept q (grownBy_putObj' _ D (.deferred none)) (fun r e => by cases e; exact ⟨_, hD, rfl⟩))))
    have hne : D' ≠ D := fun e => (List.nodup_cons.1 hm.nd).1 (by rw [← e]; exact h')
    exact (World.putObj_heap_other (by first | exact hne | exact hne.symm)).trans (hm.bl D' (by simp [h'])).2.2
end Go.Proofs.YtaphijgbebhdlaaGreatDoor.Grp
end

section
/- Package graph's isKey, by its contract. -/
namespace Go.Proofs.YtaphijgbebhdlaaGreatDoor.Grp
open Utf Rws Pln Flw
open Go.RowKit Go.Shelf
set_option linter.unusedSimpArgs false
set_option linter.unusedVariables false
set_option maxRecDepth 100000
set_option maxHeartbeats 4000000
attribute [local go_sem] Oper.semAt_some

/-- is a place a key's? -/
def isKy : List Nd → Int → Bool
  | [], _ => false
  | n :: t, a => (kys n.kind 0 n.kids).contains a || isKy t a
/-- the boxes, and the marks -/
structure IkS (w W : World) (K0 K1 K2 : Nat) (g0 g1 a : Value) (l : List Nat) : Prop where
  g : Bx W K0 #[g0, g1] 24
  t : Bx W K1 #[a] 3
  r : Bx W K2 #[.bool false] 4
  bl : Below w.heap.size w W
  ms : Mks w.heap.size W.heap.size W l
  hk : w.heap.size ≤ K2
theorem IkS.later {w W W' : World} {K0 K1 K2 : Nat} {g0 g1 a : Value} {l : List Nat} (h : IkS w W K0 K1 K2 g0 g1 a l) (hb : Below W.heap.size W W') : IkS w W' K0 K1 K2 g0 g1 a l :=
  ⟨h.g.later hb, h.t.later hb, h.r.later hb, h.bl.trans (hb.mono h.bl.size), (h.ms.later hb (Nat.le_refl _)).more hb.size, h.hk⟩
end Go.Proofs.YtaphijgbebhdlaaGreatDoor.Grp
end

section
/- How often a place is a Kid, or the Root: as plain functions, and in memory. -/
namespace Go.Proofs.YtaphijgbebhdlaaGreatDoor.Grp
open Utf Rws Pln Flw
open Go.RowKit Go.Shelf
set_option linter.unusedSimpArgs false
set_option linter.unusedVariables false
set_option maxRecDepth 100000

def bump (T : Nat → Nat) (i : Nat) : Nat → Nat := fun x => if x = i then T x + 1 else T x
def bmps (T : Nat → Nat) (l : List Int) : Nat → Nat := l.foldl (fun T a => bump T a.toNat) T
def timN (T : Nat → Nat) (ns : List Nd) : Nat → Nat := ns.foldl (fun T n => bmps T n.kids) T
theorem bump_le (T : Nat → Nat) (i x : Nat) : bump T i x ≤ T x + 1 := by unfold bump; split <;> omega
theorem bmps_le : ∀ (l : List Int) (T : Nat → Nat) (x : Nat), bmps T l x ≤ T x + l.length
  | [], T, x => Nat.le_refl _
  | a :: l, T, x => by
    have h1 := bmps_le l (bump T a.toNat) x
    have h2 := bump_le T a.toNat x
    simp only [List.length_cons]
    have e : bmps T (a :: l) = bmps (bump T a.toNat) l := rfl
    rw [e]
    omega
def sumK (ns : List Nd) : Nat := (ns.map (fun n => n.kids.length)).sum
theorem timN_le : ∀ (ns : List Nd) (T : Nat → Nat) (x : Nat), timN T ns x ≤ T x + sumK ns
  | [], T, x => Nat.le_refl _
  | n :: ns, T, x => by
    have h1 := timN_le ns (bmps T n.kids) x
    have h2 := bmps_le n.kids T x
    have e : timN T (n :: ns) = timN (bmps T n.kids) ns := rfl
    have e2 : sumK (n :: ns) = n.kids.length + sumK ns := by simp [sumK]
    rw [e, e2]
    omega
theorem bmps_snoc (T : Nat → Nat) (l : List Int) (j : Nat) (h : j < l.length) : bmps T (l.take (j + 1)) = bump (bmps T (l.take j)) (l.getD j 0).toNat := by
  rw [List.take_succ_eq_append_getElem h, bmps, List.foldl_append, List.getD_eq_getElem?_getD, List.getElem?_eq_getElem h]
  rfl
theorem timN_snoc (T : Nat → Nat) (ns : List Nd) (j : Nat) (h : j < ns.length) : timN T (ns.take (j + 1)) = bmps (timN T (ns.take j)) (ns.getD j nd0).kids := by
  rw [List.take_succ_eq_append_getElem h, timN, List.foldl_append, List.getD_eq_getElem?_getD, List.getElem?_eq_getElem h]
  rfl
theorem sumK_at : ∀ (ns : List Nd) (j : Nat), j < ns.length → sumK (ns.take j) + (ns.getD j nd0).kids.length ≤ sumK ns
  | [], j, h => absurd h (Nat.not_lt_zero _)
  | n :: ns, 0, h => by simp [sumK]
  | n :: ns, j + 1, h => by
    have := sumK_at ns j (by simpa using h)
    simp only [List.take_succ_cons, List.getD_cons_succ]
    simp only [sumK, List.map_cons, List.sum_cons] at this ⊢
    omega
/-- the row of times -/
def tA (T : Nat → Nat) (n : Nat) : Array Value := ((List.range n).map fun i => Value.int .i64 (T i : Int)).toArray
theorem tA_get (T : Nat → Nat) {n i : Nat} (h : i < n) : (tA T n)[i]? = some (.int .i64 (T i : Int)) := by
  simp [tA, h]
theorem tA_set (T : Nat → Nat) (n i : Nat) : (tA T n).setIfInBounds i (.int .i64 ((T i + 1 : Nat) : Int)) = tA (bump T i) n := by
  apply Array.ext_getElem?
  intro k
  rw [Array.getElem?_setIfInBounds]
  by_cases hk : k < n
  · rw [tA_get _ hk, tA_get _ hk]
    by_cases e : i = k
    · subst e
      rw [if_pos rfl]
      simp [tA, hk, bump]
    · rw [if_neg e]
      simp [bump, Ne.symm e]
  · have e1 : (tA T n)[k]? = none := by simp [tA]; omega
    have e2 : (tA (bump T i) n)[k]? = none := by simp [tA]; omega
    rw [e1, e2]
    split
    · simp [tA]; omega
    · rfl
theorem tA_made (n : Nat) : madeCells #[Value.int .i64 0] n = tA (fun _ => 0) n := by
  apply Array.ext_getElem?
  intro k
  by_cases hk : k < n
  · rw [tA_get _ hk]
    simp [madeCells, hk, Nat.mod_one]
  · have e2 : (tA (fun _ => 0) n)[k]? = none := by simp [tA]; omega
    rw [e2]
    simp [madeCells]
    omega
/-- no key is another Kid, or the Root -/
def kNe (T : Nat → Nat) : List Nd → Bool
  | [] => true
  | n :: t => (kys n.kind 0 n.kids).all (fun a => decide (T a.toNat ≤ 1)) && kNe T t
theorem kNe_at (T : Nat → Nat) (ns : List Nd) (j : Nat) (h : j < ns.length) : kNe T (ns.drop j) = ((kys (ns.getD j nd0).kind 0 (ns.getD j nd0).kids).all (fun a => decide (T a.toNat ≤ 1)) && kNe T (ns.drop (j + 1))) := by
  rw [List.drop_eq_getElem_cons h, List.getD_eq_getElem?_getD, List.getElem?_eq_getElem h]
  rfl
end Go.Proofs.YtaphijgbebhdlaaGreatDoor.Grp
end
