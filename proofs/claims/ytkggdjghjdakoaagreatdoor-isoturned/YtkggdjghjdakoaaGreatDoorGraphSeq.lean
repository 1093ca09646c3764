/- Package graph's keysOf, by the contract of an iterator. -/
import Derived.RangeFuncNested
import Derived.RangeFuncBound
import Derived.RangeFuncBox
import Derived.RangeFuncCalls
import Derived.RangeFuncLeaves
import Derived.Shelf.Abstract
import Derived.Shelf.RegionOpen
import Derived.WalkKit
import Derived.OwnWalkIn
import Derived.TacticsInMore
import Derived.LoopNIn
import Derived.LoopIn
import Derived.Test.YtkggdjghjdakoaaGreatDoorGraphKids
namespace Go.Proofs.YtkggdjghjdakoaaGreatDoor.Grp
open Utf Rws Pln Flw
open Go.RowKit Go.Shelf
set_option linter.unusedSimpArgs false
set_option linter.unusedVariables false
set_option maxRecDepth 100000
attribute [local go_sem] Oper.semAt_some

/-- the keys among the Kids -/
def kys (k : Int) : Nat → List Int → List Int
  | _, [] => []
  | i, a :: t => if kyP k i = true then a :: kys k (i + 1) t else kys k (i + 1) t
theorem kys_len (k : Int) : ∀ (i : Nat) (l : List Int), (kys k i l).length ≤ l.length
  | _, [] => Nat.le_refl _
  | i, a :: t => by
    have := kys_len k (i + 1) t
    rw [kys]
    split
    · simp only [List.length_cons]; omega
    · simp only [List.length_cons]; omega
theorem kys_mem (k : Int) : ∀ (i : Nat) (l : List Int), ∀ a ∈ kys k i l, a ∈ l
  | _, [], a, h => h
  | i, b :: t, a, h => by
    rw [kys] at h
    split at h
    · rcases List.mem_cons.1 h with rfl | h
      · simp
      · exact List.mem_cons_of_mem _ (kys_mem k (i + 1) t a h)
    · exact List.mem_cons_of_mem _ (kys_mem k (i + 1) t a h)
theorem kys_at (k : Int) (j : Nat) (l : List Int) (h : j < l.length) : kys k j (l.drop j) = if kyP k j = true then l.getD j 0 :: kys k (j + 1) (l.drop (j + 1)) else kys k (j + 1) (l.drop (j + 1)) := by
  rw [List.drop_eq_getElem_cons h, List.getD_eq_getElem?_getD, List.getElem?_eq_getElem h]
  rfl
/-- a Kid, with its proof -/
abbrev Kx (l : List Int) := { a : Int // a ∈ l }
/-- what a round keeps -/
def KpK (Bs : Nat) (kad : Option Addr) (klen : Nat) (W W' : World) : Prop := W.heap.size ≤ W'.heap.size ∧ W'.heap[Bs]? = W.heap[Bs]? ∧ ∀ b off, 0 < klen → kad = some ⟨b, off, none⟩ → W'.heap[b]? = W.heap[b]?
theorem kpk_trans {Bs : Nat} {kad : Option Addr} {klen : Nat} {A B C : World} (h : KpK Bs kad klen A B) (k : KpK Bs kad klen B C) : KpK Bs kad klen A C := ⟨Nat.le_trans h.1 k.1, k.2.1.trans h.2.1, fun b off p e => (k.2.2 b off p e).trans (h.2.2 b off p e)⟩
theorem kpk_below {Bs : Nat} {kad : Option Addr} {klen : Nat} {W W' : World} {l : List Int} (hb : Below W.heap.size W W') (hB : Bs < W.heap.size) (hI : IAt W kad klen l) : KpK Bs kad klen W W' := by
  refine ⟨hb.size, hb.block _ hB, fun b off p e => ?_⟩
  obtain ⟨b', off', e', hlt, _⟩ := hI.2 p
  rw [e] at e'
  cases e'
  exact hb.block _ hlt
/-- a node's box and its Kids -/
structure KsAt (W : World) (Bs : Nat) (k : Int) (x : Ln) (kad : Option Addr) (klen kcap : Nat) (l : List Int) : Prop where
  bx : Bx W Bs #[.int .i64 k, .string (mk x), .slice kad klen kcap] 38
  ks : IAt W kad klen l
theorem KsAt.kp {W W' : World} {Bs : Nat} {k : Int} {x : Ln} {kad : Option Addr} {klen kcap : Nat} {l : List Int} (h : KsAt W Bs k x kad klen kcap l) (hk : KpK Bs kad klen W W') : KsAt W' Bs k x kad klen kcap l := by
  refine ⟨hk.2.1.trans h.bx, h.ks.1, fun p => ?_⟩
  obtain ⟨b, off, e, hlt, hc⟩ := h.ks.2 p
  exact ⟨b, off, e, Nat.lt_of_lt_of_le hlt hk.1, fun i hi => ⟨(hc i hi).1, (World.cell?_of_block (w := W) (hk.2.2 b off p e)).trans (hc i hi).2⟩⟩

set_option maxHeartbeats 4000000 in
theorem keys1_in (n : Nat) (hn : 1 ≤ n) (m Bs : Nat) (k : Int) (x : Ln) (kad : Option Addr) (klen kcap : Nat) (l : List Int) (hkl : klen ≤ 9223372036854775807) (J Jx : List (Kx l) → World → Prop) (W : World)
    (hY : ∀ pre a W1, J pre W1 → pre.length < l.length → YieldAt Fence.wide (n - 1) Tryz.prog m #[.int .i64 a.1] W1 fun e W' =>
      (e = .returned (.bool true) ∧ J (pre ++ [a]) W' ∧ KpK Bs kad klen W1 W') ∨ (e = .returned (.bool false) ∧ Jx (pre ++ [a]) W'))
    (hH : KsAt W Bs k x kad klen kcap l) (h0 : J [] W) :
    CallsIn Fence.wide n Tryz.prog 44 #[.func (.yield m) #[] #[], .pointer (some ⟨Bs, 0, none⟩)] W fun e W' => (∃ v, e = .returned v) ∧
      ((∃ ys, ys.map (·.1) = kys k 0 l ∧ J ys W') ∨ (∃ pre, pre.map (·.1) <+: kys k 0 l ∧ Jx pre W')) := by
  obtain ⟨hc0, hc1, hc2⟩ := hH.bx.c3
  refine callsIn_of_wp Tryz.func44 rfl trivial ?_ rfl
  simp only [Tryz.ntmps44, List.size_toArray, List.length_cons, List.length_nil, Nat.reduceAdd, Nat.reduceSub, Array.replicate_succ, Array.replicate_zero, List.push_toArray, List.append_toArray, List.nil_append, List.cons_append]
  have HH : Hid (KsAt W Bs k x kad klen kcap l) := hH
  have HL : Hid (klen = l.length) := hH.ks.1
  clear hH
  gi_wp2
  clear hc0 hc1 hc2
  gi_loopw [8] (fun u wr => ∃ (j : Nat) (pre : List (Kx l)), u = .int .i64 (j : Int) ∧ j ≤ klen ∧ Hid (pre.map (·.1) ++ kys k j (l.drop j) = kys k 0 l) ∧ Hid (KsAt wr Bs k x kad klen kcap l) ∧ Hid (pre.length ≤ j) ∧ J pre wr) (fun u _ => klen - (intOf u).toNat)
  case atStart => exact ⟨0, [], rfl, Nat.zero_le _, rfl, HH, Nat.le_refl _, h0⟩
  case round =>
    obtain ⟨j, pre, rfl, hj, HX, HS, HP, hJ⟩ := hrel
    obtain ⟨c0, c1, c2⟩ := HS.out.bx.c3
    by_cases hlt : j < klen
    · obtain ⟨b, off, rfl, hb, hc⟩ := HS.out.ks.2 (by omega)
      have x0 := (hc j hlt).2
      have hll : j < l.length := by have := HL.out; omega
      have hmem : l.getD j 0 ∈ l := by
        rw [List.getD_eq_getElem?_getD, List.getElem?_eq_getElem hll]
        exact List.getElem_mem hll
      have HX2 := HX.out
      rw [kys_at k j l hll] at HX2
      have HX3 : Hid (pre.map (·.1) ++ (if kyP k j = true then l.getD j 0 :: kys k (j + 1) (l.drop (j + 1)) else kys k (j + 1) (l.drop (j + 1))) = kys k 0 l) := HX2
      clear HX2 HX
      obtain ⟨a, ha⟩ : ∃ a : Kx l, a.1 = l.getD j 0 := ⟨⟨_, hmem⟩, rfl⟩
      rw [← ha] at x0 HX3
      clear hmem ha hc
      have HK := fun w' : World => kyPlace_any (w := w') (k := k) j (by omega)
      have HPl : Hid (pre.length < l.length) := by have := HP.out; show _ < _; omega
      cases hk : kyP k j
      · have HK0 : Hid (∀ w', Calls Tryz.prog 34 #[.int .i64 k, .int .i64 (j : Int)] w' fun e w'' => e = .returned (.bool false) ∧ w' = w'') := fun w' => by have := HK w'; rw [hk] at this; exact this
        clear HK
        rw [hk, if_neg (by decide)] at HX3
        gi_wp2_with (first | (refine ⟨trivial, ?_⟩; gi_at_call 34; refine (callsIn_wide.2 (HK0.out _)).mono ?_; rintro e w' ⟨rfl, rfl⟩))
        rename_i hK _ _ _ heq
        refine ⟨fun f h => (by cases h), hK _ _ ?_⟩
        clear heq
        gi_wp2
        go_roundw
        case rel => exact ⟨j + 1, pre, by go_num, by omega, HX3, HS, by have := HP.out; show _ ≤ _; omega, hJ⟩
        case measure => simp [intOf]; omega
      · have HK0 : Hid (∀ w', Calls Tryz.prog 34 #[.int .i64 k, .int .i64 (j : Int)] w' fun e w'' => e = .returned (.bool true) ∧ w' = w'') := fun w' => by have := HK w'; rw [hk] at this; exact this
        clear HK
        rw [hk, if_pos rfl] at HX3
        have HX4 : Hid ((pre ++ [a]).map (·.1) ++ kys k (j + 1) (l.drop (j + 1)) = kys k 0 l) := by
          show _ = _
          rw [List.map_append, List.append_assoc]
          exact HX3.out
        clear HX3
        obtain ⟨fn, tmps, assign, body, hy, hR⟩ := hY pre a wr hJ HPl.out
        gi_wp2_with (first | (refine ⟨trivial, ?_⟩; gi_at_call 34; refine (callsIn_wide.2 (HK0.out _)).mono ?_; rintro e w' ⟨rfl, rfl⟩))
        refine hR.mono ?_
        rintro e W3 (⟨rfl, hJ3, hK3⟩ | ⟨rfl, hJx3⟩)
        · have HS3 : Hid (KsAt W3 Bs k x (some ⟨b, off, none⟩) klen kcap l) := HS.out.kp hK3
          gi_wp2
          go_roundw
          case rel => exact ⟨j + 1, pre ++ [a], by go_num, by omega, HX4, HS3, by have := HP.out; show _ ≤ _; rw [List.length_append, List.length_singleton]; omega, hJ3⟩
          case measure => simp [intOf]; omega
        · gi_wp2
          refine bodyPost_ret (results_none rfl _ _ _) rfl ?_
          exact ⟨⟨_, rfl⟩, .inr ⟨pre ++ [a], ⟨_, HX4.out⟩, hJx3⟩⟩
    · have HE : Hid (pre.map (·.1) = kys k 0 l) := by
        have h := HX.out
        rw [List.drop_of_length_le (by have := HL.out; omega)] at h
        rw [kys, List.append_nil] at h
        exact h
      gi_wp2
      go_end0
      exact ⟨⟨_, rfl⟩, .inl ⟨pre, HE.out, hJ⟩⟩
theorem keysOf_in (k : Int) (x : Ln) (kad : Option Addr) (klen kcap : Nat) (n : Nat) (w : World) :
    CallsIn Fence.wide n Tryz.prog 35 #[nv k x kad klen kcap] w fun e w' => e = .returned (.func (.func 44) #[] #[.pointer (some ⟨w.heap.size, 0, none⟩)]) ∧ w' = w.alloc (.cells #[.int .i64 k, .string (mk x), .slice kad klen kcap] 38) := by
  refine callsIn_of_wp Tryz.func35 rfl trivial ?_ rfl
  simp only [Tryz.ntmps35, List.size_toArray, List.length_cons, List.length_nil, Nat.reduceAdd, Nat.reduceSub, Array.replicate_succ, Array.replicate_zero, List.push_toArray, List.append_toArray, List.nil_append, List.cons_append]
  gi_wp2
  go_ret
  exact ⟨rfl, rfl⟩
/-- **the iterator's contract** -/
theorem keys_stops (n : Nat) (hn : 1 ≤ n) (Bs : Nat) (k : Int) (x : Ln) (kad : Option Addr) (klen kcap : Nat) (l : List Int) (hkl : klen ≤ 9223372036854775807) (w : World) (hH : KsAt w Bs k x kad klen kcap l) :
    SeqStopsK Fence.wide n Tryz.prog 44 #[.pointer (some ⟨Bs, 0, none⟩)] (fun a : Kx l => #[Value.int .i64 a.1]) (KpK Bs kad klen) (fun ys => ys.map (·.1) = kys k 0 l) (fun pre => pre.map (·.1) <+: kys k 0 l) l.length w := fun m J Jx W hW hJ _ hY h0 =>
  keys1_in n hn m Bs k x kad klen kcap l hkl J Jx W hY (hH.kp (kpk_below hW hH.bx.lt hH.ks)) h0
end Go.Proofs.YtkggdjghjdakoaaGreatDoor.Grp
