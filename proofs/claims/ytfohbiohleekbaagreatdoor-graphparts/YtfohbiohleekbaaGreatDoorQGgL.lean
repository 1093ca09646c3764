/- Several texts as one: GraphFacts, GraphFacts2, GraphFacts3. -/
import Derived.Test.YtfohbiohleekbaaGreatDoorQGgG
section
/- . -/
namespace Go.Proofs.YtfohbiohleekbaaGreatDoor.Grp
open Utf Rws Pln Flw
open Go.RowKit
set_option linter.unusedSimpArgs false
set_option linter.unusedVariables false
theorem lft_all (len : Nat) : ∀ (l out : List Nat), (out ++ l).Nodup → (∀ a ∈ l, a < len) → (out ++ l).length + lft len (out ++ l) = out.length + lft len out
 | [], out, _, _ => by rw [List.append_nil]
 | a :: l, out, hn, hl => by
  have e : out ++ a :: l = (out ++ [a]) ++ l := by simp
  rw [e] at hn ⊢
  have h1 := lft_all len l (out ++ [a]) hn (fun b hb => hl b (by simp [hb]))
  have hna : a ∉ out := by
   have := (List.nodup_append.1 hn).1
   intro h
   exact (List.nodup_append.1 this).2.2 a h a (by simp) rfl
  have h2 := lft_snoc hna (hl a (by simp))
  rw [h1, List.length_append, List.length_singleton]
  omega
theorem len_le {O : List Nat} {len : Nat} (hn : O.Nodup) (hl : ∀ a ∈ O, a < len) : O.length ≤ len := by
 have h := lft_all len O [] (by simpa using hn) hl
 simp only [List.nil_append, List.length_nil, lft_nil] at h
 omega
def cnt (l : List Int) (x : Nat) : Nat := (l.map Int.toNat).count x
theorem bmps_eq : ∀ (l : List Int) (T : Nat → Nat) (x : Nat), bmps T l x = T x + cnt l x
 | [], T, x => rfl
 | a :: l, T, x => by
  have e : bmps T (a :: l) x = bmps (bump T a.toNat) l x := rfl
  rw [e, bmps_eq l, cnt, cnt, List.map_cons, List.count_cons, bump]
  by_cases h : x = a.toNat
  ·rw [if_pos h, if_pos (by simp [h])]; omega
  ·rw [if_neg h, if_neg (by simpa using (fun e => h e.symm))]; omega
theorem timN_eq : ∀ (ns : List Nd) (T : Nat → Nat) (x : Nat), timN T ns x = T x + (ns.map (fun n => cnt n.kids x)).sum
 | [], T, x => rfl
 | n :: ns, T, x => by
  have e : timN T (n :: ns) x = timN (bmps T n.kids) ns x := rfl
  rw [e, timN_eq ns, bmps_eq, List.map_cons, List.sum_cons]
  omega
theorem map_range (ns : List Nd) (f : Nd → Nat) : (ns.map f).sum = ((List.range ns.length).map (fun a => f (ns.getD a nd0))).sum := by
 congr 1
 apply List.ext_getElem
 ·simp
 ·intro i h1 h2
  have hi : i < ns.length := by simpa using h1
  simp only [List.getElem_map, List.getElem_range, List.getD_eq_getElem?_getD, List.getElem?_eq_getElem hi, Option.getD_some]
theorem cnN_len (ns : List Nd) (O : List Nat) : (cnN ns O).length = O.length := by unfold cnN; rw [List.length_map]
theorem odG_nd (ns : List Nd) (m : Nat) : (odG ns m).Nodup := ord_nodup _ _ _
theorem od_pos (ns : List Nd) (m : Nat) : 0 < (odG ns m).length ∧ (odG ns m).idxOf m = 0 ∧ m ∈ odG ns m := by
 obtain ⟨t, e⟩ := ord_head (kd ns) (ful (kd ns) ns.length - 1) m
 have e2 : odG ns m = m :: t := by
  unfold odG
  rw [show ful (kd ns) ns.length = ful (kd ns) ns.length - 1 + 1 by unfold ful; omega]
  exact e
 rw [e2]
 exact ⟨by simp, by simp, by simp⟩
end Go.Proofs.YtfohbiohleekbaaGreatDoor.Grp
end

section
/- . -/
namespace Go.Proofs.YtfohbiohleekbaaGreatDoor.Grp
open Utf Rws Pln Flw
open Go.RowKit
set_option linter.unusedSimpArgs false
set_option linter.unusedVariables false
theorem al1_iff (ns : List Nd) : ∀ ms : List Nd, al1 ns ms = true ↔ ∀ n ∈ ms, rAl n.kind n.text = true ∧ rKd ns n.kind n.kids = true
 | [] => by simp [al1]
 | m :: t => by rw [al1, Bool.and_eq_true, Bool.and_eq_true, al1_iff ns t]; simp
theorem al2_iff (ns : List Nd) : ∀ ms : List Nd, al2 ns ms = true ↔ ∀ n ∈ ms, dif ((kys n.kind 0 n.kids).map (kp ns)) = true
 | [] => by simp [al2]
 | m :: t => by rw [al2, Bool.and_eq_true, al2_iff ns t]; simp
theorem kNe_iff (T : Nat → Nat) : ∀ ms : List Nd, kNe T ms = true ↔ ∀ n ∈ ms, ∀ a ∈ kys n.kind 0 n.kids, T a.toNat ≤ 1
 | [] => by simp [kNe]
 | m :: t => by rw [kNe, Bool.and_eq_true, kNe_iff T t, List.all_eq_true]; simp
theorem isKy_iff (a : Int) : ∀ ms : List Nd, isKy ms a = true ↔ ∃ n ∈ ms, a ∈ kys n.kind 0 n.kids
 | [] => by simp [isKy]
 | m :: t => by rw [isKy, Bool.or_eq_true, isKy_iff a t, List.contains_iff_mem]; simp
theorem kdOk_iff (ns : List Nd) (k : Int) : ∀ (i : Nat) (l : List Int), kdOk ns k i l = true ↔ (∀ a ∈ l, isP ns.length a = true) ∧ ∀ a ∈ kys k i l, sca (ns.getD a.toNat nd0).kind = true
 | _, [] => by simp [kdOk, kys]
 | i, a :: t => by
  rw [kdOk, Bool.and_eq_true, Bool.and_eq_true, kdOk_iff ns k (i + 1) t, Bool.or_eq_true, Bool.not_eq_true', kys]
  cases hk : kyP k i
  ·simp only [true_or, and_true, Bool.false_eq_true, if_false, List.mem_cons, forall_eq_or_imp]
   exact ⟨fun h => ⟨⟨h.1, h.2.1⟩, h.2.2⟩, fun h => ⟨h.1.1, h.1.2, h.2⟩⟩
  ·simp only [Bool.true_eq_false, false_or, if_true, List.mem_cons, forall_eq_or_imp]
   exact ⟨fun h => ⟨⟨h.1.1, h.2.1⟩, h.1.2, h.2.2⟩, fun h => ⟨⟨h.1.1, h.2.1⟩, h.1.2, h.2.2⟩⟩
theorem kid_count {ns : List Nd} {n : Nd} {b : Int} (hn : n ∈ ns) (hb : b ∈ n.kids) : 1 ≤ (ns.map (fun n => cnt n.kids b.toNat)).sum := by
 have h1 : 1 ≤ cnt n.kids b.toNat := List.one_le_count_iff.2 (List.mem_map_of_mem hb)
 have h2 : ∀ ms : List Nd, n ∈ ms → cnt n.kids b.toNat ≤ (ms.map (fun n => cnt n.kids b.toNat)).sum := by
  intro ms
  induction ms with
  | nil => intro h; cases h
  | cons q t ih =>
   intro h
   rw [List.map_cons, List.sum_cons]
   rcases List.mem_cons.1 h with rfl | h
   ·omega
   ·have := ih h; omega
 have := h2 ns hn
 omega
end Go.Proofs.YtfohbiohleekbaaGreatDoor.Grp
end

section
/- . -/
namespace Go.Proofs.YtfohbiohleekbaaGreatDoor.Grp
open Utf Rws Pln Flw
open Go.RowKit
set_option linter.unusedSimpArgs false
set_option linter.unusedVariables false
set_option maxRecDepth 100000
end Go.Proofs.YtfohbiohleekbaaGreatDoor.Grp
end
