/- Several texts as one: GraphTop2I, GraphFacts, GraphFacts2, GraphAgS. -/
import Derived.Test.YtaphijgbebhdlaaGreatDoorZ39GraphCanZ
section
/- Package graph's Order and Depth, by their contracts. -/
namespace Go.Proofs.YtaphijgbebhdlaaGreatDoor.Grp
open Utf Rws Pln Flw
open Go.RowKit
set_option linter.unusedSimpArgs false
set_option linter.unusedVariables false
set_option maxRecDepth 100000
set_option maxHeartbeats 4000000

/-- what Order answers -/
def ORes (w : World) (q : Bool) (O : List Nat) (e : Ending) (w' : World) : Prop := (if q = true then ∃ ad cap, e = .returned (.tuple #[.slice ad O.length cap, .int .i64 0]) ∧ IAt w' ad O.length (O.map fun a : Nat => (a : Int)) ∧ O.length ≤ 5000 else e = .returned (.tuple #[.slice none 0 0, .int .i64 1])) ∧ Below w.heap.size w w'
theorem WkS.ord {w0 W : World} {K C : Nat} {nsl : Value} {len : Nat} {out : List Nat} {m : Nat} (h : WkS w0 W K C nsl len out m) (hl : ∀ a ∈ out, a < len) (hn : len ≤ 4096) : ∃ ad cap, W.cell? ⟨K, 1, none⟩ = some (.slice ad out.length cap) ∧ IAt W ad out.length (out.map fun a : Nat => (a : Int)) := by
  obtain ⟨ov, hb, ho⟩ := h.s
  obtain ⟨ad, cap, rfl⟩ := own_shape ho
  rw [map_nat] at ho
  exact ⟨ad, cap, hb.cell 1, (iat_own ho (fun a ha => by obtain ⟨x, hx, rfl⟩ := List.mem_map.1 ha; have := hl x hx; constructor <;> omega)).1.1⟩
theorem order_core {w : World} {ad : Option Addr} {len cap : Nat} {r : Int} {ns : List Nd} (hlen : len ≤ 9223372036854775807) (hN : NAt w ad len ns) (hS : Sml ns) (hT : Tb w) :
    Calls Tryz.prog 20 #[gv ad len cap r] w (ORes w (rgG ⟨ns, r⟩) (odG ns r.toNat)) := by
  have HLn : Hid (len = ns.length) := hN.1
  have h0 : RS w (w.alloc (.cells #[.slice ad len cap, .int .i64 r] 24)) w.heap.size (.slice ad len cap) (.int .i64 r) := ⟨Bx.new _ _ _, below_alloc _ _⟩
  have HR : Hid (∀ w', Hid (RS w w' w.heap.size (.slice ad len cap) (.int .i64 r)) → Calls Tryz.prog 32 #[gv ad len cap r] w' fun e w'' => e = .returned (.bool (rgG ⟨ns, r⟩)) ∧ Hid (RS w w'' w.heap.size (.slice ad len cap) (.int .i64 r))) :=
    fun w' h => (right_core hlen (hN.later h.out.bl (Nat.le_refl _)) hS (hT.later h.out.bl)).mono (fun e w'' q => ⟨q.1, h.out.later q.2⟩)
  cases hq : rgG ⟨ns, r⟩
  · rw [hq] at HR
    go_enter Tryz.func20, Tryz.ntmps20
    go_wp2_with fail
    generalize w.alloc (.cells #[.slice ad len cap, .int .i64 r] 24) = W0 at h0 ⊢
    refine (HR.out _ h0).mono ?_
    rintro e w1 ⟨rfl, H1⟩
    clear HR hS hT hN h0
    go_wp2
    go_ret2
    exact ⟨by rw [if_neg (by decide)]; rfl, H1.out.bl⟩
  · obtain ⟨f1, f2, f3⟩ := rgG_facts hq
    have f4 := f3
    rw [← HLn.out] at f1 f2 f3
    obtain ⟨m, rfl, hm⟩ := isP_nat f2
    have hsum := (hS (by have := HLn.out; omega)).2
    rw [Int.toNat_natCast]
    rw [hq] at HR
    have HW : Hid (∀ w', Hid (RS w w' w.heap.size (.slice ad len cap) (.int .i64 (m : Int))) → Calls Tryz.prog 33 #[gv ad len cap (m : Int)] w' fun e w'' => ∃ K C oa oc, e = .returned (.pointer (some ⟨K, 0, none⟩)) ∧ w''.cell? ⟨K, 1, none⟩ = some (.slice oa (odG ns m).length oc) ∧ Hid (IAt w'' oa (odG ns m).length ((odG ns m).map fun a : Nat => (a : Int)) ∧ (odG ns m).length ≤ 5000 ∧ Below w.heap.size w w'')) :=
      fun w' h => walk_graph f1 (hN.later h.out.bl (Nat.le_refl _)) hm f3 hsum (fun K C w'' hw => by
        obtain ⟨oa, oc, e1, e2⟩ := hw.ord (fun a ha => by rw [HLn.out]; exact odG_lt f4 (by rw [← HLn.out]; exact hm) a ha) f1
        have h5 := hw.h5
        exact ⟨K, C, oa, oc, rfl, e1, e2, by omega, h.out.bl.trans (hw.bl.mono h.out.bl.size)⟩)
    clear hS hT f1 f2 f3 hsum hN f4
    go_enter Tryz.func20, Tryz.ntmps20
    go_wp2_with fail
    generalize w.alloc (.cells #[.slice ad len cap, .int .i64 (m : Int)] 24) = W0 at h0 ⊢
    refine (HR.out _ h0).mono ?_
    rintro e w1 ⟨rfl, H1⟩
    obtain ⟨c0, c1⟩ := H1.out.g.c2
    go_wp2_with (go_at_call 33; refine (HW.out _ H1).mono ?_; rintro e w2 ⟨K, C, oa, oc, rfl, d1, H2⟩)
    go_ret2
    exact ⟨by rw [if_pos rfl]; exact ⟨oa, oc, rfl, H2.out.1, H2.out.2.1⟩, H2.out.2.2⟩
/-- what Depth answers -/
def DRes (w : World) (q : Bool) (d : Nat) (e : Ending) (w' : World) : Prop := (if q = true then e = .returned (.tuple #[.int .i64 (d : Int), .int .i64 0]) else e = .returned (.tuple #[.int .i64 0, .int .i64 1])) ∧ Below w.heap.size w w'
theorem order_any {w : World} {v : Value} {g : Gr} (h : GrV w v g) (hS : Sml g.nodes) (hT : Tb w) : Calls Tryz.prog 20 #[v] w (ORes w (rgG g) (odG g.nodes g.root.toNat)) := by
  obtain ⟨ad, len, cap, rfl, h1, h2, h3, h4⟩ := h
  have : maxLen = 9223372036854775807 := rfl
  exact order_core (by omega) h4 hS hT
end Go.Proofs.YtaphijgbebhdlaaGreatDoor.Grp
end

section
/- The Canon of a graph that may be may be, is its own Canon, in the order of its places, and as deep. -/
namespace Go.Proofs.YtaphijgbebhdlaaGreatDoor.Grp
open Utf Rws Pln Flw
open Go.RowKit
set_option linter.unusedSimpArgs false
set_option linter.unusedVariables false

/-! ### how many places came -/
theorem lft_all (len : Nat) : ∀ (l out : List Nat), (out ++ l).Nodup → (∀ a ∈ l, a < len) → (out ++ l).length + lft len (out ++ l) = out.length + lft len out
  | [], out, _, _ => by rw [List.append_nil]
  | a :: l, out, hn, hl => by
    have e : out ++ a :: l = (out ++ [a]) ++ l := by simp
    rw [e] at hn ⊢
    have h1 := lft_all len l (out ++ [a]) hn (fun b hb => hl b (by simp [hb]))
    have hna : a ∉ out := by
      have := (List.nodup_append.1 hn).1
      intro h
      exact (List.nodup_append.1 this).2.2 a h a (by simp) rfl
    have h2 := lft_snoc hna (hl a (by simp))
    rw [h1, List.length_append, List.length_singleton]
    omega
theorem len_le {O : List Nat} {len : Nat} (hn : O.Nodup) (hl : ∀ a ∈ O, a < len) : O.length ≤ len := by
  have h := lft_all len O [] (by simpa using hn) hl
  simp only [List.nil_append, List.length_nil, lft_nil] at h
  omega
theorem sum_sub (f : Nat → Nat) (len : Nat) : ∀ (l out : List Nat), (out ++ l).Nodup → (∀ a ∈ l, a < len) →
    (l.map f).sum + (((List.range len).filter (fun b => decide (b ∉ out ++ l))).map f).sum = (((List.range len).filter (fun b => decide (b ∉ out))).map f).sum
  | [], out, _, _ => by simp
  | a :: l, out, hn, hl => by
    have e : out ++ a :: l = (out ++ [a]) ++ l := by simp
    rw [e] at hn ⊢
    have h1 := sum_sub f len l (out ++ [a]) hn (fun b hb => hl b (by simp [hb]))
    have hna : a ∉ out := by
      have := (List.nodup_append.1 hn).1
      intro h
      exact (List.nodup_append.1 this).2.2 a h a (by simp) rfl
    have h2 := filter_less (fun b => List.replicate (f b) 0) out a hna (List.range len) List.nodup_range (List.mem_range.2 (hl a (by simp)))
    simp only [List.length_replicate] at h2
    change (List.map f _).sum + f a = (List.map f _).sum at h2
    rw [List.map_cons, List.sum_cons]
    omega
theorem sum_le (f : Nat → Nat) {len : Nat} {O : List Nat} (hn : O.Nodup) (hl : ∀ a ∈ O, a < len) : (O.map f).sum ≤ ((List.range len).map f).sum := by
  have h := sum_sub f len O [] (by simpa using hn) hl
  simp only [List.nil_append] at h
  rw [show (List.range len).filter (fun b => decide (b ∉ ([] : List Nat))) = List.range len from List.filter_eq_self.2 (by simp)] at h
  omega
/-! ### how often a place is a Kid -/
def cnt (l : List Int) (x : Nat) : Nat := (l.map Int.toNat).count x
theorem bmps_eq : ∀ (l : List Int) (T : Nat → Nat) (x : Nat), bmps T l x = T x + cnt l x
  | [], T, x => rfl
  | a :: l, T, x => by
    have e : bmps T (a :: l) x = bmps (bump T a.toNat) l x := rfl
    rw [e, bmps_eq l, cnt, cnt, List.map_cons, List.count_cons, bump]
    by_cases h : x = a.toNat
    · rw [if_pos h, if_pos (by simp [h])]; omega
    · rw [if_neg h, if_neg (by simpa using (fun e => h e.symm))]; omega
theorem timN_eq : ∀ (ns : List Nd) (T : Nat → Nat) (x : Nat), timN T ns x = T x + (ns.map (fun n => cnt n.kids x)).sum
  | [], T, x => rfl
  | n :: ns, T, x => by
    have e : timN T (n :: ns) x = timN (bmps T n.kids) ns x := rfl
    rw [e, timN_eq ns, bmps_eq, List.map_cons, List.sum_cons]
    omega
theorem map_range (ns : List Nd) (f : Nd → Nat) : (ns.map f).sum = ((List.range ns.length).map (fun a => f (ns.getD a nd0))).sum := by
  congr 1
  apply List.ext_getElem
  · simp
  · intro i h1 h2
    have hi : i < ns.length := by simpa using h1
    simp only [List.getElem_map, List.getElem_range, List.getD_eq_getElem?_getD, List.getElem?_eq_getElem hi, Option.getD_some]
theorem count_inj {f : Nat → Nat} {b : Nat} : ∀ (l : List Nat), (∀ c ∈ l, f c = f b → c = b) → (l.map f).count (f b) = l.count b
  | [], _ => rfl
  | c :: l, h => by
    rw [List.map_cons, List.count_cons, List.count_cons, count_inj l (fun d hd => h d (by simp [hd]))]
    by_cases e : c = b
    · subst e; simp
    · have : ¬ f c = f b := fun q => e (h c (by simp) q)
      simp [e, this]
/-! ### the Canon -/
theorem cnN_len (ns : List Nd) (O : List Nat) : (cnN ns O).length = O.length := by unfold cnN; rw [List.length_map]
theorem cnN_of {ns : List Nd} {O : List Nat} {b : Nat} (h : b ∈ O) : (cnN ns O).getD (O.idxOf b) nd0 = ⟨(ns.getD b nd0).kind, (ns.getD b nd0).text, (ns.getD b nd0).kids.map fun c => (O.idxOf c.toNat : Int)⟩ := by
  have hl := List.idxOf_lt_length_of_mem h
  rw [cnN_at ns O hl, List.getElem_idxOf hl]
theorem kd_can {ns : List Nd} {O : List Nat} {i : Nat} (h : i < O.length) : kd (cnN ns O) i = can (kd ns) O i := by
  unfold kd can
  rw [cnN_at ns O h, List.getD_eq_getElem?_getD (l := O), List.getElem?_eq_getElem h]
  simp only [Option.getD_some, List.map_map, kd]
  rfl
theorem wk_same {g g' : Nat → List Nat} {S : Nat → Prop} (hc : ∀ a, S a → ∀ b ∈ g a, S b) (hh : ∀ a, S a → g' a = g a) (n : Nat) (todo : List (Nat × Nat)) (m : Nat) (ht : ∀ p ∈ todo, S p.1) : wk g' n todo [] m = wk g n todo [] m := by
  have h := wk_map (g := g) (g' := g') (f := fun a => a) (S := S) hc (fun a b _ _ e => e) (fun a ha => by rw [hh a ha]; simp) n todo [] m ht (by simp)
  simp only [List.map_id', List.map_nil] at h
  exact h
theorem odG_nd (ns : List Nd) (m : Nat) : (odG ns m).Nodup := ord_nodup _ _ _
theorem od_pos (ns : List Nd) (m : Nat) : 0 < (odG ns m).length ∧ (odG ns m).idxOf m = 0 ∧ m ∈ odG ns m := by
  obtain ⟨t, e⟩ := ord_head (kd ns) (ful (kd ns) ns.length - 1) m
  have e2 : odG ns m = m :: t := by
    unfold odG
    rw [show ful (kd ns) ns.length = ful (kd ns) ns.length - 1 + 1 by unfold ful; omega]
    exact e
  rw [e2]
  exact ⟨by simp, by simp, by simp⟩
theorem can_walk {ns : List Nd} (hk : ∀ n ∈ ns, ∀ a ∈ n.kids, isP ns.length a = true) {m : Nat} (hm : m < ns.length) : wk (kd (cnN ns (odG ns m))) (ful (kd (cnN ns (odG ns m))) (cnN ns (odG ns m)).length) [(0, 1)] [] 0 = (List.range (odG ns m).length, dpG ns m) := by
  have hg := kd_lt hk rfl
  have hcl := can_lt hg hm (mea_ful (kd ns) ns.length (m, 1) [])
  obtain ⟨hp, _, _⟩ := od_pos ns m
  have hw : ∀ n, wk (kd (cnN ns (odG ns m))) n [(0, 1)] [] 0 = wk (can (kd ns) (odG ns m)) n [(0, 1)] [] 0 := fun n =>
    wk_same (S := fun a => a < (odG ns m).length) (fun a ha b hb => hcl a ha b hb) (fun a ha => kd_can ha) n [(0, 1)] 0 (by simpa using hp)
  have hlt : ∀ a, a < (odG ns m).length → ∀ b ∈ kd (cnN ns (odG ns m)) a, b < (odG ns m).length := fun a ha b hb => by rw [kd_can ha] at hb; exact hcl a ha b hb
  have h1 := can_ord hg hm (mea_ful (kd ns) ns.length (m, 1) [])
  have hsum := sum_le (fun a => (kd ns a).length) (odG_nd ns m) (odG_lt hk hm)
  have hS : ((List.range (odG ns m).length).map (fun a => (kd (cnN ns (odG ns m)) a).length)).sum = ((odG ns m).map (fun a => (kd ns a).length)).sum := by
    congr 1
    apply List.ext_getElem
    · simp
    · intro i h2 h3
      have hi : i < (odG ns m).length := by simpa using h2
      simp only [List.getElem_map, List.getElem_range]
      rw [kd_can hi, can, List.length_map, List.getD_eq_getElem?_getD, List.getElem?_eq_getElem hi, Option.getD_some]
  have hf : mea (kd (cnN ns (odG ns m))) (odG ns m).length [(0, 1)] [] < ful (kd ns) ns.length := by
    rw [mea_one, hS]
    unfold ful
    omega
  rw [cnN_len, wk_fuel hlt (n' := ful (kd ns) ns.length) (by simpa using hp) (mea_ful _ _ _ _) hf, hw]
  exact Prod.ext h1.1 h1.2
theorem od_can {ns : List Nd} (hk : ∀ n ∈ ns, ∀ a ∈ n.kids, isP ns.length a = true) {m : Nat} (hm : m < ns.length) : odG (cnN ns (odG ns m)) 0 = List.range (odG ns m).length := by
  show (wk _ _ _ _ _).1 = _
  rw [can_walk hk hm]
theorem dp_can {ns : List Nd} (hk : ∀ n ∈ ns, ∀ a ∈ n.kids, isP ns.length a = true) {m : Nat} (hm : m < ns.length) : dpG (cnN ns (odG ns m)) 0 = dpG ns m := by
  show (wk _ _ _ _ _).2 = _
  rw [can_walk hk hm]
theorem cn_can {ns : List Nd} (hk : ∀ n ∈ ns, ∀ a ∈ n.kids, isP ns.length a = true) {m : Nat} (hm : m < ns.length) : cnN (cnN ns (odG ns m)) (odG (cnN ns (odG ns m)) 0) = cnN ns (odG ns m) := by
  rw [od_can hk hm]
  apply List.ext_getElem
  · rw [cnN_len, cnN_len, List.length_range]
  · intro i h1 h2
    have hi : i < (odG ns m).length := by rw [cnN_len] at h2; exact h2
    have e1 := cnN_at (cnN ns (odG ns m)) (List.range (odG ns m).length) (j := i) (by simpa using hi)
    rw [List.getD_eq_getElem?_getD, List.getElem?_eq_getElem h1, Option.getD_some, List.getElem_range] at e1
    have e2 : (cnN ns (odG ns m))[i] = (cnN ns (odG ns m)).getD i nd0 := by rw [List.getD_eq_getElem?_getD, List.getElem?_eq_getElem h2, Option.getD_some]
    rw [e1, e2]
    have hkk : ∀ b ∈ ((cnN ns (odG ns m)).getD i nd0).kids, ((List.range (odG ns m).length).idxOf b.toNat : Int) = b := fun b hb => by
      rw [cnN_at ns _ hi] at hb
      obtain ⟨c, hc, rfl⟩ := List.mem_map.1 hb
      rw [Int.toNat_natCast, idx_rng]
      refine List.idxOf_lt_length_of_mem (odG_cl hk hm _ (List.getElem_mem hi) _ ?_)
      exact List.mem_map_of_mem hc
    generalize (cnN ns (odG ns m)).getD i nd0 = nd at *
    obtain ⟨k, x, l⟩ := nd
    simp only at hkk ⊢
    congr 1
    conv => rhs; rw [← List.map_id l]
    exact List.map_congr_left fun b hb => hkk b hb
end Go.Proofs.YtaphijgbebhdlaaGreatDoor.Grp
end

section
/- What is reached from a place that is no key's, as a graph, may be. -/
namespace Go.Proofs.YtaphijgbebhdlaaGreatDoor.Grp
open Utf Rws Pln Flw
open Go.RowKit
set_option linter.unusedSimpArgs false
set_option linter.unusedVariables false

theorem al1_iff (ns : List Nd) : ∀ ms : List Nd, al1 ns ms = true ↔ ∀ n ∈ ms, rAl n.kind n.text = true ∧ rKd ns n.kind n.kids = true
  | [] => by simp [al1]
  | m :: t => by rw [al1, Bool.and_eq_true, Bool.and_eq_true, al1_iff ns t]; simp
theorem al2_iff (ns : List Nd) : ∀ ms : List Nd, al2 ns ms = true ↔ ∀ n ∈ ms, dif ((kys n.kind 0 n.kids).map (kp ns)) = true
  | [] => by simp [al2]
  | m :: t => by rw [al2, Bool.and_eq_true, al2_iff ns t]; simp
theorem kNe_iff (T : Nat → Nat) : ∀ ms : List Nd, kNe T ms = true ↔ ∀ n ∈ ms, ∀ a ∈ kys n.kind 0 n.kids, T a.toNat ≤ 1
  | [] => by simp [kNe]
  | m :: t => by rw [kNe, Bool.and_eq_true, kNe_iff T t, List.all_eq_true]; simp
theorem isKy_iff (a : Int) : ∀ ms : List Nd, isKy ms a = true ↔ ∃ n ∈ ms, a ∈ kys n.kind 0 n.kids
  | [] => by simp [isKy]
  | m :: t => by rw [isKy, Bool.or_eq_true, isKy_iff a t, List.contains_iff_mem]; simp
theorem kys_map (k : Int) (f : Int → Int) : ∀ (i : Nat) (l : List Int), kys k i (l.map f) = (kys k i l).map f
  | _, [] => rfl
  | i, a :: t => by
    rw [List.map_cons, kys, kys, kys_map k f (i + 1) t]
    split
    · rw [List.map_cons]
    · rfl
theorem kdOk_iff (ns : List Nd) (k : Int) : ∀ (i : Nat) (l : List Int), kdOk ns k i l = true ↔ (∀ a ∈ l, isP ns.length a = true) ∧ ∀ a ∈ kys k i l, sca (ns.getD a.toNat nd0).kind = true
  | _, [] => by simp [kdOk, kys]
  | i, a :: t => by
    rw [kdOk, Bool.and_eq_true, Bool.and_eq_true, kdOk_iff ns k (i + 1) t, Bool.or_eq_true, Bool.not_eq_true', kys]
    cases hk : kyP k i
    · simp only [true_or, and_true, Bool.false_eq_true, if_false, List.mem_cons, forall_eq_or_imp]
      exact ⟨fun h => ⟨⟨h.1, h.2.1⟩, h.2.2⟩, fun h => ⟨h.1.1, h.1.2, h.2⟩⟩
    · simp only [Bool.true_eq_false, false_or, if_true, List.mem_cons, forall_eq_or_imp]
      exact ⟨fun h => ⟨⟨h.1.1, h.2.1⟩, h.1.2, h.2.2⟩, fun h => ⟨⟨h.1.1, h.2.1⟩, h.1.2, h.2.2⟩⟩
theorem kid_count {ns : List Nd} {n : Nd} {b : Int} (hn : n ∈ ns) (hb : b ∈ n.kids) : 1 ≤ (ns.map (fun n => cnt n.kids b.toNat)).sum := by
  have h1 : 1 ≤ cnt n.kids b.toNat := List.one_le_count_iff.2 (List.mem_map_of_mem hb)
  have h2 : ∀ ms : List Nd, n ∈ ms → cnt n.kids b.toNat ≤ (ms.map (fun n => cnt n.kids b.toNat)).sum := by
    intro ms
    induction ms with
    | nil => intro h; cases h
    | cons q t ih =>
      intro h
      rw [List.map_cons, List.sum_cons]
      rcases List.mem_cons.1 h with rfl | h
      · omega
      · have := ih h; omega
  have := h2 ns hn
  omega
theorem rg_can {ns : List Nd} {r : Int} (h : rgG ⟨ns, r⟩ = true) {m : Nat} (hm : m < ns.length) (hr : r = (m : Int) ∨ isKy ns (m : Int) = false) : rgG ⟨cnN ns (odG ns m), 0⟩ = true := by
  obtain ⟨f1, f2, f3⟩ := rgG_facts h
  unfold rgG at h
  simp only [Bool.and_eq_true, decide_eq_true_eq] at h
  obtain ⟨⟨⟨_, h1⟩, h2⟩, h3⟩ := h
  rw [al1_iff] at h1
  rw [kNe_iff] at h2
  rw [al2_iff] at h3
  obtain ⟨hp, hi0, hmO⟩ := od_pos ns m
  have hnd := odG_nd ns m
  have hlt := odG_lt f3 hm
  have hcl := odG_cl f3 hm
  have hO : (odG ns m).length ≤ ns.length := len_le hnd hlt
  have hkO : ∀ a ∈ odG ns m, ∀ c ∈ (ns.getD a nd0).kids, c.toNat ∈ odG ns m := fun a ha c hc => hcl a ha _ (List.mem_map_of_mem hc)
  have hmem : ∀ n ∈ cnN ns (odG ns m), ∃ a ∈ odG ns m, n = ⟨(ns.getD a nd0).kind, (ns.getD a nd0).text, (ns.getD a nd0).kids.map fun b => ((odG ns m).idxOf b.toNat : Int)⟩ := fun n hn => by
    obtain ⟨a, ha, e⟩ := List.mem_map.1 hn
    exact ⟨a, ha, e.symm⟩
  have hcell : ∀ a ∈ odG ns m, ns.getD a nd0 ∈ ns := fun a ha => mem_getD (hlt a ha)
  have hkp : ∀ b ∈ odG ns m, kp (cnN ns (odG ns m)) ((odG ns m).idxOf b : Int) = ((ns.getD b nd0).kind, (ns.getD b nd0).text) := fun b hb => by
    unfold kp
    rw [Int.toNat_natCast, cnN_of hb]
  unfold rgG
  simp only [Bool.and_eq_true, decide_eq_true_eq, cnN_len]
  refine ⟨⟨⟨⟨by omega, ?_⟩, ?_⟩, ?_⟩, ?_⟩
  · unfold isP
    simp only [Bool.and_eq_true, decide_eq_true_eq]
    omega
  · rw [al1_iff]
    intro n hn
    obtain ⟨a, ha, rfl⟩ := hmem n hn
    have q := h1 _ (hcell a ha)
    refine ⟨q.1, ?_⟩
    have q2 := q.2
    unfold rKd at q2 ⊢
    simp only [List.length_map]
    rw [Bool.and_eq_true] at q2 ⊢
    refine ⟨q2.1, ?_⟩
    rw [kdOk_iff] at q2 ⊢
    refine ⟨fun b hb => ?_, fun b hb => ?_⟩
    · obtain ⟨c, hc, rfl⟩ := List.mem_map.1 hb
      have := List.idxOf_lt_length_of_mem (hkO a ha c hc)
      unfold isP
      simp only [Bool.and_eq_true, decide_eq_true_eq, cnN_len]
      omega
    · rw [kys_map] at hb
      obtain ⟨c, hc, rfl⟩ := List.mem_map.1 hb
      rw [Int.toNat_natCast, cnN_of (hkO a ha c (kys_mem _ _ _ c hc))]
      exact q2.2.2 c hc
  · rw [kNe_iff]
    intro n hn b hb
    obtain ⟨a, ha, rfl⟩ := hmem n hn
    simp only at hb
    rw [kys_map] at hb
    obtain ⟨c, hc, rfl⟩ := List.mem_map.1 hb
    have hck := kys_mem _ _ _ c hc
    have hcO := hkO a ha c hck
    have q := h2 _ (hcell a ha) c hc
    rw [timN_eq] at q ⊢
    rw [Int.toNat_natCast]
    have hkc := kid_count (hcell a ha) hck
    have hne : c.toNat ≠ m := fun e => by
      rcases hr with hr | hr
      · have : bump (fun _ => 0) r.toNat c.toNat = 1 := by rw [hr, Int.toNat_natCast, e]; simp [bump]
        omega
      · have hcm : c = (m : Int) := by
          obtain ⟨p, e2, _⟩ := isP_nat (f3 _ (hcell a ha) c hck)
          omega
        have : isKy ns (m : Int) = true := (isKy_iff _ ns).2 ⟨_, hcell a ha, by rw [← hcm]; exact hc⟩
        rw [hr] at this
        cases this
    have hi : (odG ns m).idxOf c.toNat ≠ 0 := fun e => hne (idx_inj hcO hmO (by rw [e, hi0]))
    have hb0 : bump (fun _ => 0) (0 : Int).toNat ((odG ns m).idxOf c.toNat) = 0 := by
      unfold bump
      rw [if_neg (by simpa using hi)]
    rw [hb0, Nat.zero_add]
    have e1 : ((cnN ns (odG ns m)).map (fun n => cnt n.kids ((odG ns m).idxOf c.toNat))).sum = ((odG ns m).map (fun a => cnt (ns.getD a nd0).kids c.toNat)).sum := by
      unfold cnN
      rw [List.map_map]
      congr 1
      refine List.map_congr_left fun a' ha' => ?_
      show cnt ((ns.getD a' nd0).kids.map _) _ = _
      unfold cnt
      rw [List.map_map]
      have := count_inj (f := fun x => (odG ns m).idxOf x) (b := c.toNat) ((ns.getD a' nd0).kids.map Int.toNat) (fun d hd e => by
        obtain ⟨d', hd', rfl⟩ := List.mem_map.1 hd
        exact idx_inj (hkO a' ha' d' hd') hcO e)
      rw [List.map_map] at this
      rw [← this]
      congr 1
    rw [e1]
    have e2 := sum_le (fun a => cnt (ns.getD a nd0).kids c.toNat) hnd hlt
    rw [← map_range ns (fun n => cnt n.kids c.toNat)] at e2
    omega
  · rw [al2_iff]
    intro n hn
    obtain ⟨a, ha, rfl⟩ := hmem n hn
    simp only
    rw [kys_map, List.map_map]
    have : (kys (ns.getD a nd0).kind 0 (ns.getD a nd0).kids).map (kp (cnN ns (odG ns m)) ∘ fun b => ((odG ns m).idxOf b.toNat : Int)) = (kys (ns.getD a nd0).kind 0 (ns.getD a nd0).kids).map (kp ns) := by
      refine List.map_congr_left fun c hc => ?_
      show kp (cnN ns (odG ns m)) ((odG ns m).idxOf c.toNat : Int) = _
      rw [hkp _ (hkO a ha c (kys_mem _ _ _ c hc))]
      rfl
    rw [this]
    exact h3 _ (hcell a ha)
end Go.Proofs.YtaphijgbebhdlaaGreatDoor.Grp
end

section
/- A graph in its box; a Canon is no larger. -/
namespace Go.Proofs.YtaphijgbebhdlaaGreatDoor.Grp
open Utf Rws Pln Flw
open Go.RowKit
set_option linter.unusedSimpArgs false
set_option linter.unusedVariables false
set_option maxRecDepth 100000
set_option maxHeartbeats 4000000

/-- a Canon is no larger -/
theorem sml_can {ns : List Nd} {r : Int} (h : rgG ⟨ns, r⟩ = true) {m : Nat} (hm : m < ns.length) (hS : Sml ns) : Sml (cnN ns (odG ns m)) := by
  obtain ⟨f1, f2, f3⟩ := rgG_facts h
  obtain ⟨h1, h2⟩ := hS f1
  have hnd := odG_nd ns m
  have hlt := odG_lt f3 hm
  refine fun _ => ⟨fun n hn => ?_, ?_⟩
  · obtain ⟨a, ha, rfl⟩ := List.mem_map.1 hn
    exact h1 (ns.getD a nd0) (mem_getD (hlt a ha))
  · have e1 : sumK (cnN ns (odG ns m)) = ((odG ns m).map fun a => (ns.getD a nd0).kids.length).sum := by
      unfold sumK cnN
      rw [List.map_map]
      congr 1
      exact List.map_congr_left fun a _ => by simp
    have e2 := sum_le (fun a => (ns.getD a nd0).kids.length) hnd hlt
    have e3 := map_range ns (fun n => n.kids.length)
    have e4 : sumK ns = (ns.map (fun n => n.kids.length)).sum := rfl
    omega
/-- a graph in its box -/
structure AgS (w W : World) (K : Nat) (ad : Option Addr) (len cap : Nat) (r : Int) (ns : List Nd) : Prop where
  b : Bx W K #[.slice ad len cap, .int .i64 r] 24
  bl : Below w.heap.size w W
  g : GrV W (gv ad len cap r) ⟨ns, r⟩
theorem AgS.later {w W W' : World} {K : Nat} {ad : Option Addr} {len cap : Nat} {r : Int} {ns : List Nd} (h : AgS w W K ad len cap r ns) (hb : Below W.heap.size W W') : AgS w W' K ad len cap r ns := ⟨h.b.later hb, h.bl.trans (hb.mono h.bl.size), h.g.later hb (Nat.le_refl _)⟩
theorem AgS.new {w W : World} {ad : Option Addr} {len cap : Nat} {r : Int} {ns : List Nd} (hb : Below w.heap.size w W) (h : GrV W (gv ad len cap r) ⟨ns, r⟩) : AgS w (W.alloc (.cells #[.slice ad len cap, .int .i64 r] 24)) W.heap.size ad len cap r ns := by
  have b1 := below_alloc W (.cells #[.slice ad len cap, .int .i64 r] 24)
  exact ⟨Bx.new _ _ _, hb.trans (b1.mono hb.size), h.later b1 (Nat.le_refl _)⟩
end Go.Proofs.YtaphijgbebhdlaaGreatDoor.Grp
end
