/- Several texts as one: GraphFacts, GraphFacts2, GraphFacts3. -/
import Derived.Test.YtahmnpfmccipbaaGreatDoorGgG
section
/- The Canon of a graph that may be may be, is its own Canon, in the order of its places, and as deep. -/
namespace Go.Proofs.YtahmnpfmccipbaaGreatDoor.Grp
open Utf Rws Pln Flw
open Go.RowKit
set_option linter.unusedSimpArgs false
set_option linter.unusedVariables false

/-! ### how many places came -/
theorem lft_all (len : Nat) : ∀ (l out : List Nat), (out ++ l).Nodup → (∀ a ∈ l, a < len) → (out ++ l).length + lft len (out ++ l) = out.length + lft len out
  | [], out, _, _ => by rw [List.append_nil]
  | a :: l, out, hn, hl => by
    have e : out ++ a :: l = (out ++ [a]) ++ l := by simp
    rw [e] at hn ⊢
    have h1 := lft_all len l (out ++ [a]) hn (fun b hb => hl b (by simp [hb]))
    have hna : a ∉ out := by
      have := (List.nodup_append.1 hn).1
      intro h
      exact (List.nodup_append.1 this).2.2 a h a (by simp) rfl
    have h2 := lft_snoc hna (hl a (by simp))
    rw [h1, List.length_append, List.length_singleton]
    omega
theorem len_le {O : List Nat} {len : Nat} (hn : O.Nodup) (hl : ∀ a ∈ O, a < len) : O.length ≤ len := by
  have h := lft_all len O [] (by simpa using hn) hl
  simp only [List.nil_append, List.length_nil, lft_nil] at h
  omega
theorem sum_sub (f : Nat → Nat) (len : Nat) : ∀ (l out : List Nat), (out ++ l).Nodup → (∀ a ∈ l, a < len) →
    (l.map f).sum + (((List.range len).filter (fun b => decide (b ∉ out ++ l))).map f).sum = (((List.range len).filter (fun b => decide (b ∉ out))).map f).sum
  | [], out, _, _ => by simp
  | a :: l, out, hn, hl => by
    have e : out ++ a :: l = (out ++ [a]) ++ l := by simp
    rw [e] at hn ⊢
    have h1 := sum_sub f len l (out ++ [a]) hn (fun b hb => hl b (by simp [hb]))
    have hna : a ∉ out := by
      have := (List.nodup_append.1 hn).1
      intro h
      exact (List.nodup_append.1 this).2.2 a h a (by simp) rfl
    have h2 := filter_less (fun b => List.replicate (f b) 0) out a hna (List.range len) List.nodup_range (List.mem_range.2 (hl a (by simp)))
    simp only [List.length_replicate] at h2
    change (List.map f _).sum + f a = (List.map f _).sum at h2
    rw [List.map_cons, List.sum_cons]
    omega
theorem sum_le (f : Nat → Nat) {len : Nat} {O : List Nat} (hn : O.Nodup) (hl : ∀ a ∈ O, a < len) : (O.map f).sum ≤ ((List.range len).map f).sum := by
  have h := sum_sub f len O [] (by simpa using hn) hl
  simp only [List.nil_append] at h
  rw [show (List.range len).filter (fun b => decide (b ∉ ([] : List Nat))) = List.range len from List.filter_eq_self.2 (by simp)] at h
  omega
/-! ### how often a place is a Kid -/
def cnt (l : List Int) (x : Nat) : Nat := (l.map Int.toNat).count x
theorem bmps_eq : ∀ (l : List Int) (T : Nat → Nat) (x : Nat), bmps T l x = T x + cnt l x
  | [], T, x => rfl
  | a :: l, T, x => by
    have e : bmps T (a :: l) x = bmps (bump T a.toNat) l x := rfl
    rw [e, bmps_eq l, cnt, cnt, List.map_cons, List.count_cons, bump]
    by_cases h : x = a.toNat
    · rw [if_pos h, if_pos (by simp [h])]; omega
    · rw [if_neg h, if_neg (by simpa using (fun e => h e.symm))]; omega
theorem timN_eq : ∀ (ns : List Nd) (T : Nat → Nat) (x : Nat), timN T ns x = T x + (ns.map (fun n => cnt n.kids x)).sum
  | [], T, x => rfl
  | n :: ns, T, x => by
    have e : timN T (n :: ns) x = timN (bmps T n.kids) ns x := rfl
    rw [e, timN_eq ns, bmps_eq, List.map_cons, List.sum_cons]
    omega
theorem map_range (ns : List Nd) (f : Nd → Nat) : (ns.map f).sum = ((List.range ns.length).map (fun a => f (ns.getD a nd0))).sum := by
  congr 1
  apply List.ext_getElem
  · simp
  · intro i h1 h2
    have hi : i < ns.length := by simpa using h1
    simp only [List.getElem_map, List.getElem_range, List.getD_eq_getElem?_getD, List.getElem?_eq_getElem hi, Option.getD_some]
theorem count_inj {f : Nat → Nat} {b : Nat} : ∀ (l : List Nat), (∀ c ∈ l, f c = f b → c = b) → (l.map f).count (f b) = l.count b
  | [], _ => rfl
  | c :: l, h => by
    rw [List.map_cons, List.count_cons, List.count_cons, count_inj l (fun d hd => h d (by simp [hd]))]
    by_cases e : c = b
    · subst e; simp
    · have : ¬ f c = f b := fun q => e (h c (by simp) q)
      simp [e, this]
/-! ### the Canon -/
theorem cnN_len (ns : List Nd) (O : List Nat) : (cnN ns O).length = O.length := by unfold cnN; rw [List.length_map]
theorem cnN_of {ns : List Nd} {O : List Nat} {b : Nat} (h : b ∈ O) : (cnN ns O).getD (O.idxOf b) nd0 = ⟨(ns.getD b nd0).kind, (ns.getD b nd0).text, (ns.getD b nd0).kids.map fun c => (O.idxOf c.toNat : Int)⟩ := by
  have hl := List.idxOf_lt_length_of_mem h
  rw [cnN_at ns O hl, List.getElem_idxOf hl]
theorem kd_can {ns : List Nd} {O : List Nat} {i : Nat} (h : i < O.length) : kd (cnN ns O) i = can (kd ns) O i := by
  unfold kd can
  rw [cnN_at ns O h, List.getD_eq_getElem?_getD (l := O), List.getElem?_eq_getElem h]
  simp only [Option.getD_some, List.map_map, kd]
  rfl
theorem wk_same {g g' : Nat → List Nat} {S : Nat → Prop} (hc : ∀ a, S a → ∀ b ∈ g a, S b) (hh : ∀ a, S a → g' a = g a) (n : Nat) (todo : List (Nat × Nat)) (m : Nat) (ht : ∀ p ∈ todo, S p.1) : wk g' n todo [] m = wk g n todo [] m := by
  have h := wk_map (g := g) (g' := g') (f := fun a => a) (S := S) hc (fun a b _ _ e => e) (fun a ha => by rw [hh a ha]; simp) n todo [] m ht (by simp)
  simp only [List.map_id', List.map_nil] at h
  exact h
theorem odG_nd (ns : List Nd) (m : Nat) : (odG ns m).Nodup := ord_nodup _ _ _
theorem od_pos (ns : List Nd) (m : Nat) : 0 < (odG ns m).length ∧ (odG ns m).idxOf m = 0 ∧ m ∈ odG ns m := by
  obtain ⟨t, e⟩ := ord_head (kd ns) (ful (kd ns) ns.length - 1) m
  have e2 : odG ns m = m :: t := by
    unfold odG
    rw [show ful (kd ns) ns.length = ful (kd ns) ns.length - 1 + 1 by unfold ful; omega]
    exact e
  rw [e2]
  exact ⟨by simp, by simp, by simp⟩
theorem can_walk {ns : List Nd} (hk : ∀ n ∈ ns, ∀ a ∈ n.kids, isP ns.length a = true) {m : Nat} (hm : m < ns.length) : wk (kd (cnN ns (odG ns m))) (ful (kd (cnN ns (odG ns m))) (cnN ns (odG ns m)).length) [(0, 1)] [] 0 = (List.range (odG ns m).length, dpG ns m) := by
  have hg := kd_lt hk rfl
  have hcl := can_lt hg hm (mea_ful (kd ns) ns.length (m, 1) [])
  obtain ⟨hp, _, _⟩ := od_pos ns m
  have hw : ∀ n, wk (kd (cnN ns (odG ns m))) n [(0, 1)] [] 0 = wk (can (kd ns) (odG ns m)) n [(0, 1)] [] 0 := fun n =>
    wk_same (S := fun a => a < (odG ns m).length) (fun a ha b hb => hcl a ha b hb) (fun a ha => kd_can ha) n [(0, 1)] 0 (by simpa using hp)
  have hlt : ∀ a, a < (odG ns m).length → ∀ b ∈ kd (cnN ns (odG ns m)) a, b < (odG ns m).length := fun a ha b hb => by rw [kd_can ha] at hb; exact hcl a ha b hb
  have h1 := can_ord hg hm (mea_ful (kd ns) ns.length (m, 1) [])
  have hsum := sum_le (fun a => (kd ns a).length) (odG_nd ns m) (odG_lt hk hm)
  have hS : ((List.range (odG ns m).length).map (fun a => (kd (cnN ns (odG ns m)) a).length)).sum = ((odG ns m).map (fun a => (kd ns a).length)).sum := by
    congr 1
    apply List.ext_getElem
    · simp
    · intro i h2 h3
      have hi : i < (odG ns m).length := by simpa using h2
      simp only [List.getElem_map, List.getElem_range]
      rw [kd_can hi, can, List.length_map, List.getD_eq_getElem?_getD, List.getElem?_eq_getElem hi, Option.getD_some]
  have hf : mea (kd (cnN ns (odG ns m))) (odG ns m).length [(0, 1)] [] < ful (kd ns) ns.length := by
    rw [mea_one, hS]
    unfold ful
    omega
  rw [cnN_len, wk_fuel hlt (n' := ful (kd ns) ns.length) (by simpa using hp) (mea_ful _ _ _ _) hf, hw]
  exact Prod.ext h1.1 h1.2
theorem od_can {ns : List Nd} (hk : ∀ n ∈ ns, ∀ a ∈ n.kids, isP ns.length a = true) {m : Nat} (hm : m < ns.length) : odG (cnN ns (odG ns m)) 0 = List.range (odG ns m).length := by
  show (wk _ _ _ _ _).1 = _
  rw [can_walk hk hm]
theorem dp_can {ns : List Nd} (hk : ∀ n ∈ ns, ∀ a ∈ n.kids, isP ns.length a = true) {m : Nat} (hm : m < ns.length) : dpG (cnN ns (odG ns m)) 0 = dpG ns m := by
  show (wk _ _ _ _ _).2 = _
  rw [can_walk hk hm]
theorem cn_can {ns : List Nd} (hk : ∀ n ∈ ns, ∀ a ∈ n.kids, isP ns.length a = true) {m : Nat} (hm : m < ns.length) : cnN (cnN ns (odG ns m)) (odG (cnN ns (odG ns m)) 0) = cnN ns (odG ns m) := by
  rw [od_can hk hm]
  apply List.ext_getElem
  · rw [cnN_len, cnN_len, List.length_range]
  · intro i h1 h2
    have hi : i < (odG ns m).length := by rw [cnN_len] at h2; exact h2
    have e1 := cnN_at (cnN ns (odG ns m)) (List.range (odG ns m).length) (j := i) (by simpa using hi)
    rw [List.getD_eq_getElem?_getD, List.getElem?_eq_getElem h1, Option.getD_some, List.getElem_range] at e1
    have e2 : (cnN ns (odG ns m))[i] = (cnN ns (odG ns m)).getD i nd0 := by rw [List.getD_eq_getElem?_getD, List.getElem?_eq_getElem h2, Option.getD_some]
    rw [e1, e2]
    have hkk : ∀ b ∈ ((cnN ns (odG ns m)).getD i nd0).kids, ((List.range (odG ns m).length).idxOf b.toNat : Int) = b := fun b hb => by
      rw [cnN_at ns _ hi] at hb
      obtain ⟨c, hc, rfl⟩ := List.mem_map.1 hb
      rw [Int.toNat_natCast, idx_rng]
      refine List.idxOf_lt_length_of_mem (odG_cl hk hm _ (List.getElem_mem hi) _ ?_)
      exact List.mem_map_of_mem hc
    generalize (cnN ns (odG ns m)).getD i nd0 = nd at *
    obtain ⟨k, x, l⟩ := nd
    simp only at hkk ⊢
    congr 1
    conv => rhs; rw [← List.map_id l]
    exact List.map_congr_left fun b hb => hkk b hb
end Go.Proofs.YtahmnpfmccipbaaGreatDoor.Grp
end

section
/- What is reached from a place that is no key's, as a graph, may be. -/
namespace Go.Proofs.YtahmnpfmccipbaaGreatDoor.Grp
open Utf Rws Pln Flw
open Go.RowKit
set_option linter.unusedSimpArgs false
set_option linter.unusedVariables false

theorem al1_iff (ns : List Nd) : ∀ ms : List Nd, al1 ns ms = true ↔ ∀ n ∈ ms, rAl n.kind n.text = true ∧ rKd ns n.kind n.kids = true
  | [] => by simp [al1]
  | m :: t => by rw [al1, Bool.and_eq_true, Bool.and_eq_true, al1_iff ns t]; simp
theorem al2_iff (ns : List Nd) : ∀ ms : List Nd, al2 ns ms = true ↔ ∀ n ∈ ms, dif ((kys n.kind 0 n.kids).map (kp ns)) = true
  | [] => by simp [al2]
  | m :: t => by rw [al2, Bool.and_eq_true, al2_iff ns t]; simp
theorem kNe_iff (T : Nat → Nat) : ∀ ms : List Nd, kNe T ms = true ↔ ∀ n ∈ ms, ∀ a ∈ kys n.kind 0 n.kids, T a.toNat ≤ 1
  | [] => by simp [kNe]
  | m :: t => by rw [kNe, Bool.and_eq_true, kNe_iff T t, List.all_eq_true]; simp
theorem isKy_iff (a : Int) : ∀ ms : List Nd, isKy ms a = true ↔ ∃ n ∈ ms, a ∈ kys n.kind 0 n.kids
  | [] => by simp [isKy]
  | m :: t => by rw [isKy, Bool.or_eq_true, isKy_iff a t, List.contains_iff_mem]; simp
theorem kys_map (k : Int) (f : Int → Int) : ∀ (i : Nat) (l : List Int), kys k i (l.map f) = (kys k i l).map f
  | _, [] => rfl
  | i, a :: t => by
    rw [List.map_cons, kys, kys, kys_map k f (i + 1) t]
    split
    · rw [List.map_cons]
    · rfl
theorem kdOk_iff (ns : List Nd) (k : Int) : ∀ (i : Nat) (l : List Int), kdOk ns k i l = true ↔ (∀ a ∈ l, isP ns.length a = true) ∧ ∀ a ∈ kys k i l, sca (ns.getD a.toNat nd0).kind = true
  | _, [] => by simp [kdOk, kys]
  | i, a :: t => by
    rw [kdOk, Bool.and_eq_true, Bool.and_eq_true, kdOk_iff ns k (i + 1) t, Bool.or_eq_true, Bool.not_eq_true', kys]
    cases hk : kyP k i
    · simp only [true_or, and_true, Bool.false_eq_true, if_false, List.mem_cons, forall_eq_or_imp]
      exact ⟨fun h => ⟨⟨h.1, h.2.1⟩, h.2.2⟩, fun h => ⟨h.1.1, h.1.2, h.2⟩⟩
    · simp only [Bool.true_eq_false, false_or, if_true, List.mem_cons, forall_eq_or_imp]
      exact ⟨fun h => ⟨⟨h.1.1, h.2.1⟩, h.1.2, h.2.2⟩, fun h => ⟨⟨h.1.1, h.2.1⟩, h.1.2, h.2.2⟩⟩
theorem kid_count {ns : List Nd} {n : Nd} {b : Int} (hn : n ∈ ns) (hb : b ∈ n.kids) : 1 ≤ (ns.map (fun n => cnt n.kids b.toNat)).sum := by
  have h1 : 1 ≤ cnt n.kids b.toNat := List.one_le_count_iff.2 (List.mem_map_of_mem hb)
  have h2 : ∀ ms : List Nd, n ∈ ms → cnt n.kids b.toNat ≤ (ms.map (fun n => cnt n.kids b.toNat)).sum := by
    intro ms
    induction ms with
    | nil => intro h; cases h
    | cons q t ih =>
      intro h
      rw [List.map_cons, List.sum_cons]
      rcases List.mem_cons.1 h with rfl | h
      · omega
      · have := ih h; omega
  have := h2 ns hn
  omega
theorem rg_can {ns : List Nd} {r : Int} (h : rgG ⟨ns, r⟩ = true) {m : Nat} (hm : m < ns.length) (hr : r = (m : Int) ∨ isKy ns (m : Int) = false) : rgG ⟨cnN ns (odG ns m), 0⟩ = true := by
  obtain ⟨f1, f2, f3⟩ := rgG_facts h
  unfold rgG at h
  simp only [Bool.and_eq_true, decide_eq_true_eq] at h
  obtain ⟨⟨⟨_, h1⟩, h2⟩, h3⟩ := h
  rw [al1_iff] at h1
  rw [kNe_iff] at h2
  rw [al2_iff] at h3
  obtain ⟨hp, hi0, hmO⟩ := od_pos ns m
  have hnd := odG_nd ns m
  have hlt := odG_lt f3 hm
  have hcl := odG_cl f3 hm
  have hO : (odG ns m).length ≤ ns.length := len_le hnd hlt
  have hkO : ∀ a ∈ odG ns m, ∀ c ∈ (ns.getD a nd0).kids, c.toNat ∈ odG ns m := fun a ha c hc => hcl a ha _ (List.mem_map_of_mem hc)
  have hmem : ∀ n ∈ cnN ns (odG ns m), ∃ a ∈ odG ns m, n = ⟨(ns.getD a nd0).kind, (ns.getD a nd0).text, (ns.getD a nd0).kids.map fun b => ((odG ns m).idxOf b.toNat : Int)⟩ := fun n hn => by
    obtain ⟨a, ha, e⟩ := List.mem_map.1 hn
    exact ⟨a, ha, e.symm⟩
  have hcell : ∀ a ∈ odG ns m, ns.getD a nd0 ∈ ns := fun a ha => mem_getD (hlt a ha)
  have hkp : ∀ b ∈ odG ns m, kp (cnN ns (odG ns m)) ((odG ns m).idxOf b : Int) = ((ns.getD b nd0).kind, (ns.getD b nd0).text) := fun b hb => by
    unfold kp
    rw [Int.toNat_natCast, cnN_of hb]
  unfold rgG
  simp only [Bool.and_eq_true, decide_eq_true_eq, cnN_len]
  refine ⟨⟨⟨⟨by omega, ?_⟩, ?_⟩, ?_⟩, ?_⟩
  · unfold isP
    simp only [Bool.and_eq_true, decide_eq_true_eq]
    omega
  · rw [al1_iff]
    intro n hn
    obtain ⟨a, ha, rfl⟩ := hmem n hn
    have q := h1 _ (hcell a ha)
    refine ⟨q.1, ?_⟩
    have q2 := q.2
    unfold rKd at q2 ⊢
    simp only [List.length_map]
    rw [Bool.and_eq_true] at q2 ⊢
    refine ⟨q2.1, ?_⟩
    rw [kdOk_iff] at q2 ⊢
    refine ⟨fun b hb => ?_, fun b hb => ?_⟩
    · obtain ⟨c, hc, rfl⟩ := List.mem_map.1 hb
      have := List.idxOf_lt_length_of_mem (hkO a ha c hc)
      unfold isP
      simp only [Bool.and_eq_true, decide_eq_true_eq, cnN_len]
      omega
    · rw [kys_map] at hb
      obtain ⟨c, hc, rfl⟩ := List.mem_map.1 hb
      rw [Int.toNat_natCast, cnN_of (hkO a ha c (kys_mem _ _ _ c hc))]
      exact q2.2.2 c hc
  · rw [kNe_iff]
    intro n hn b hb
    obtain ⟨a, ha, rfl⟩ := hmem n hn
    simp only at hb
    rw [kys_map] at hb
    obtain ⟨c, hc, rfl⟩ := List.mem_map.1 hb
    have hck := kys_mem _ _ _ c hc
    have hcO := hkO a ha c hck
    have q := h2 _ (hcell a ha) c hc
    rw [timN_eq] at q ⊢
    rw [Int.toNat_natCast]
    have hkc := kid_count (hcell a ha) hck
    have hne : c.toNat ≠ m := fun e => by
      rcases hr with hr | hr
      · have : bump (fun _ => 0) r.toNat c.toNat = 1 := by rw [hr, Int.toNat_natCast, e]; simp [bump]
        omega
      · have hcm : c = (m : Int) := by
          obtain ⟨p, e2, _⟩ := isP_nat (f3 _ (hcell a ha) c hck)
          omega
        have : isKy ns (m : Int) = true := (isKy_iff _ ns).2 ⟨_, hcell a ha, by rw [← hcm]; exact hc⟩
        rw [hr] at this
        cases this
    have hi : (odG ns m).idxOf c.toNat ≠ 0 := fun e => hne (idx_inj hcO hmO (by rw [e, hi0]))
    have hb0 : bump (fun _ => 0) (0 : Int).toNat ((odG ns m).idxOf c.toNat) = 0 := by
      unfold bump
      rw [if_neg (by simpa using hi)]
    rw [hb0, Nat.zero_add]
    have e1 : ((cnN ns (odG ns m)).map (fun n => cnt n.kids ((odG ns m).idxOf c.toNat))).sum = ((odG ns m).map (fun a => cnt (ns.getD a nd0).kids c.toNat)).sum := by
      unfold cnN
      rw [List.map_map]
      congr 1
      refine List.map_congr_left fun a' ha' => ?_
      show cnt ((ns.getD a' nd0).kids.map _) _ = _
      unfold cnt
      rw [List.map_map]
      have := count_inj (f := fun x => (odG ns m).idxOf x) (b := c.toNat) ((ns.getD a' nd0).kids.map Int.toNat) (fun d hd e => by
        obtain ⟨d', hd', rfl⟩ := List.mem_map.1 hd
        exact idx_inj (hkO a' ha' d' hd') hcO e)
      rw [List.map_map] at this
      rw [← this]
      congr 1
    rw [e1]
    have e2 := sum_le (fun a => cnt (ns.getD a nd0).kids c.toNat) hnd hlt
    rw [← map_range ns (fun n => cnt n.kids c.toNat)] at e2
    omega
  · rw [al2_iff]
    intro n hn
    obtain ⟨a, ha, rfl⟩ := hmem n hn
    simp only
    rw [kys_map, List.map_map]
    have : (kys (ns.getD a nd0).kind 0 (ns.getD a nd0).kids).map (kp (cnN ns (odG ns m)) ∘ fun b => ((odG ns m).idxOf b.toNat : Int)) = (kys (ns.getD a nd0).kind 0 (ns.getD a nd0).kids).map (kp ns) := by
      refine List.map_congr_left fun c hc => ?_
      show kp (cnN ns (odG ns m)) ((odG ns m).idxOf c.toNat : Int) = _
      rw [hkp _ (hkO a ha c (kys_mem _ _ _ c hc))]
      rfl
    rw [this]
    exact h3 _ (hcell a ha)
end Go.Proofs.YtahmnpfmccipbaaGreatDoor.Grp
end

section
/- A part of a part, as plain facts. -/
namespace Go.Proofs.YtahmnpfmccipbaaGreatDoor.Grp
open Utf Rws Pln Flw
open Go.RowKit
set_option linter.unusedSimpArgs false
set_option linter.unusedVariables false
set_option maxRecDepth 100000

theorem can_walk_at {ns : List Nd} (hk : ∀ n ∈ ns, ∀ a ∈ n.kids, isP ns.length a = true) {m : Nat} (hm : m < ns.length) {a : Nat} (ha : a ∈ odG ns m) : wk (kd (cnN ns (odG ns m))) (ful (kd (cnN ns (odG ns m))) (cnN ns (odG ns m)).length) [((odG ns m).idxOf a, 1)] [] 0 = ((odG ns a).map (fun b => (odG ns m).idxOf b), dpG ns a) := by
  have hg := kd_lt hk rfl
  have hcl := can_lt hg hm (mea_ful (kd ns) ns.length (m, 1) [])
  have hp : (odG ns m).idxOf a < (odG ns m).length := List.idxOf_lt_length_of_mem ha
  have hw : ∀ n, wk (kd (cnN ns (odG ns m))) n [((odG ns m).idxOf a, 1)] [] 0 = wk (can (kd ns) (odG ns m)) n [((odG ns m).idxOf a, 1)] [] 0 := fun n =>
    wk_same (S := fun a => a < (odG ns m).length) (fun a ha b hb => hcl a ha b hb) (fun a ha => kd_can ha) n [((odG ns m).idxOf a, 1)] 0 (by simpa using hp)
  have hlt : ∀ a, a < (odG ns m).length → ∀ b ∈ kd (cnN ns (odG ns m)) a, b < (odG ns m).length := fun a ha b hb => by rw [kd_can ha] at hb; exact hcl a ha b hb
  have h1 := can_sub hg hm (mea_ful (kd ns) ns.length (m, 1) []) ha (ful (kd ns) ns.length)
  have hsum := sum_le (fun a => (kd ns a).length) (odG_nd ns m) (odG_lt hk hm)
  have hS : ((List.range (odG ns m).length).map (fun a => (kd (cnN ns (odG ns m)) a).length)).sum = ((odG ns m).map (fun a => (kd ns a).length)).sum := by
    congr 1
    apply List.ext_getElem
    · simp
    · intro i h2 h3
      have hi : i < (odG ns m).length := by simpa using h2
      simp only [List.getElem_map, List.getElem_range]
      rw [kd_can hi, can, List.length_map, List.getD_eq_getElem?_getD, List.getElem?_eq_getElem hi, Option.getD_some]
  have hf : mea (kd (cnN ns (odG ns m))) (odG ns m).length [((odG ns m).idxOf a, 1)] [] < ful (kd ns) ns.length := by
    rw [mea_one, hS]
    unfold ful
    omega
  rw [cnN_len, wk_fuel hlt (n' := ful (kd ns) ns.length) (by simpa using hp) (mea_ful _ _ _ _) hf, hw]
  exact Prod.ext h1.1 h1.2
theorem od_sub {ns : List Nd} (hk : ∀ n ∈ ns, ∀ a ∈ n.kids, isP ns.length a = true) {m : Nat} (hm : m < ns.length) {a : Nat} (ha : a ∈ odG ns m) : odG (cnN ns (odG ns m)) ((odG ns m).idxOf a) = (odG ns a).map (fun b => (odG ns m).idxOf b) := by
  show (wk _ _ _ _ _).1 = _
  rw [can_walk_at hk hm ha]
theorem od_in {ns : List Nd} (hk : ∀ n ∈ ns, ∀ a ∈ n.kids, isP ns.length a = true) {m : Nat} (hm : m < ns.length) {a : Nat} (ha : a ∈ odG ns m) : ∀ b ∈ odG ns a, b ∈ odG ns m :=
  wk_in (S := fun b => b ∈ odG ns m) (odG_cl hk hm) _ _ _ _ (by simpa using ha) (by simp)
theorem cn_sub {ns : List Nd} (hk : ∀ n ∈ ns, ∀ a ∈ n.kids, isP ns.length a = true) {m : Nat} (hm : m < ns.length) {a : Nat} (ha : a ∈ odG ns m) : cnN (cnN ns (odG ns m)) (odG (cnN ns (odG ns m)) ((odG ns m).idxOf a)) = cnN ns (odG ns a) := by
  rw [od_sub hk hm ha]
  have hin := od_in hk hm ha
  show List.map _ (List.map _ _) = List.map _ _
  rw [List.map_map]
  refine List.map_congr_left fun b hb => ?_
  have hbO := hin b hb
  show Nd.mk _ _ _ = Nd.mk _ _ _
  simp only
  rw [cnN_of hbO]
  simp only [List.map_map]
  congr 1
  refine List.map_congr_left fun c hc => ?_
  show ((List.idxOf _ _ : Nat) : Int) = _
  rw [Int.toNat_natCast, idx_map hin (odG_cl hk hm b hbO _ (List.mem_map_of_mem hc))]
/-- all but the first one are a Kid of one of them -/
theorem od_kid {ns : List Nd} (hk : ∀ n ∈ ns, ∀ a ∈ n.kids, isP ns.length a = true) {m : Nat} (hm : m < ns.length) : ∀ b ∈ odG ns m, b = m ∨ ∃ a ∈ odG ns m, b ∈ kd ns a := by
  have hmO := (od_pos ns m).2.2
  have := wk_in (g := kd ns) (S := fun b => b ∈ odG ns m ∧ (b = m ∨ ∃ a ∈ odG ns m, b ∈ kd ns a)) (fun a ha b hb => ⟨odG_cl hk hm a ha.1 b hb, .inr ⟨a, ha.1, hb⟩⟩) (ful (kd ns) ns.length) [(m, 1)] [] 0 (fun p hp => by rw [List.mem_singleton.1 hp]; exact ⟨hmO, .inl rfl⟩) (by simp)
  exact fun b hb => (this b hb).2
/-- a key of the Canon is a key -/
theorem ky_can {ns : List Nd} {r : Int} (h : rgG ⟨ns, r⟩ = true) {m : Nat} (hm : m < ns.length) (hr : isKy ns (m : Int) = false) {a : Nat} (ha : a ∈ odG ns m) : isKy (cnN ns (odG ns m)) ((odG ns m).idxOf a : Int) = isKy ns (a : Int) := by
  obtain ⟨f1, f2, f3⟩ := rgG_facts h
  unfold rgG at h
  simp only [Bool.and_eq_true, decide_eq_true_eq] at h
  obtain ⟨⟨_, h2⟩, _⟩ := h
  rw [kNe_iff] at h2
  have hlt := odG_lt f3 hm
  have hcl := odG_cl f3 hm
  have hcell : ∀ a ∈ odG ns m, ns.getD a nd0 ∈ ns := fun a ha => mem_getD (hlt a ha)
  rw [Bool.eq_iff_iff, isKy_iff, isKy_iff]
  constructor
  · rintro ⟨n, hn, hk⟩
    obtain ⟨a', ha', rfl⟩ := List.mem_map.1 hn
    simp only at hk
    rw [kys_map] at hk
    obtain ⟨c, hc, e⟩ := List.mem_map.1 hk
    have hcO : c.toNat ∈ odG ns m := hcl a' ha' _ (List.mem_map_of_mem (kys_mem _ _ _ c hc))
    have e2 : c.toNat = a := idx_inj hcO ha (by omega)
    obtain ⟨p, e3, _⟩ := isP_nat (f3 _ (hcell a' ha') c (kys_mem _ _ _ c hc))
    exact ⟨_, hcell a' ha', by rw [show (a : Int) = c by omega]; exact hc⟩
  · rintro ⟨n, hn, hk⟩
    have hne : a ≠ m := fun e => by
      have : isKy ns (m : Int) = true := (isKy_iff _ ns).2 ⟨n, hn, by rw [← e]; exact hk⟩
      rw [hr] at this
      cases this
    obtain ⟨a', ha', hb⟩ : ∃ a' ∈ odG ns m, a ∈ kd ns a' := by
      rcases od_kid f3 hm a ha with e | e
      · exact absurd e hne
      · exact e
    have q := h2 n hn _ hk
    rw [timN_eq, map_range] at q
    obtain ⟨p, hp, e⟩ := List.getElem_of_mem hn
    have e2 : ns.getD p nd0 = n := by rw [List.getD_eq_getElem?_getD, List.getElem?_eq_getElem hp]; exact e
    have hpa : p = a' := by
      refine Classical.byContradiction fun hpn => ?_
      have s1 := sum_le (fun x => cnt (ns.getD x nd0).kids ((a : Int).toNat)) (O := [p, a']) (len := ns.length) (by simp [hpn]) (fun x hx => by
        rcases List.mem_cons.1 hx with rfl | hx
        · exact hp
        · rw [List.mem_singleton.1 hx]; exact hlt a' ha')
      have c1 : 1 ≤ cnt (ns.getD p nd0).kids ((a : Int).toNat) := by
        rw [e2]
        exact List.one_le_count_iff.2 (List.mem_map_of_mem (kys_mem _ _ _ _ hk))
      have c2 : 1 ≤ cnt (ns.getD a' nd0).kids ((a : Int).toNat) := List.one_le_count_iff.2 hb
      simp only [List.map_cons, List.map_nil, List.sum_cons, List.sum_nil] at s1
      omega
    subst hpa
    refine ⟨_, List.mem_map_of_mem ha', ?_⟩
    simp only
    rw [kys_map, e2]
    exact List.mem_map.2 ⟨_, hk, by rw [Int.toNat_natCast]⟩
/-- any place that is no key may be a root -/
theorem rg_root {ns : List Nd} {r : Int} (h : rgG ⟨ns, r⟩ = true) {m : Nat} (hm : m < ns.length) (hr : isKy ns (m : Int) = false) : rgG ⟨ns, (m : Int)⟩ = true := by
  obtain ⟨f1, f2, f3⟩ := rgG_facts h
  unfold rgG at h ⊢
  simp only [Bool.and_eq_true, decide_eq_true_eq] at h ⊢
  obtain ⟨⟨⟨h0, h1⟩, h2⟩, h3⟩ := h
  refine ⟨⟨⟨⟨h0.1, ?_⟩, h1⟩, ?_⟩, h3⟩
  · unfold isP
    simp only [Bool.and_eq_true, decide_eq_true_eq]
    omega
  · rw [kNe_iff] at h2 ⊢
    intro n hn a hk
    have q := h2 n hn a hk
    rw [timN_eq] at q ⊢
    have hne : a.toNat ≠ m := fun e => by
      obtain ⟨p, e2, _⟩ := isP_nat (f3 n hn a (kys_mem _ _ _ a hk))
      have : isKy ns (m : Int) = true := (isKy_iff _ ns).2 ⟨n, hn, by rw [show (m : Int) = a by omega]; exact hk⟩
      rw [hr] at this
      cases this
    have hb0 : bump (fun _ => 0) (m : Int).toNat a.toNat = 0 := by
      unfold bump
      rw [if_neg (by rw [Int.toNat_natCast]; exact hne)]
    omega
end Go.Proofs.YtahmnpfmccipbaaGreatDoor.Grp
end
