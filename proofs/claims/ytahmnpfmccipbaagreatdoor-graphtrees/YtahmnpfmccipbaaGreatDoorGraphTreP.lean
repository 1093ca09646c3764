/- Without Aliases a graph is its tree: plain facts. -/
import Derived.Test.YtahmnpfmccipbaaGreatDoorGraphBare
namespace Go.Proofs.YtahmnpfmccipbaaGreatDoor.Grp
open Utf Rws Pln Flw
open Go.RowKit
set_option linter.unusedSimpArgs false
set_option linter.unusedVariables false
set_option maxRecDepth 100000
set_option maxHeartbeats 4000000

/-- at a place, and below it, stands a tree -/
def unf : Nat → Nat → List Nd → Nat → Tr → Prop
  | 0, _, _, _, _ => False
  | d + 1, lo, ns, a, t => lo ≤ a ∧ ∃ qs : List Nat, ns[a]? = some ⟨t.kind, t.text, qs.map fun b : Nat => (b : Int)⟩ ∧ qs.length = t.kids.length ∧ ∀ i, i < t.kids.length → unf d lo ns (qs.getD i 0) (t.kids.getD i tr0)
theorem unf_keep {lo lo' : Nat} {ns ns' : List Nd} (hl : lo' ≤ lo) (hk : ∀ i, lo ≤ i → i < ns.length → ns'[i]? = ns[i]?) : ∀ {d a : Nat} {t : Tr}, unf d lo ns a t → unf d lo' ns' a t
  | 0, a, t, h => h
  | d + 1, a, t, h => by
    obtain ⟨h0, qs, h1, h2, h3⟩ := h
    exact ⟨Nat.le_trans hl h0, qs, by rw [hk a h0 (List.getElem?_eq_some_iff.1 h1).1]; exact h1, h2, fun i hi => unf_keep hl hk (h3 i hi)⟩
theorem pls_unf {f : Tr → Cs → Nat × Nat × Cs} {d : Nat} {pr : Tr → Prop} (hm : ∀ t s, s.ns.length ≤ (f t s).2.2.ns.length) (hkp : ∀ t s i, i < s.ns.length → (f t s).2.2.ns[i]? = s.ns[i]?)
    (hf : ∀ t s, pr t → (f t s).2.1 = 0 → unf d s.ns.length (f t s).2.2.ns (f t s).1 t) (k : Int) :
    ∀ (ts : List Tr) (i : Nat) (ks : List (Int × Ln)) (ps : List Nat) (s : Cs), (∀ t ∈ ts, pr t) → (pls f k i ts ks ps s).2.1 = 0 →
      ∃ qs, (pls f k i ts ks ps s).1 = ps ++ qs ∧ qs.length = ts.length ∧ ∀ j, j < ts.length → unf d s.ns.length (pls f k i ts ks ps s).2.2.ns (qs.getD j 0) (ts.getD j tr0)
  | [], i, ks, ps, s, _, he => ⟨[], by simp [pls], rfl, fun j hj => absurd hj (by simp)⟩
  | t :: ts, i, ks, ps, s, hp, he => by
    rw [pls] at he ⊢
    by_cases hmm : kyP k i = true ∧ (t.kind, t.text) ∈ ks
    · rw [if_pos hmm] at he; exact absurd he (by simp)
    · rw [if_neg hmm] at he ⊢
      by_cases h0 : (f t s).2.1 = 0
      · rw [if_pos h0] at he ⊢
        have h1 := hf t s (hp t (by simp)) h0
        have hms := hm t s
        obtain ⟨qs, e1, e2, e3⟩ := pls_unf hm hkp hf k ts (i + 1) _ _ _ (fun u hu => hp u (by simp [hu])) he
        refine ⟨(f t s).1 :: qs, by rw [e1, List.append_assoc]; rfl, by simp [e2], fun j hj => ?_⟩
        cases j with
        | zero =>
          show unf d s.ns.length _ (f t s).1 t
          refine unf_keep (Nat.le_refl _) (fun i' h2 h3 => ?_) h1
          exact pls_keep hm hkp k ts _ _ _ _ i' h3
        | succ j =>
          have := e3 j (by simpa using hj)
          exact unf_keep hms (fun _ _ _ => rfl) this
      · rw [if_neg h0] at he; exact absurd he h0
theorem bri_kid {B d : Nat} {t : Tr} (h : bri B (d + 1) t) : ∀ u ∈ t.kids, bri B d u := fun u hu => by
  obtain ⟨i, hi, rfl⟩ := List.getElem_of_mem hu
  have := h.2.2 i hi
  rw [List.getD_eq_getElem?_getD, List.getElem?_eq_getElem hi] at this
  exact this
theorem plc_unf : ∀ (d : Nat) (t : Tr) (s : Cs), bri 2147483648 d t → plB d t = true → (plc d t s).2.1 = 0 → unf d s.ns.length (plc d t s).2.2.ns (plc d t s).1 t
  | 0, t, s, hb, _, _ => hb.elim
  | d + 1, t, s, hb, hp, he => by
    rw [plB, Bool.and_eq_true] at hp
    have h7 : t.kind ≠ 7 := of_decide_eq_true hp.2
    rw [plc, if_neg h7] at he ⊢
    have l0 : (put1 t s).ns.length = s.ns.length + 1 := by simp [put1]
    obtain ⟨qs, e1, e2, e3⟩ := pls_unf (d := d) (pr := fun u => bri 2147483648 d u ∧ plB d u = true) (plc_mono d) (plc_keep d) (fun u s' hu he' => plc_unf d u s' hu.1 hu.2 he') t.kind t.kids 0 [] [] (put1 t s) (fun u hu => ⟨bri_kid hb u hu, List.all_eq_true.1 hp.1 u hu⟩) he
    rw [List.nil_append] at e1
    have hmo := pls_mono (plc_mono d) t.kind t.kids 0 [] [] (put1 t s)
    rw [l0] at hmo e3
    unfold setK
    rw [e1]
    refine ⟨Nat.le_refl _, qs, ?_, e2, fun i hi => ?_⟩
    · simp only
      rw [List.getElem?_set_self (by omega)]
    · refine unf_keep (Nat.le_succ _) (fun j h1 h2 => ?_) (e3 i hi)
      simp only
      rw [List.getElem?_set_ne (by omega)]
theorem pls_err {f : Tr → Cs → Nat × Nat × Cs} {pr : Tr → Prop} (hf : ∀ t s, pr t → (f t s).2.1 = 0 ∨ (f t s).2.1 = 7) (k : Int) :
    ∀ (ts : List Tr) (i : Nat) (ks : List (Int × Ln)) (ps : List Nat) (s : Cs), (∀ t ∈ ts, pr t) → (pls f k i ts ks ps s).2.1 = 0 ∨ (pls f k i ts ks ps s).2.1 = 7
  | [], i, ks, ps, s, _ => .inl rfl
  | t :: ts, i, ks, ps, s, hp => by
    rw [pls]
    split
    · exact .inr rfl
    · split
      · exact pls_err hf k ts _ _ _ _ (fun u hu => hp u (by simp [hu]))
      · exact hf t s (hp t (by simp))
theorem plc_err : ∀ (d : Nat) (t : Tr) (s : Cs), plB d t = true → (plc d t s).2.1 = 0 ∨ (plc d t s).2.1 = 7
  | 0, t, s, _ => .inl rfl
  | d + 1, t, s, hp => by
    rw [plB, Bool.and_eq_true] at hp
    rw [plc, if_neg (of_decide_eq_true hp.2)]
    exact pls_err (pr := fun u => plB d u = true) (fun u s' hu => plc_err d u s' hu) t.kind t.kids 0 [] [] (put1 t s) (fun u hu => List.all_eq_true.1 hp.1 u hu)
/-- how many values the first Kids have -/
def szs (d : Nat) (ks : List Tr) (j : Nat) : Nat := ((ks.take j).map (tsz d)).sum
theorem szs_succ (d : Nat) (ks : List Tr) (j : Nat) (h : j < ks.length) : szs d ks (j + 1) = szs d ks j + tsz d (ks.getD j tr0) := by
  unfold szs
  rw [List.take_succ_eq_append_getElem h, List.map_append, List.sum_append, List.getD_eq_getElem?_getD, List.getElem?_eq_getElem h]
  simp
theorem szs_all (d : Nat) (ks : List Tr) : szs d ks ks.length = (ks.map (tsz d)).sum := by unfold szs; rw [List.take_length]
theorem szs_le (d : Nat) (ks : List Tr) (j : Nat) : szs d ks j ≤ szs d ks ks.length := by
  unfold szs
  conv => rhs; rw [List.take_length, ← List.take_append_drop j ks, List.map_append, List.sum_append]
  omega
end Go.Proofs.YtahmnpfmccipbaaGreatDoor.Grp
