/- The walk from several places, one behind the other. -/
import Derived.Test.YtkggdjghjdakoaaGreatDoorGraphPlain
namespace Go.Proofs.YtkggdjghjdakoaaGreatDoor.Grp
set_option linter.unusedSimpArgs false
set_option linter.unusedVariables false
/-- more places that came: less is left -/
theorem mea_out (g : Nat → List Nat) (N : Nat) (t : List (Nat × Nat)) (out r : List Nat) : mea g N t (out ++ r) ≤ mea g N t out := by
  have key : ∀ l : List Nat, ((l.filter (fun a => decide (a ∉ out ++ r))).map (fun a => (g a).length)).sum ≤ ((l.filter (fun a => decide (a ∉ out))).map (fun a => (g a).length)).sum := by
    intro l
    induction l with
    | nil => simp
    | cons a l ih =>
      rw [List.filter_cons, List.filter_cons]
      by_cases h : a ∈ out
      · rw [if_neg (by simp [h]), if_neg (by simp [h])]; exact ih
      · rw [if_pos (c := (decide (a ∉ out)) = true) (by simp [h])]
        split
        · rw [List.map_cons, List.map_cons, List.sum_cons, List.sum_cons]; omega
        · rw [List.map_cons, List.sum_cons]; omega
  unfold mea
  have := key (List.range N)
  omega
theorem mea_app (g : Nat → List Nat) (N : Nat) (t u : List (Nat × Nat)) (out : List Nat) : mea g N (t ++ u) out = t.length + mea g N u out := by
  unfold mea
  rw [List.length_append]
  omega
/-- what stands behind is gone to behind -/
theorem wk_app {g : Nat → List Nat} {N : Nat} (hg : ∀ a, a < N → ∀ b ∈ g a, b < N) : ∀ (n : Nat) (t u : List (Nat × Nat)) (out : List Nat) (m : Nat), (∀ p ∈ t, p.1 < N) → (∀ p ∈ u, p.1 < N) → mea g N (t ++ u) out < n →
    wk g n (t ++ u) out m = wk g n u (wk g n t out m).1 (wk g n t out m).2
  | 0, _, _, _, _, _, _, h => absurd h (Nat.not_lt_zero _)
  | n + 1, [], u, out, m, _, _, _ => rfl
  | n + 1, (a, d) :: t, u, out, m, ht, hu, h => by
    have ha : a < N := ht (a, d) (by simp)
    have ht' : ∀ p ∈ t, p.1 < N := fun p hp => ht p (by simp [hp])
    rw [List.cons_append]
    by_cases hm : a ∈ out
    · have hl : mea g N (t ++ u) out < n := by unfold mea at h ⊢; rw [List.cons_append, List.length_cons] at h; omega
      have e1 : wk g (n + 1) ((a, d) :: (t ++ u)) out m = wk g n (t ++ u) out m := by rw [wk, if_pos hm]
      have e2 : wk g (n + 1) ((a, d) :: t) out m = wk g n t out m := by rw [wk, if_pos hm]
      rw [e1, e2, wk_app hg n t u out m ht' hu hl]
      obtain ⟨r, hr⟩ := wk_front (g := g) n t out m
      refine wk_fuel hg hu ?_ ?_
      · have h1 := mea_app g N t u out
        have h2 := mea_out g N u out r
        rw [hr]
        omega
      · have h1 := mea_app g N t u out
        have h2 := mea_out g N u out r
        rw [hr]
        omega
    · have hs := mea_step g N a d (t ++ u) out hm ha
      have hl : mea g N ((g a).map (fun b => (b, d + 1)) ++ (t ++ u)) (out ++ [a]) < n := by
        rw [List.cons_append] at h; omega
      have ht2 : ∀ p ∈ (g a).map (fun b => (b, d + 1)) ++ t, p.1 < N := fun p hp => by
        rcases List.mem_append.1 hp with hp | hp
        · obtain ⟨b, hb, rfl⟩ := List.mem_map.1 hp
          exact hg a ha b hb
        · exact ht' p hp
      have e1 : wk g (n + 1) ((a, d) :: (t ++ u)) out m = wk g n ((g a).map (fun b => (b, d + 1)) ++ (t ++ u)) (out ++ [a]) (max m d) := by rw [wk, if_neg hm]
      have e2 : wk g (n + 1) ((a, d) :: t) out m = wk g n ((g a).map (fun b => (b, d + 1)) ++ t) (out ++ [a]) (max m d) := by rw [wk, if_neg hm]
      rw [e1, e2, ← List.append_assoc, wk_app hg n _ u (out ++ [a]) (max m d) ht2 hu (by rw [List.append_assoc]; exact hl)]
      obtain ⟨r, hr⟩ := wk_front (g := g) n ((g a).map (fun b => (b, d + 1)) ++ t) (out ++ [a]) (max m d)
      refine wk_fuel hg hu ?_ ?_
      · have h1 := mea_app g N ((g a).map (fun b => (b, d + 1)) ++ t) u (out ++ [a])
        have h2 := mea_out g N u (out ++ [a]) r
        rw [hr]
        rw [← List.append_assoc] at hl
        omega
      · have h1 := mea_app g N ((g a).map (fun b => (b, d + 1)) ++ t) u (out ++ [a])
        have h2 := mea_out g N u (out ++ [a]) r
        rw [hr]
        rw [← List.append_assoc] at hl
        omega
/-- the fuel that is enough for every walk of a graph from places below N -/
def ful (g : Nat → List Nat) (N : Nat) : Nat := ((List.range N).map (fun a => (g a).length)).sum + 2
theorem mea_ful (g : Nat → List Nat) (N : Nat) (p : Nat × Nat) (out : List Nat) : mea g N [p] out < ful g N := by
  have h := mea_out g N [p] [] out
  rw [List.nil_append] at h
  have h2 := mea_one g N p.1
  have h3 : mea g N [(p.1, 1)] [] = mea g N [p] [] := rfl
  unfold ful
  omega
/-- a place that came turns nothing -/
theorem wk_old {g : Nat → List Nat} {n a d m : Nat} {out : List Nat} (hn : 0 < n) (h : a ∈ out) : wk g n [(a, d)] out m = (out, m) := by
  obtain ⟨k, rfl⟩ : ∃ k, n = k + 1 := ⟨n - 1, by omega⟩
  rw [wk, if_pos h]
  cases k <;> rfl
/-- the Kids, one behind the other -/
def wks (g : Nat → List Nat) (n : Nat) : List Nat → Nat → List Nat × Nat → List Nat × Nat
  | [], _, s => s
  | b :: t, d, s => wks g n t d (wk g n [(b, d)] s.1 s.2)
theorem wks_nil (g : Nat → List Nat) (n d : Nat) (s : List Nat × Nat) : wks g n [] d s = s := rfl
theorem wks_snoc (g : Nat → List Nat) (n d : Nat) : ∀ (l : List Nat) (b : Nat) (s : List Nat × Nat), wks g n (l ++ [b]) d s = wk g n [(b, d)] (wks g n l d s).1 (wks g n l d s).2
  | [], b, s => rfl
  | c :: l, b, s => by rw [List.cons_append, wks, wks_snoc g n d l b, wks]
theorem wks_wk {g : Nat → List Nat} {N : Nat} (hg : ∀ a, a < N → ∀ b ∈ g a, b < N) {n d : Nat} : ∀ (l : List Nat) (out : List Nat) (m : Nat), (∀ b ∈ l, b < N) → mea g N (l.map (fun b => (b, d))) out < n →
    wk g n (l.map (fun b => (b, d))) out m = wks g n l d (out, m)
  | [], out, m, _, h => by
    obtain ⟨k, rfl⟩ : ∃ k, n = k + 1 := ⟨n - 1, by omega⟩
    rfl
  | b :: l, out, m, hl, h => by
    rw [List.map_cons] at h ⊢
    have hb : ∀ p ∈ [(b, d)], p.1 < N := by simpa using hl b (by simp)
    have hu : ∀ p ∈ l.map (fun b => (b, d)), p.1 < N := fun p hp => by
      obtain ⟨c, hc, rfl⟩ := List.mem_map.1 hp
      exact hl c (by simp [hc])
    have e := wk_app hg n [(b, d)] (l.map (fun b => (b, d))) out m hb hu h
    rw [List.singleton_append] at e
    rw [e, wks]
    obtain ⟨r, hr⟩ := wk_front (g := g) n [(b, d)] out m
    have h1 := mea_app g N [(b, d)] (l.map (fun b => (b, d))) out
    have h2 := mea_out g N (l.map (fun b => (b, d))) out r
    rw [List.singleton_append] at h1
    exact wks_wk hg l _ _ (fun c hc => hl c (by simp [hc])) (by rw [hr]; simp only [List.length_singleton] at h1; omega)
/-- one that has not come: it comes, then its Kids -/
theorem wk_new {g : Nat → List Nat} {N : Nat} (hg : ∀ a, a < N → ∀ b ∈ g a, b < N) {n a d m : Nat} {out : List Nat} (ha : a < N) (h : a ∉ out) (hn : mea g N [(a, d)] out < n) :
    wk g n [(a, d)] out m = wks g n (g a) (d + 1) (out ++ [a], max m d) := by
  have hs := mea_step g N a d [] out h ha
  rw [List.append_nil] at hs
  obtain ⟨k, rfl⟩ : ∃ k, n = k + 1 := ⟨n - 1, by omega⟩
  rw [wk, if_neg h, List.append_nil, ← wks_wk hg (g a) (out ++ [a]) (max m d) (hg a ha) (by omega)]
  refine wk_fuel hg (fun p hp => ?_) (by omega) (by omega)
  obtain ⟨c, hc, rfl⟩ := List.mem_map.1 hp
  exact hg a ha c hc
theorem wks_front {g : Nat → List Nat} (n d : Nat) : ∀ (l : List Nat) (s : List Nat × Nat), ∃ r, (wks g n l d s).1 = s.1 ++ r
  | [], s => ⟨[], by rw [wks, List.append_nil]⟩
  | b :: l, s => by
    obtain ⟨r, e⟩ := wk_front (g := g) n [(b, d)] s.1 s.2
    obtain ⟨q, f⟩ := wks_front (g := g) n d l (wk g n [(b, d)] s.1 s.2)
    exact ⟨r ++ q, by rw [wks, f, e, List.append_assoc]⟩
end Go.Proofs.YtkggdjghjdakoaaGreatDoor.Grp
