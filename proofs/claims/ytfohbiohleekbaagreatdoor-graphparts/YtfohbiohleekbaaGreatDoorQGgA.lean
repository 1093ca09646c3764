/- Several texts as one: GraphPlain, GraphPlain2. -/
section
/- . -/
namespace Go.Proofs.YtfohbiohleekbaaGreatDoor.Grp
set_option linter.unusedSimpArgs false
set_option linter.unusedVariables false
def wk (g : Nat → List Nat) : Nat → List (Nat × Nat) → List Nat → Nat → List Nat × Nat
 | 0, _, out, m => (out, m)
 | _ + 1, [], out, m => (out, m)
 | n + 1, (a, d) :: t, out, m => if a ∈ out then wk g n t out m else wk g n ((g a).map (fun b => (b, d + 1)) ++ t) (out ++ [a]) (max m d)
theorem wk_in {g : Nat → List Nat} {S : Nat → Prop} (hc : ∀ a, S a → ∀ b ∈ g a, S b) : ∀ (n : Nat) (todo : List (Nat × Nat)) (out : List Nat) (m : Nat), (∀ p ∈ todo, S p.1) → (∀ a ∈ out, S a) → ∀ a ∈ (wk g n todo out m).1, S a
 | 0, _, _, _, _, ho => ho
 | n + 1, [], _, _, _, ho => ho
 | n + 1, (a, d) :: t, out, m, ht, ho => by
  have ha : S a := ht (a, d) (by simp)
  have ht' : ∀ p ∈ t, S p.1 := fun p hp => ht p (by simp [hp])
  rw [wk]
  by_cases h : a ∈ out
  ·rw [if_pos h]; exact wk_in hc n t out m ht' ho
  ·rw [if_neg h]
   refine wk_in hc n _ _ _ (fun p hp => ?_) (fun b hb => ?_)
   ·rcases List.mem_append.1 hp with hp | hp
    ·obtain ⟨b, hb, rfl⟩ := List.mem_map.1 hp
     exact hc a ha b hb
    ·exact ht' p hp
   ·rcases List.mem_append.1 hb with hb | hb
    ·exact ho b hb
    ·rw [List.mem_singleton.1 hb]; exact ha
theorem wk_once {g : Nat → List Nat} : ∀ (n : Nat) (todo : List (Nat × Nat)) (out : List Nat) (m : Nat), out.Nodup → (wk g n todo out m).1.Nodup
 | 0, _, _, _, h => h
 | n + 1, [], _, _, h => h
 | n + 1, (a, d) :: t, out, m, hn => by
  rw [wk]
  by_cases h : a ∈ out
  ·rw [if_pos h]; exact wk_once n t out m hn
  ·rw [if_neg h]
   refine wk_once n _ _ _ ?_
   rw [List.nodup_append]
   exact ⟨hn, by simp, fun x hx y hy => by rw [List.mem_singleton.1 hy]; rintro rfl; exact h hx⟩
def mea (g : Nat → List Nat) (N : Nat) (todo : List (Nat × Nat)) (out : List Nat) : Nat := todo.length + (((List.range N).filter (fun a => decide (a ∉ out))).map (fun a => (g a).length)).sum
theorem filter_less (g : Nat → List Nat) (out : List Nat) (a : Nat) (h : a ∉ out) : ∀ (l : List Nat), l.Nodup → a ∈ l →
  ((l.filter (fun b => decide (b ∉ out ++ [a]))).map (fun b => (g b).length)).sum + (g a).length = ((l.filter (fun b => decide (b ∉ out))).map (fun b => (g b).length)).sum
 | [], _, hm => absurd hm (by simp)
 | b :: t, hn, hm => by
  have hn' := List.nodup_cons.1 hn
  by_cases e : b = a
  ·subst e
   have e1 : t.filter (fun c => decide (c ∉ out ++ [b])) = t.filter (fun c => decide (c ∉ out)) := by
    apply List.filter_congr
    intro c hc
    have : c ≠ b := fun q => hn'.1 (q ▸ hc)
    simp [this]
   rw [List.filter_cons, List.filter_cons, if_neg (by simp), if_pos (by simpa using h), e1, List.map_cons, List.sum_cons]
   omega
  ·have hm' : a ∈ t := by
    rcases List.mem_cons.1 hm with q | q
    ·exact absurd q.symm e
    ·exact q
   have ih := filter_less g out a h t hn'.2 hm'
   rw [List.filter_cons, List.filter_cons]
   by_cases hb : b ∈ out
   ·rw [if_neg (by simp [hb]), if_neg (by simp [hb])]
    exact ih
   ·rw [if_pos (by simp [hb, e]), if_pos (by simp [hb]), List.map_cons, List.map_cons, List.sum_cons, List.sum_cons]
    omega
theorem mea_step (g : Nat → List Nat) (N : Nat) (a d : Nat) (t : List (Nat × Nat)) (out : List Nat) (h : a ∉ out) (ha : a < N) : mea g N ((g a).map (fun b => (b, d + 1)) ++ t) (out ++ [a]) + 1 = mea g N ((a, d) :: t) out := by
 have h1 := filter_less g out a h (List.range N) List.nodup_range (List.mem_range.2 ha)
 unfold mea
 rw [List.length_append, List.length_map, List.length_cons]
 omega
theorem wk_done {g : Nat → List Nat} {N : Nat} (hg : ∀ a, a < N → ∀ b ∈ g a, b < N) : ∀ (n : Nat) (todo : List (Nat × Nat)) (out : List Nat) (m : Nat), (∀ p ∈ todo, p.1 < N) → mea g N todo out < n →
  (∀ k, wk g (n + k) todo out m = wk g n todo out m) ∧ (∀ p ∈ todo, p.1 ∈ (wk g n todo out m).1) ∧ (∀ a ∈ out, a ∈ (wk g n todo out m).1) ∧ (∀ a ∈ (wk g n todo out m).1, a ∉ out → ∀ b ∈ g a, b ∈ (wk g n todo out m).1)
 | 0, _, _, _, _, h => absurd h (Nat.not_lt_zero _)
 | n + 1, [], out, m, _, _ => by
  refine ⟨fun k => ?_, fun p hp => absurd hp (by simp), fun a ha => ha, fun a ha hn => absurd ha hn⟩
  rw [show n + 1 + k = (n + k) + 1 by omega]
  rfl
 | n + 1, (a, d) :: t, out, m, ht, h => by
  have ha : a < N := ht (a, d) (by simp)
  have ht' : ∀ p ∈ t, p.1 < N := fun p hp => ht p (by simp [hp])
  by_cases hm : a ∈ out
  ·have hl : mea g N t out < n := by unfold mea at h ⊢; rw [List.length_cons] at h; omega
   obtain ⟨i1, i2, i3, i4⟩ := wk_done hg n t out m ht' hl
   have e : wk g (n + 1) ((a, d) :: t) out m = wk g n t out m := by rw [wk, if_pos hm]
   rw [e]
   refine ⟨fun k => ?_, fun p hp => ?_, i3, i4⟩
   ·rw [show n + 1 + k = (n + k) + 1 by omega, wk, if_pos hm]
    exact i1 k
   ·rcases List.mem_cons.1 hp with rfl | hp
    ·exact i3 _ hm
    ·exact i2 p hp
  ·have hl : mea g N ((g a).map (fun b => (b, d + 1)) ++ t) (out ++ [a]) < n := by
    have := mea_step g N a d t out hm ha
    omega
   have ht2 : ∀ p ∈ (g a).map (fun b => (b, d + 1)) ++ t, p.1 < N := fun p hp => by
    rcases List.mem_append.1 hp with hp | hp
    ·obtain ⟨b, hb, rfl⟩ := List.mem_map.1 hp
     exact hg a ha b hb
    ·exact ht' p hp
   obtain ⟨i1, i2, i3, i4⟩ := wk_done hg n _ (out ++ [a]) (max m d) ht2 hl
   have e : wk g (n + 1) ((a, d) :: t) out m = wk g n ((g a).map (fun b => (b, d + 1)) ++ t) (out ++ [a]) (max m d) := by rw [wk, if_neg hm]
   rw [e]
   refine ⟨fun k => ?_, fun p hp => ?_, fun b hb => i3 b (by simp [hb]), fun b hb hn c hc => ?_⟩
   ·rw [show n + 1 + k = (n + k) + 1 by omega, wk, if_neg hm]
    exact i1 k
   ·rcases List.mem_cons.1 hp with rfl | hp
    ·exact i3 _ (by simp)
    ·exact i2 p (by simp [hp])
   ·by_cases q : b = a
    ·subst q
     exact i2 (c, d + 1) (List.mem_append_left _ (List.mem_map_of_mem hc))
    ·exact i4 b hb (by simp [hn, q]) c hc
theorem wk_fuel {g : Nat → List Nat} {N : Nat} (hg : ∀ a, a < N → ∀ b ∈ g a, b < N) {n n' : Nat} {todo : List (Nat × Nat)} {out : List Nat} {m : Nat} (ht : ∀ p ∈ todo, p.1 < N) (h : mea g N todo out < n) (h' : mea g N todo out < n') : wk g n todo out m = wk g n' todo out m := by
 rcases Nat.le_total n n' with q | q
 ·have := (wk_done hg n todo out m ht h).1 (n' - n)
  rw [show n + (n' - n) = n' by omega] at this
  exact this.symm
 ·have := (wk_done hg n' todo out m ht h').1 (n - n')
  rw [show n' + (n - n') = n by omega] at this
  exact this
theorem wk_front {g : Nat → List Nat} : ∀ (n : Nat) (todo : List (Nat × Nat)) (out : List Nat) (m : Nat), ∃ r, (wk g n todo out m).1 = out ++ r
 | 0, _, out, _ => ⟨[], by rw [wk, List.append_nil]⟩
 | n + 1, [], out, _ => ⟨[], by rw [wk, List.append_nil]⟩
 | n + 1, (a, d) :: t, out, m => by
  rw [wk]
  by_cases h : a ∈ out
  ·rw [if_pos h]; exact wk_front n t out m
  ·rw [if_neg h]
   obtain ⟨r, e⟩ := wk_front (g := g) n ((g a).map (fun b => (b, d + 1)) ++ t) (out ++ [a]) (max m d)
   exact ⟨a :: r, by rw [e, List.append_assoc]; rfl⟩
def ord (g : Nat → List Nat) (n r : Nat) : List Nat := (wk g n [(r, 1)] [] 0).1
def dep (g : Nat → List Nat) (n r : Nat) : Nat := (wk g n [(r, 1)] [] 0).2
theorem ord_nodup (g : Nat → List Nat) (n r : Nat) : (ord g n r).Nodup := wk_once n _ _ _ List.nodup_nil
theorem ord_head (g : Nat → List Nat) (n r : Nat) : ∃ t, ord g (n + 1) r = r :: t := by
 unfold ord
 rw [wk, if_neg (by simp)]
 obtain ⟨q, e⟩ := wk_front (g := g) n ((g r).map (fun b => (b, 1 + 1)) ++ []) ([] ++ [r]) (max 0 1)
 exact ⟨q, by rw [e]; rfl⟩
theorem ord_closed {g : Nat → List Nat} {N : Nat} (hg : ∀ a, a < N → ∀ b ∈ g a, b < N) {n r : Nat} (hr : r < N) (hn : mea g N [(r, 1)] [] < n) : ∀ a ∈ ord g n r, ∀ b ∈ g a, b ∈ ord g n r :=
 fun a ha b hb => (wk_done hg n [(r, 1)] [] 0 (by simpa using hr) hn).2.2.2 a ha (by simp) b hb
theorem ord_lt {g : Nat → List Nat} {N : Nat} (hg : ∀ a, a < N → ∀ b ∈ g a, b < N) {n r : Nat} (hr : r < N) : ∀ a ∈ ord g n r, a < N :=
 wk_in (S := fun a => a < N) hg n _ _ _ (by simpa using hr) (by simp)
theorem mea_one (g : Nat → List Nat) (N r : Nat) : mea g N [(r, 1)] [] = 1 + ((List.range N).map (fun a => (g a).length)).sum := by
 unfold mea
 rw [List.filter_eq_self.2 (by simp)]
 rfl
end Go.Proofs.YtfohbiohleekbaaGreatDoor.Grp
end

section
/- . -/
namespace Go.Proofs.YtfohbiohleekbaaGreatDoor.Grp
set_option linter.unusedSimpArgs false
set_option linter.unusedVariables false
theorem mea_out (g : Nat → List Nat) (N : Nat) (t : List (Nat × Nat)) (out r : List Nat) : mea g N t (out ++ r) ≤ mea g N t out := by
 have key : ∀ l : List Nat, ((l.filter (fun a => decide (a ∉ out ++ r))).map (fun a => (g a).length)).sum ≤ ((l.filter (fun a => decide (a ∉ out))).map (fun a => (g a).length)).sum := by
  intro l
  induction l with
  | nil => simp
  | cons a l ih =>
   rw [List.filter_cons, List.filter_cons]
   by_cases h : a ∈ out
   ·rw [if_neg (by simp [h]), if_neg (by simp [h])]; exact ih
   ·rw [if_pos (c := (decide (a ∉ out)) = true) (by simp [h])]
    split
    ·rw [List.map_cons, List.map_cons, List.sum_cons, List.sum_cons]; omega
    ·rw [List.map_cons, List.sum_cons]; omega
 unfold mea
 have := key (List.range N)
 omega
theorem mea_app (g : Nat → List Nat) (N : Nat) (t u : List (Nat × Nat)) (out : List Nat) : mea g N (t ++ u) out = t.length + mea g N u out := by
 unfold mea
 rw [List.length_append]
 omega
theorem wk_app {g : Nat → List Nat} {N : Nat} (hg : ∀ a, a < N → ∀ b ∈ g a, b < N) : ∀ (n : Nat) (t u : List (Nat × Nat)) (out : List Nat) (m : Nat), (∀ p ∈ t, p.1 < N) → (∀ p ∈ u, p.1 < N) → mea g N (t ++ u) out < n →
  wk g n (t ++ u) out m = wk g n u (wk g n t out m).1 (wk g n t out m).2
 | 0, _, _, _, _, _, _, h => absurd h (Nat.not_lt_zero _)
 | n + 1, [], u, out, m, _, _, _ => rfl
 | n + 1, (a, d) :: t, u, out, m, ht, hu, h => by
  have ha : a < N := ht (a, d) (by simp)
  have ht' : ∀ p ∈ t, p.1 < N := fun p hp => ht p (by simp [hp])
  rw [List.cons_append]
  by_cases hm : a ∈ out
  ·have hl : mea g N (t ++ u) out < n := by unfold mea at h ⊢; rw [List.cons_append, List.length_cons] at h; omega
   have e1 : wk g (n + 1) ((a, d) :: (t ++ u)) out m = wk g n (t ++ u) out m := by rw [wk, if_pos hm]
   have e2 : wk g (n + 1) ((a, d) :: t) out m = wk g n t out m := by rw [wk, if_pos hm]
   rw [e1, e2, wk_app hg n t u out m ht' hu hl]
   obtain ⟨r, hr⟩ := wk_front (g := g) n t out m
   refine wk_fuel hg hu ?_ ?_
   ·have h1 := mea_app g N t u out
    have h2 := mea_out g N u out r
    rw [hr]
    omega
   ·have h1 := mea_app g N t u out
    have h2 := mea_out g N u out r
    rw [hr]
    omega
  ·have hs := mea_step g N a d (t ++ u) out hm ha
   have hl : mea g N ((g a).map (fun b => (b, d + 1)) ++ (t ++ u)) (out ++ [a]) < n := by
    rw [List.cons_append] at h; omega
   have ht2 : ∀ p ∈ (g a).map (fun b => (b, d + 1)) ++ t, p.1 < N := fun p hp => by
    rcases List.mem_append.1 hp with hp | hp
    ·obtain ⟨b, hb, rfl⟩ := List.mem_map.1 hp
     exact hg a ha b hb
    ·exact ht' p hp
   have e1 : wk g (n + 1) ((a, d) :: (t ++ u)) out m = wk g n ((g a).map (fun b => (b, d + 1)) ++ (t ++ u)) (out ++ [a]) (max m d) := by rw [wk, if_neg hm]
   have e2 : wk g (n + 1) ((a, d) :: t) out m = wk g n ((g a).map (fun b => (b, d + 1)) ++ t) (out ++ [a]) (max m d) := by rw [wk, if_neg hm]
   rw [e1, e2, ← List.append_assoc, wk_app hg n _ u (out ++ [a]) (max m d) ht2 hu (by rw [List.append_assoc]; exact hl)]
   obtain ⟨r, hr⟩ := wk_front (g := g) n ((g a).map (fun b => (b, d + 1)) ++ t) (out ++ [a]) (max m d)
   refine wk_fuel hg hu ?_ ?_
   ·have h1 := mea_app g N ((g a).map (fun b => (b, d + 1)) ++ t) u (out ++ [a])
    have h2 := mea_out g N u (out ++ [a]) r
    rw [hr]
    rw [← List.append_assoc] at hl
    omega
   ·have h1 := mea_app g N ((g a).map (fun b => (b, d + 1)) ++ t) u (out ++ [a])
    have h2 := mea_out g N u (out ++ [a]) r
    rw [hr]
    rw [← List.append_assoc] at hl
    omega
def ful (g : Nat → List Nat) (N : Nat) : Nat := ((List.range N).map (fun a => (g a).length)).sum + 2
theorem mea_ful (g : Nat → List Nat) (N : Nat) (p : Nat × Nat) (out : List Nat) : mea g N [p] out < ful g N := by
 have h := mea_out g N [p] [] out
 rw [List.nil_append] at h
 have h2 := mea_one g N p.1
 have h3 : mea g N [(p.1, 1)] [] = mea g N [p] [] := rfl
 unfold ful
 omega
theorem wk_old {g : Nat → List Nat} {n a d m : Nat} {out : List Nat} (hn : 0 < n) (h : a ∈ out) : wk g n [(a, d)] out m = (out, m) := by
 obtain ⟨k, rfl⟩ : ∃ k, n = k + 1 := ⟨n - 1, by omega⟩
 rw [wk, if_pos h]
 cases k <;> rfl
def wks (g : Nat → List Nat) (n : Nat) : List Nat → Nat → List Nat × Nat → List Nat × Nat
 | [], _, s => s
 | b :: t, d, s => wks g n t d (wk g n [(b, d)] s.1 s.2)
theorem wks_snoc (g : Nat → List Nat) (n d : Nat) : ∀ (l : List Nat) (b : Nat) (s : List Nat × Nat), wks g n (l ++ [b]) d s = wk g n [(b, d)] (wks g n l d s).1 (wks g n l d s).2
 | [], b, s => rfl
 | c :: l, b, s => by rw [List.cons_append, wks, wks_snoc g n d l b, wks]
theorem wks_wk {g : Nat → List Nat} {N : Nat} (hg : ∀ a, a < N → ∀ b ∈ g a, b < N) {n d : Nat} : ∀ (l : List Nat) (out : List Nat) (m : Nat), (∀ b ∈ l, b < N) → mea g N (l.map (fun b => (b, d))) out < n →
  wk g n (l.map (fun b => (b, d))) out m = wks g n l d (out, m)
 | [], out, m, _, h => by
  obtain ⟨k, rfl⟩ : ∃ k, n = k + 1 := ⟨n - 1, by omega⟩
  rfl
 | b :: l, out, m, hl, h => by
  rw [List.map_cons] at h ⊢
  have hb : ∀ p ∈ [(b, d)], p.1 < N := by simpa using hl b (by simp)
  have hu : ∀ p ∈ l.map (fun b => (b, d)), p.1 < N := fun p hp => by
   obtain ⟨c, hc, rfl⟩ := List.mem_map.1 hp
   exact hl c (by simp [hc])
  have e := wk_app hg n [(b, d)] (l.map (fun b => (b, d))) out m hb hu h
  rw [List.singleton_append] at e
  rw [e, wks]
  obtain ⟨r, hr⟩ := wk_front (g := g) n [(b, d)] out m
  have h1 := mea_app g N [(b, d)] (l.map (fun b => (b, d))) out
  have h2 := mea_out g N (l.map (fun b => (b, d))) out r
  rw [List.singleton_append] at h1
  exact wks_wk hg l _ _ (fun c hc => hl c (by simp [hc])) (by rw [hr]; simp only [List.length_singleton] at h1; omega)
theorem wk_new {g : Nat → List Nat} {N : Nat} (hg : ∀ a, a < N → ∀ b ∈ g a, b < N) {n a d m : Nat} {out : List Nat} (ha : a < N) (h : a ∉ out) (hn : mea g N [(a, d)] out < n) :
  wk g n [(a, d)] out m = wks g n (g a) (d + 1) (out ++ [a], max m d) := by
 have hs := mea_step g N a d [] out h ha
 rw [List.append_nil] at hs
 obtain ⟨k, rfl⟩ : ∃ k, n = k + 1 := ⟨n - 1, by omega⟩
 rw [wk, if_neg h, List.append_nil, ← wks_wk hg (g a) (out ++ [a]) (max m d) (hg a ha) (by omega)]
 refine wk_fuel hg (fun p hp => ?_) (by omega) (by omega)
 obtain ⟨c, hc, rfl⟩ := List.mem_map.1 hp
 exact hg a ha c hc
end Go.Proofs.YtfohbiohleekbaaGreatDoor.Grp
end
