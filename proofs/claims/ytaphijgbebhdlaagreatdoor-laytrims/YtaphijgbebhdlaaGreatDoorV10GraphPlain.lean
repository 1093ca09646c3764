/- Several texts as one: GraphPlain, GraphPlain2, GraphMem, GraphKids. -/
import Derived.Test.YtaphijgbebhdlaaGreatDoorV09FlowAllow
section
/- Graphs gone over in order, as plain functions: what is reached, how deep, and that the order is the same under other places. -/
namespace Go.Proofs.YtaphijgbebhdlaaGreatDoor.Grp
set_option linter.unusedSimpArgs false
set_option linter.unusedVariables false

/-- goes over what is to be gone to (a place and its depth, the next one first): the places in order, and the greatest depth -/
def wk (g : Nat → List Nat) : Nat → List (Nat × Nat) → List Nat → Nat → List Nat × Nat
  | 0, _, out, m => (out, m)
  | _ + 1, [], out, m => (out, m)
  | n + 1, (a, d) :: t, out, m => if a ∈ out then wk g n t out m else wk g n ((g a).map (fun b => (b, d + 1)) ++ t) (out ++ [a]) (max m d)
/-- what comes lies in every set that is closed -/
theorem wk_in {g : Nat → List Nat} {S : Nat → Prop} (hc : ∀ a, S a → ∀ b ∈ g a, S b) : ∀ (n : Nat) (todo : List (Nat × Nat)) (out : List Nat) (m : Nat), (∀ p ∈ todo, S p.1) → (∀ a ∈ out, S a) → ∀ a ∈ (wk g n todo out m).1, S a
  | 0, _, _, _, _, ho => ho
  | n + 1, [], _, _, _, ho => ho
  | n + 1, (a, d) :: t, out, m, ht, ho => by
    have ha : S a := ht (a, d) (by simp)
    have ht' : ∀ p ∈ t, S p.1 := fun p hp => ht p (by simp [hp])
    rw [wk]
    by_cases h : a ∈ out
    · rw [if_pos h]; exact wk_in hc n t out m ht' ho
    · rw [if_neg h]
      refine wk_in hc n _ _ _ (fun p hp => ?_) (fun b hb => ?_)
      · rcases List.mem_append.1 hp with hp | hp
        · obtain ⟨b, hb, rfl⟩ := List.mem_map.1 hp
          exact hc a ha b hb
        · exact ht' p hp
      · rcases List.mem_append.1 hb with hb | hb
        · exact ho b hb
        · rw [List.mem_singleton.1 hb]; exact ha
/-- each comes once -/
theorem wk_once {g : Nat → List Nat} : ∀ (n : Nat) (todo : List (Nat × Nat)) (out : List Nat) (m : Nat), out.Nodup → (wk g n todo out m).1.Nodup
  | 0, _, _, _, h => h
  | n + 1, [], _, _, h => h
  | n + 1, (a, d) :: t, out, m, hn => by
    rw [wk]
    by_cases h : a ∈ out
    · rw [if_pos h]; exact wk_once n t out m hn
    · rw [if_neg h]
      refine wk_once n _ _ _ ?_
      rw [List.nodup_append]
      exact ⟨hn, by simp, fun x hx y hy => by rw [List.mem_singleton.1 hy]; rintro rfl; exact h hx⟩
/-- how much there is to be gone to at the most, among the places below N -/
def mea (g : Nat → List Nat) (N : Nat) (todo : List (Nat × Nat)) (out : List Nat) : Nat := todo.length + (((List.range N).filter (fun a => decide (a ∉ out))).map (fun a => (g a).length)).sum
theorem filter_less (g : Nat → List Nat) (out : List Nat) (a : Nat) (h : a ∉ out) : ∀ (l : List Nat), l.Nodup → a ∈ l →
    ((l.filter (fun b => decide (b ∉ out ++ [a]))).map (fun b => (g b).length)).sum + (g a).length = ((l.filter (fun b => decide (b ∉ out))).map (fun b => (g b).length)).sum
  | [], _, hm => absurd hm (by simp)
  | b :: t, hn, hm => by
    have hn' := List.nodup_cons.1 hn
    by_cases e : b = a
    · subst e
      have e1 : t.filter (fun c => decide (c ∉ out ++ [b])) = t.filter (fun c => decide (c ∉ out)) := by
        apply List.filter_congr
        intro c hc
        have : c ≠ b := fun q => hn'.1 (q ▸ hc)
        simp [this]
      rw [List.filter_cons, List.filter_cons, if_neg (by simp), if_pos (by simpa using h), e1, List.map_cons, List.sum_cons]
      omega
    · have hm' : a ∈ t := by
        rcases List.mem_cons.1 hm with q | q
        · exact absurd q.symm e
        · exact q
      have ih := filter_less g out a h t hn'.2 hm'
      rw [List.filter_cons, List.filter_cons]
      by_cases hb : b ∈ out
      · rw [if_neg (by simp [hb]), if_neg (by simp [hb])]
        exact ih
      · rw [if_pos (by simp [hb, e]), if_pos (by simp [hb]), List.map_cons, List.map_cons, List.sum_cons, List.sum_cons]
        omega
theorem mea_step (g : Nat → List Nat) (N : Nat) (a d : Nat) (t : List (Nat × Nat)) (out : List Nat) (h : a ∉ out) (ha : a < N) : mea g N ((g a).map (fun b => (b, d + 1)) ++ t) (out ++ [a]) + 1 = mea g N ((a, d) :: t) out := by
  have h1 := filter_less g out a h (List.range N) List.nodup_range (List.mem_range.2 ha)
  unfold mea
  rw [List.length_append, List.length_map, List.length_cons]
  omega
/-- with fuel enough nothing is left to be gone to: more fuel turns nothing, and all that is reached is there -/
theorem wk_done {g : Nat → List Nat} {N : Nat} (hg : ∀ a, a < N → ∀ b ∈ g a, b < N) : ∀ (n : Nat) (todo : List (Nat × Nat)) (out : List Nat) (m : Nat), (∀ p ∈ todo, p.1 < N) → mea g N todo out < n →
    (∀ k, wk g (n + k) todo out m = wk g n todo out m) ∧ (∀ p ∈ todo, p.1 ∈ (wk g n todo out m).1) ∧ (∀ a ∈ out, a ∈ (wk g n todo out m).1) ∧ (∀ a ∈ (wk g n todo out m).1, a ∉ out → ∀ b ∈ g a, b ∈ (wk g n todo out m).1)
  | 0, _, _, _, _, h => absurd h (Nat.not_lt_zero _)
  | n + 1, [], out, m, _, _ => by
    refine ⟨fun k => ?_, fun p hp => absurd hp (by simp), fun a ha => ha, fun a ha hn => absurd ha hn⟩
    rw [show n + 1 + k = (n + k) + 1 by omega]
    rfl
  | n + 1, (a, d) :: t, out, m, ht, h => by
    have ha : a < N := ht (a, d) (by simp)
    have ht' : ∀ p ∈ t, p.1 < N := fun p hp => ht p (by simp [hp])
    by_cases hm : a ∈ out
    · have hl : mea g N t out < n := by unfold mea at h ⊢; rw [List.length_cons] at h; omega
      obtain ⟨i1, i2, i3, i4⟩ := wk_done hg n t out m ht' hl
      have e : wk g (n + 1) ((a, d) :: t) out m = wk g n t out m := by rw [wk, if_pos hm]
      rw [e]
      refine ⟨fun k => ?_, fun p hp => ?_, i3, i4⟩
      · rw [show n + 1 + k = (n + k) + 1 by omega, wk, if_pos hm]
        exact i1 k
      · rcases List.mem_cons.1 hp with rfl | hp
        · exact i3 _ hm
        · exact i2 p hp
    · have hl : mea g N ((g a).map (fun b => (b, d + 1)) ++ t) (out ++ [a]) < n := by
        have := mea_step g N a d t out hm ha
        omega
      have ht2 : ∀ p ∈ (g a).map (fun b => (b, d + 1)) ++ t, p.1 < N := fun p hp => by
        rcases List.mem_append.1 hp with hp | hp
        · obtain ⟨b, hb, rfl⟩ := List.mem_map.1 hp
          exact hg a ha b hb
        · exact ht' p hp
      obtain ⟨i1, i2, i3, i4⟩ := wk_done hg n _ (out ++ [a]) (max m d) ht2 hl
      have e : wk g (n + 1) ((a, d) :: t) out m = wk g n ((g a).map (fun b => (b, d + 1)) ++ t) (out ++ [a]) (max m d) := by rw [wk, if_neg hm]
      rw [e]
      refine ⟨fun k => ?_, fun p hp => ?_, fun b hb => i3 b (by simp [hb]), fun b hb hn c hc => ?_⟩
      · rw [show n + 1 + k = (n + k) + 1 by omega, wk, if_neg hm]
        exact i1 k
      · rcases List.mem_cons.1 hp with rfl | hp
        · exact i3 _ (by simp)
        · exact i2 p (by simp [hp])
      · by_cases q : b = a
        · subst q
          exact i2 (c, d + 1) (List.mem_append_left _ (List.mem_map_of_mem hc))
        · exact i4 b hb (by simp [hn, q]) c hc
/-- the fuel turns nothing once there is enough of it -/
theorem wk_fuel {g : Nat → List Nat} {N : Nat} (hg : ∀ a, a < N → ∀ b ∈ g a, b < N) {n n' : Nat} {todo : List (Nat × Nat)} {out : List Nat} {m : Nat} (ht : ∀ p ∈ todo, p.1 < N) (h : mea g N todo out < n) (h' : mea g N todo out < n') : wk g n todo out m = wk g n' todo out m := by
  rcases Nat.le_total n n' with q | q
  · have := (wk_done hg n todo out m ht h).1 (n' - n)
    rw [show n + (n' - n) = n' by omega] at this
    exact this.symm
  · have := (wk_done hg n' todo out m ht h').1 (n - n')
    rw [show n' + (n - n') = n by omega] at this
    exact this
/-- what came stays in front -/
theorem wk_front {g : Nat → List Nat} : ∀ (n : Nat) (todo : List (Nat × Nat)) (out : List Nat) (m : Nat), ∃ r, (wk g n todo out m).1 = out ++ r
  | 0, _, out, _ => ⟨[], by rw [wk, List.append_nil]⟩
  | n + 1, [], out, _ => ⟨[], by rw [wk, List.append_nil]⟩
  | n + 1, (a, d) :: t, out, m => by
    rw [wk]
    by_cases h : a ∈ out
    · rw [if_pos h]; exact wk_front n t out m
    · rw [if_neg h]
      obtain ⟨r, e⟩ := wk_front (g := g) n ((g a).map (fun b => (b, d + 1)) ++ t) (out ++ [a]) (max m d)
      exact ⟨a :: r, by rw [e, List.append_assoc]; rfl⟩
/-- the order from a place, and the depth -/
def ord (g : Nat → List Nat) (n r : Nat) : List Nat := (wk g n [(r, 1)] [] 0).1
def dep (g : Nat → List Nat) (n r : Nat) : Nat := (wk g n [(r, 1)] [] 0).2
theorem ord_nodup (g : Nat → List Nat) (n r : Nat) : (ord g n r).Nodup := wk_once n _ _ _ List.nodup_nil
theorem ord_lt {g : Nat → List Nat} {N : Nat} (hg : ∀ a, a < N → ∀ b ∈ g a, b < N) {n r : Nat} (hr : r < N) : ∀ a ∈ ord g n r, a < N :=
  wk_in (S := fun a => a < N) hg n _ _ _ (by simpa using hr) (by simp)
theorem idx_rng {N i : Nat} (h : i < N) : (List.range N).idxOf i = i := by
  have hl : i < (List.range N).length := by simpa using h
  have := (List.nodup_range (n := N)).idxOf_getElem i hl
  simpa using this
/-- what is in order of places that are below another length: the fuel of the Canon's own length is enough -/
theorem mea_one (g : Nat → List Nat) (N r : Nat) : mea g N [(r, 1)] [] = 1 + ((List.range N).map (fun a => (g a).length)).sum := by
  unfold mea
  rw [List.filter_eq_self.2 (by simp)]
  rfl
end Go.Proofs.YtaphijgbebhdlaaGreatDoor.Grp
end

section
/- The walk from several places, one behind the other. -/
namespace Go.Proofs.YtaphijgbebhdlaaGreatDoor.Grp
set_option linter.unusedSimpArgs false
set_option linter.unusedVariables false
/-- more places that came: less is left -/
theorem mea_out (g : Nat → List Nat) (N : Nat) (t : List (Nat × Nat)) (out r : List Nat) : mea g N t (out ++ r) ≤ mea g N t out := by
  have key : ∀ l : List Nat, ((l.filter (fun a => decide (a ∉ out ++ r))).map (fun a => (g a).length)).sum ≤ ((l.filter (fun a => decide (a ∉ out))).map (fun a => (g a).length)).sum := by
    intro l
    induction l with
    | nil => simp
    | cons a l ih =>
      rw [List.filter_cons, List.filter_cons]
      by_cases h : a ∈ out
      · rw [if_neg (by simp [h]), if_neg (by simp [h])]; exact ih
      · rw [if_pos (c := (decide (a ∉ out)) = true) (by simp [h])]
        split
        · rw [List.map_cons, List.map_cons, List.sum_cons, List.sum_cons]; omega
        · rw [List.map_cons, List.sum_cons]; omega
  unfold mea
  have := key (List.range N)
  omega
theorem mea_app (g : Nat → List Nat) (N : Nat) (t u : List (Nat × Nat)) (out : List Nat) : mea g N (t ++ u) out = t.length + mea g N u out := by
  unfold mea
  rw [List.length_append]
  omega
/-- what stands behind is gone to behind -/
theorem wk_app {g : Nat → List Nat} {N : Nat} (hg : ∀ a, a < N → ∀ b ∈ g a, b < N) : ∀ (n : Nat) (t u : List (Nat × Nat)) (out : List Nat) (m : Nat), (∀ p ∈ t, p.1 < N) → (∀ p ∈ u, p.1 < N) → mea g N (t ++ u) out < n →
    wk g n (t ++ u) out m = wk g n u (wk g n t out m).1 (wk g n t out m).2
  | 0, _, _, _, _, _, _, h => absurd h (Nat.not_lt_zero _)
  | n + 1, [], u, out, m, _, _, _ => rfl
  | n + 1, (a, d) :: t, u, out, m, ht, hu, h => by
    have ha : a < N := ht (a, d) (by simp)
    have ht' : ∀ p ∈ t, p.1 < N := fun p hp => ht p (by simp [hp])
    rw [List.cons_append]
    by_cases hm : a ∈ out
    · have hl : mea g N (t ++ u) out < n := by unfold mea at h ⊢; rw [List.cons_append, List.length_cons] at h; omega
      have e1 : wk g (n + 1) ((a, d) :: (t ++ u)) out m = wk g n (t ++ u) out m := by rw [wk, if_pos hm]
      have e2 : wk g (n + 1) ((a, d) :: t) out m = wk g n t out m := by rw [wk, if_pos hm]
      rw [e1, e2, wk_app hg n t u out m ht' hu hl]
      obtain ⟨r, hr⟩ := wk_front (g := g) n t out m
      refine wk_fuel hg hu ?_ ?_
      · have h1 := mea_app g N t u out
        have h2 := mea_out g N u out r
        rw [hr]
        omega
      · have h1 := mea_app g N t u out
        have h2 := mea_out g N u out r
        rw [hr]
        omega
    · have hs := mea_step g N a d (t ++ u) out hm ha
      have hl : mea g N ((g a).map (fun b => (b, d + 1)) ++ (t ++ u)) (out ++ [a]) < n := by
        rw [List.cons_append] at h; omega
      have ht2 : ∀ p ∈ (g a).map (fun b => (b, d + 1)) ++ t, p.1 < N := fun p hp => by
        rcases List.mem_append.1 hp with hp | hp
        · obtain ⟨b, hb, rfl⟩ := List.mem_map.1 hp
          exact hg a ha b hb
        · exact ht' p hp
      have e1 : wk g (n + 1) ((a, d) :: (t ++ u)) out m = wk g n ((g a).map (fun b => (b, d + 1)) ++ (t ++ u)) (out ++ [a]) (max m d) := by rw [wk, if_neg hm]
      have e2 : wk g (n + 1) ((a, d) :: t) out m = wk g n ((g a).map (fun b => (b, d + 1)) ++ t) (out ++ [a]) (max m d) := by rw [wk, if_neg hm]
      rw [e1, e2, ← List.append_assoc, wk_app hg n _ u (out ++ [a]) (max m d) ht2 hu (by rw [List.append_assoc]; exact hl)]
      obtain ⟨r, hr⟩ := wk_front (g := g) n ((g a).map (fun b => (b, d + 1)) ++ t) (out ++ [a]) (max m d)
      refine wk_fuel hg hu ?_ ?_
      · have h1 := mea_app g N ((g a).map (fun b => (b, d + 1)) ++ t) u (out ++ [a])
        have h2 := mea_out g N u (out ++ [a]) r
        rw [hr]
        rw [← List.append_assoc] at hl
        omega
      · have h1 := mea_app g N ((g a).map (fun b => (b, d + 1)) ++ t) u (out ++ [a])
        have h2 := mea_out g N u (out ++ [a]) r
        rw [hr]
        rw [← List.append_assoc] at hl
        omega
/-- the fuel that is enough for every walk of a graph from places below N -/
def ful (g : Nat → List Nat) (N : Nat) : Nat := ((List.range N).map (fun a => (g a).length)).sum + 2
theorem mea_ful (g : Nat → List Nat) (N : Nat) (p : Nat × Nat) (out : List Nat) : mea g N [p] out < ful g N := by
  have h := mea_out g N [p] [] out
  rw [List.nil_append] at h
  have h2 := mea_one g N p.1
  have h3 : mea g N [(p.1, 1)] [] = mea g N [p] [] := rfl
  unfold ful
  omega
/-- a place that came turns nothing -/
theorem wk_old {g : Nat → List Nat} {n a d m : Nat} {out : List Nat} (hn : 0 < n) (h : a ∈ out) : wk g n [(a, d)] out m = (out, m) := by
  obtain ⟨k, rfl⟩ : ∃ k, n = k + 1 := ⟨n - 1, by omega⟩
  rw [wk, if_pos h]
  cases k <;> rfl
/-- the Kids, one behind the other -/
def wks (g : Nat → List Nat) (n : Nat) : List Nat → Nat → List Nat × Nat → List Nat × Nat
  | [], _, s => s
  | b :: t, d, s => wks g n t d (wk g n [(b, d)] s.1 s.2)
theorem wks_snoc (g : Nat → List Nat) (n d : Nat) : ∀ (l : List Nat) (b : Nat) (s : List Nat × Nat), wks g n (l ++ [b]) d s = wk g n [(b, d)] (wks g n l d s).1 (wks g n l d s).2
  | [], b, s => rfl
  | c :: l, b, s => by rw [List.cons_append, wks, wks_snoc g n d l b, wks]
theorem wks_wk {g : Nat → List Nat} {N : Nat} (hg : ∀ a, a < N → ∀ b ∈ g a, b < N) {n d : Nat} : ∀ (l : List Nat) (out : List Nat) (m : Nat), (∀ b ∈ l, b < N) → mea g N (l.map (fun b => (b, d))) out < n →
    wk g n (l.map (fun b => (b, d))) out m = wks g n l d (out, m)
  | [], out, m, _, h => by
    obtain ⟨k, rfl⟩ : ∃ k, n = k + 1 := ⟨n - 1, by omega⟩
    rfl
  | b :: l, out, m, hl, h => by
    rw [List.map_cons] at h ⊢
    have hb : ∀ p ∈ [(b, d)], p.1 < N := by simpa using hl b (by simp)
    have hu : ∀ p ∈ l.map (fun b => (b, d)), p.1 < N := fun p hp => by
      obtain ⟨c, hc, rfl⟩ := List.mem_map.1 hp
      exact hl c (by simp [hc])
    have e := wk_app hg n [(b, d)] (l.map (fun b => (b, d))) out m hb hu h
    rw [List.singleton_append] at e
    rw [e, wks]
    obtain ⟨r, hr⟩ := wk_front (g := g) n [(b, d)] out m
    have h1 := mea_app g N [(b, d)] (l.map (fun b => (b, d))) out
    have h2 := mea_out g N (l.map (fun b => (b, d))) out r
    rw [List.singleton_append] at h1
    exact wks_wk hg l _ _ (fun c hc => hl c (by simp [hc])) (by rw [hr]; simp only [List.length_singleton] at h1; omega)
/-- one that has not come: it comes, then its Kids -/
theorem wk_new {g : Nat → List Nat} {N : Nat} (hg : ∀ a, a < N → ∀ b ∈ g a, b < N) {n a d m : Nat} {out : List Nat} (ha : a < N) (h : a ∉ out) (hn : mea g N [(a, d)] out < n) :
    wk g n [(a, d)] out m = wks g n (g a) (d + 1) (out ++ [a], max m d) := by
  have hs := mea_step g N a d [] out h ha
  rw [List.append_nil] at hs
  obtain ⟨k, rfl⟩ : ∃ k, n = k + 1 := ⟨n - 1, by omega⟩
  rw [wk, if_neg h, List.append_nil, ← wks_wk hg (g a) (out ++ [a]) (max m d) (hg a ha) (by omega)]
  refine wk_fuel hg (fun p hp => ?_) (by omega) (by omega)
  obtain ⟨c, hc, rfl⟩ := List.mem_map.1 hp
  exact hg a ha c hc
end Go.Proofs.YtaphijgbebhdlaaGreatDoor.Grp
end

section
/- Graphs in memory, and package graph's smallest functions, by their contracts. -/
namespace Go.Proofs.YtaphijgbebhdlaaGreatDoor.Grp
open Utf Rws Pln Flw
open Go.RowKit
set_option linter.unusedSimpArgs false
set_option linter.unusedVariables false
set_option maxRecDepth 100000
set_option maxHeartbeats 4000000
variable {w : World}

structure Nd where
  kind : Int
  text : Ln
  kids : List Int
structure Gr where
  nodes : List Nd
  root : Int
def nd0 : Nd := ⟨0, [], []⟩
abbrev i64 (a : Int) : Prop := -9223372036854775808 ≤ a ∧ a ≤ 9223372036854775807
abbrev gv (ad : Option Addr) (len cap : Nat) (r : Int) : Value := .agg #[.slice ad len cap, .int .i64 r]
abbrev nv (k : Int) (x : Ln) (ad : Option Addr) (len cap : Nat) : Value := .agg #[.int .i64 k, .string (mk x), .slice ad len cap]
/-- ints in memory -/
def IAt (w : World) (ad : Option Addr) (len : Nat) (l : List Int) : Prop :=
  len = l.length ∧ (0 < len → ∃ b off, ad = some ⟨b, off, none⟩ ∧ b < w.heap.size ∧ ∀ i, i < len → i64 (l.getD i 0) ∧ w.cell? ⟨b, off + i, none⟩ = some (.int .i64 (l.getD i 0)))
theorem IAt.later {w w' : World} {B : Nat} (hb : Below B w w') (hB : w.heap.size ≤ B) {ad : Option Addr} {len : Nat} {l : List Int} (h : IAt w ad len l) : IAt w' ad len l := by
  refine ⟨h.1, fun hp => ?_⟩
  obtain ⟨b, off, ha, hlt, hc⟩ := h.2 hp
  exact ⟨b, off, ha, Nat.lt_of_lt_of_le hlt hb.size, fun i hi => ⟨(hc i hi).1, (hb.cell (p := ⟨b, off + i, none⟩) (Nat.lt_of_lt_of_le hlt hB)).trans (hc i hi).2⟩⟩
/-- a node's value -/
def NdV (w : World) (v : Value) (n : Nd) : Prop := ∃ ad len cap, v = nv n.kind n.text ad len cap ∧ len ≤ cap ∧ cap ≤ maxLen ∧ i64 n.kind ∧ n.text.length ≤ 9223372036854775807 ∧ IAt w ad len n.kids
theorem NdV.later {w w' : World} {B : Nat} (hb : Below B w w') (hB : w.heap.size ≤ B) {v : Value} {n : Nd} (h : NdV w v n) : NdV w' v n := by
  obtain ⟨ad, len, cap, e, h1, h2, h3, h4, h5⟩ := h
  exact ⟨ad, len, cap, e, h1, h2, h3, h4, h5.later hb hB⟩
theorem NdV.three {w : World} {c0 c1 c2 : Value} {n : Nd} (h : NdV w (.agg #[c0, c1, c2]) n) : ∃ (ad : Option Addr) (len cap : Nat), c0 = .int .i64 n.kind ∧ c1 = .string (mk n.text) ∧ c2 = .slice ad len cap := by
  obtain ⟨ad, len, cap, e, _⟩ := h
  simp only [Value.agg.injEq, Array.mk.injEq, List.cons.injEq, and_true] at e
  exact ⟨ad, len, cap, e.1, e.2.1, e.2.2⟩
/-- nodes in memory -/
def NAt (w : World) (ad : Option Addr) (len : Nat) (ns : List Nd) : Prop :=
  len = ns.length ∧ (0 < len → ∃ b off, ad = some ⟨b, off, none⟩ ∧ b < w.heap.size ∧ ∀ i, i < len → ∃ kad klen kcap, klen ≤ kcap ∧ kcap ≤ maxLen ∧ i64 (ns.getD i nd0).kind ∧ (ns.getD i nd0).text.length ≤ 9223372036854775807 ∧ IAt w kad klen (ns.getD i nd0).kids ∧
    w.cell? ⟨b, off + i * 3, none⟩ = some (.int .i64 (ns.getD i nd0).kind) ∧ w.cell? ⟨b, off + i * 3 + 1, none⟩ = some (.string (mk (ns.getD i nd0).text)) ∧ w.cell? ⟨b, off + i * 3 + 2, none⟩ = some (.slice kad klen kcap))
theorem NAt.later {w w' : World} {B : Nat} (hb : Below B w w') (hB : w.heap.size ≤ B) {ad : Option Addr} {len : Nat} {l : List Nd} (h : NAt w ad len l) : NAt w' ad len l := by
  refine ⟨h.1, fun hp => ?_⟩
  obtain ⟨b, off, ha, hlt, hc⟩ := h.2 hp
  have hl := Nat.lt_of_lt_of_le hlt hB
  refine ⟨b, off, ha, Nat.lt_of_lt_of_le hlt hb.size, fun i hi => ?_⟩
  obtain ⟨kad, klen, kcap, h1, h2, h3, h4, h5, h6, h7, h8⟩ := hc i hi
  exact ⟨kad, klen, kcap, h1, h2, h3, h4, h5.later hb hB, (hb.cell (p := ⟨b, off + i * 3, none⟩) hl).trans h6, (hb.cell (p := ⟨b, off + i * 3 + 1, none⟩) hl).trans h7, (hb.cell (p := ⟨b, off + i * 3 + 2, none⟩) hl).trans h8⟩
/-- a graph's value -/
def GrV (w : World) (v : Value) (g : Gr) : Prop := ∃ ad len cap, v = gv ad len cap g.root ∧ len ≤ cap ∧ cap ≤ maxLen ∧ i64 g.root ∧ NAt w ad len g.nodes
theorem GrV.later {w w' : World} {B : Nat} (hb : Below B w w') (hB : w.heap.size ≤ B) {v : Value} {g : Gr} (h : GrV w v g) : GrV w' v g := by
  obtain ⟨ad, len, cap, e, h1, h2, h3, h4⟩ := h
  exact ⟨ad, len, cap, e, h1, h2, h3, h4.later hb hB⟩

def isP (n : Nat) (a : Int) : Bool := decide (0 ≤ a) && decide (a < (n : Int))
theorem isPlace_any {ad : Option Addr} {len cap : Nat} {r a : Int} (hl : len ≤ 9223372036854775807) : Calls Tryz.prog 47 #[gv ad len cap r, .int .i64 a] w fun e w' => e = .returned (.bool (isP len a)) ∧ Below w.heap.size w w' := by
  have HV : Hid (isP len a = (decide (0 ≤ a) && decide (a < (len : Int)))) := rfl
  generalize isP len a = R at *
  by_cases h0 : 0 ≤ a
  · by_cases h1 : a < (len : Int)
    · go_enter Tryz.func47, Tryz.ntmps47
      go_wp2
      go_ret
      exact ⟨by rw [HV.out, decide_eq_true h0, decide_eq_true h1]; rfl, below_alloc _ _⟩
    · go_enter Tryz.func47, Tryz.ntmps47
      go_wp2
      go_ret
      exact ⟨by rw [HV.out, decide_eq_true h0, decide_eq_false (show ¬ a < (len : Int) by omega)]; rfl, below_alloc _ _⟩
  · go_enter Tryz.func47, Tryz.ntmps47
    go_wp2
    go_ret
    exact ⟨by rw [HV.out, decide_eq_false (show ¬ 0 ≤ a by omega)]; rfl, below_alloc _ _⟩
def sca (k : Int) : Bool := decide (1 ≤ k) && decide (k ≤ 4)
theorem isScalar_any {ad : Option Addr} {len cap : Nat} {k : Int} {x : Ln} : Calls Tryz.prog 69 #[nv k x ad len cap] w fun e w' => e = .returned (.bool (sca k)) ∧ Below w.heap.size w w' := by
  by_cases h : 1 ≤ k ∧ k ≤ 4
  · have HV : Hid (sca k = true) := by unfold sca; rw [decide_eq_true h.1, decide_eq_true h.2]; exact rfl
    have hk : k = 1 ∨ k = 2 ∨ k = 3 ∨ k = 4 := by omega
    clear h
    rcases hk with rfl | rfl | rfl | rfl <;>
    · go_enter Tryz.func69, Tryz.ntmps69
      go_wp2
      go_ret
      exact ⟨by rw [HV.out]; rfl, below_alloc _ _⟩
  · have HV : Hid (sca k = false) := by
      unfold sca
      by_cases h1 : 1 ≤ k
      · rw [decide_eq_false (show ¬ k ≤ 4 from fun h4 => h ⟨h1, h4⟩)]; simp [Hid]
      · rw [decide_eq_false h1]; exact rfl
    have e1 : (k == 1) = false := by simp; omega
    have e2 : (k == 2) = false := by simp; omega
    have e3 : (k == 3) = false := by simp; omega
    have e4 : (k == 4) = false := by simp; omega
    generalize sca k = R at *
    clear h
    go_enter Tryz.func69, Tryz.ntmps69
    go_wp2
    go_ret
    exact ⟨by rw [HV.out]; rfl, below_alloc _ _⟩
def kyP (k : Int) (i : Nat) : Bool := decide (k = 6) && decide (i % 2 = 0)
theorem kyPlace_any {k : Int} (i : Nat) (hi : i ≤ 9223372036854775807) : Calls Tryz.prog 70 #[.int .i64 k, .int .i64 (i : Int)] w fun e w' => e = .returned (.bool (kyP k i)) ∧ w = w' := by
  have HV : Hid (kyP k i = (decide (k = 6) && decide (i % 2 = 0))) := rfl
  generalize kyP k i = R at *
  by_cases h6 : k = 6
  · subst h6
    go_enter Tryz.func70, Tryz.ntmps70
    go_wp2
    go_ret
    refine ⟨?_, rfl⟩
    refine congrArg (fun q => Ending.returned (.bool q)) ?_
    rw [HV.out, Bool.eq_iff_iff]
    simp
    omega
  · have e6 : (k == 6) = false := by simpa using h6
    go_enter Tryz.func70, Tryz.ntmps70
    go_wp2
    go_ret
    exact ⟨by rw [HV.out, decide_eq_false h6]; rfl, rfl⟩
/-- may a node be alone? -/
def rAl (k : Int) (x : Ln) : Bool := rgh 1 ⟨k, x, [], []⟩
theorem leafV {k : Int} {x : Ln} (hk : i64 k) (hx : x.length ≤ 9223372036854775807) : TrV w 1 (.agg #[.int .i64 k, .string (mk x), .string ⟨#[]⟩, .slice none 0 0]) ⟨k, x, [], []⟩ :=
  ⟨none, 0, 0, rfl, rfl, Nat.le_refl _, Nat.zero_le _, ⟨hk.1, hk.2, hx, Nat.zero_le _⟩, fun h => absurd h (Nat.lt_irrefl _)⟩
theorem alone_any {ad : Option Addr} {len cap : Nat} {k : Int} {x : Ln} (hk : i64 k) (hx : x.length ≤ 2147483648) (hT : Tb w) : Calls Tryz.prog 48 #[nv k x ad len cap] w fun e w' => e = .returned (.bool (rAl k x)) ∧ Below w.heap.size w w' := by
  have b1 := below_alloc w (.cells #[.int .i64 k, .string (mk x), .slice ad len cap] 47)
  have HC : Hid (Calls Tryz.prog 24 #[.agg #[.int .i64 k, .string (mk x), .string ⟨#[]⟩, .slice none 0 0]] (w.alloc (.cells #[.int .i64 k, .string (mk x), .slice ad len cap] 47)) fun e w' => e = .returned (.bool (rAl k x)) ∧ Hid (Below w.heap.size w w')) :=
    (right_big (d := 1) (t := ⟨k, x, [], []⟩) ⟨hx, Nat.zero_le _, fun i hi => absurd hi (Nat.not_lt_zero _)⟩ (leafV hk (by omega)) (hT.later b1)).mono (fun e w' h => ⟨h.1, b1.trans (h.2.mono b1.size)⟩)
  generalize rAl k x = R at *
  clear hT b1
  go_enter Tryz.func48, Tryz.ntmps48
  go_wp2_with (go_at_call 24; refine HC.out.mono ?_; rintro e w1 ⟨rfl, H1⟩)
  go_ret
  exact ⟨rfl, H1.out⟩
end Go.Proofs.YtaphijgbebhdlaaGreatDoor.Grp
end

section
/- Package graph's rightKids, by its contract. -/
namespace Go.Proofs.YtaphijgbebhdlaaGreatDoor.Grp
open Utf Rws Pln Flw
open Go.RowKit
set_option linter.unusedSimpArgs false
set_option linter.unusedVariables false
set_option maxRecDepth 100000
set_option maxHeartbeats 4000000

/-- may the Kids be, of these places and kinds? -/
def kdOk (ns : List Nd) (k : Int) : Nat → List Int → Bool
  | _, [] => true
  | i, a :: t => isP ns.length a && (!kyP k i || sca (ns.getD a.toNat nd0).kind) && kdOk ns k (i + 1) t
def rKd (ns : List Nd) (k : Int) (l : List Int) : Bool := !(sca k && decide (0 < l.length)) && !(decide (k = 6) && decide (l.length % 2 ≠ 0)) && kdOk ns k 0 l
theorem kdOk_at (ns : List Nd) (k : Int) (j : Nat) (l : List Int) (h : j < l.length) : kdOk ns k j (l.drop j) = (isP ns.length (l.getD j 0) && (!kyP k j || sca (ns.getD (l.getD j 0).toNat nd0).kind) && kdOk ns k (j + 1) (l.drop (j + 1))) := by
  rw [List.drop_eq_getElem_cons h, List.getD_eq_getElem?_getD, List.getElem?_eq_getElem h]
  rfl
/-- the boxes of a graph and of a node -/
structure S2 (w0 w : World) (K0 K1 : Nat) (g0 g1 n0 n1 n2 : Value) : Prop where
  g : Bx w K0 #[g0, g1] 24
  n : Bx w K1 #[n0, n1, n2] 47
  bl : Below w0.heap.size w0 w
theorem S2.later {w0 w w1 : World} {K0 K1 : Nat} {g0 g1 n0 n1 n2 : Value} (h : S2 w0 w K0 K1 g0 g1 n0 n1 n2) (hb : Below w.heap.size w w1) : S2 w0 w1 K0 K1 g0 g1 n0 n1 n2 := ⟨h.g.later hb, h.n.later hb, h.bl.trans (hb.mono h.bl.size)⟩
theorem S2.c {w0 w : World} {K0 K1 : Nat} {g0 g1 n0 n1 n2 : Value} (h : S2 w0 w K0 K1 g0 g1 n0 n1 n2) : w.cell? ⟨K0, 0, none⟩ = some g0 ∧ w.cell? ⟨K0, 1, none⟩ = some g1 ∧ w.cell? ⟨K1, 0, none⟩ = some n0 ∧ w.cell? ⟨K1, 1, none⟩ = some n1 ∧ w.cell? ⟨K1, 2, none⟩ = some n2 := ⟨h.g.c2.1, h.g.c2.2, h.n.c3.1, h.n.c3.2.1, h.n.c3.2.2⟩
theorem rightKids_any {w : World} {ad kad : Option Addr} {len cap klen kcap : Nat} {r k : Int} {x : Ln} {ns : List Nd} {l : List Int} (hlen : len ≤ 9223372036854775807) (hkl : klen ≤ 9223372036854775807) (hN : NAt w ad len ns) (hI : IAt w kad klen l) :
    Calls Tryz.prog 49 #[gv ad len cap r, nv k x kad klen kcap] w fun e w' => e = .returned (.bool (rKd ns k l)) ∧ Below w.heap.size w w' := by
  obtain ⟨q, HQ⟩ : ∃ q, Hid (q = rKd ns k l) := ⟨_, rfl⟩
  rw [← HQ.out]
  have HN : Hid (NAt w ad len ns) := hN
  have HI : Hid (IAt w kad klen l) := hI
  clear hN hI
  have h0 : S2 w ((w.alloc (.cells #[.slice ad len cap, .int .i64 r] 24)).alloc (.cells #[.int .i64 k, .string (mk x), .slice kad klen kcap] 47)) w.heap.size (w.heap.size + 1) (.slice ad len cap) (.int .i64 r) (.int .i64 k) (.string (mk x)) (.slice kad klen kcap) := by
    have b1 := below_alloc w (.cells #[.slice ad len cap, .int .i64 r] 24)
    have s1 : (w.alloc (.cells #[.slice ad len cap, .int .i64 r] 24)).heap.size = w.heap.size + 1 := World.size_alloc _ _
    have b2 := below_alloc (w.alloc (.cells #[.slice ad len cap, .int .i64 r] 24)) (.cells #[.int .i64 k, .string (mk x), .slice kad klen kcap] 47)
    have n2 := Bx.new (w.alloc (.cells #[.slice ad len cap, .int .i64 r] 24)) #[.int .i64 k, .string (mk x), .slice kad klen kcap] 47
    rw [s1] at n2
    exact ⟨(Bx.new w _ _).later b2, n2, b1.trans (b2.mono b1.size)⟩
  go_enter Tryz.func49, Tryz.ntmps49
  go_wp2_with fail
  generalize ((w.alloc (.cells #[.slice ad len cap, .int .i64 r] 24)).alloc (.cells #[.int .i64 k, .string (mk x), .slice kad klen kcap] 47)) = W0 at h0 ⊢
  generalize w.heap.size + 1 = K1 at h0 ⊢
  generalize w.heap.size = K0 at h0 ⊢
  refine (isScalar_any).mono ?_
  rintro e w1 ⟨rfl, hb1⟩
  have h1 := h0.later hb1
  clear h0 hb1
  obtain ⟨c0, c1, c2, c3, c4⟩ := h1.c
  have HL : Hid (klen = l.length) := HI.out.1
  have HS : Hid (S2 w w1 K0 K1 (.slice ad len cap) (.int .i64 r) (.int .i64 k) (.string (mk x)) (.slice kad klen kcap)) := h1
  clear h1
  cases hs : sca k
  case' true =>
    have hk6 : (k == 6) = false := by
      unfold sca at hs
      simp only [Bool.and_eq_true, decide_eq_true_eq] at hs
      simp; omega
    by_cases hp : 0 < klen
    · have HQ2 : Hid (q = false) := by
        rw [HQ.out, rKd, hs, ← HL.out, decide_eq_true hp]; exact rfl
      go_wp2
      go_ret
      exact ⟨by rw [HQ2.out]; rfl, HS.out.bl⟩
    have HQ2 : Hid (q = kdOk ns k 0 l) := by
      have e6 : ¬ k = 6 := by simpa using hk6
      show _ = _
      rw [HQ.out, rKd, hs, ← HL.out, decide_eq_false hp, decide_eq_false e6]; rfl
    go_upto_region 3 with fail
    clear hp
  case' false =>
    by_cases h6 : k = 6
    case' neg =>
      have hk6 : (k == 6) = false := by simpa using h6
      have HQ2 : Hid (q = kdOk ns k 0 l) := by
        show _ = _
        rw [HQ.out, rKd, hs, decide_eq_false h6]; rfl
      go_upto_region 3 with fail
    case' pos =>
      have hk6 : (k == 6) = true := by rw [h6]; rfl
      have H6 : Hid (k = 6) := h6
      clear h6
      by_cases hm : klen % 2 = 0
      case' neg =>
        have HQ2 : Hid (q = false) := by
          show _ = _
          rw [HQ.out, rKd, hs, ← HL.out, decide_eq_true H6.out, decide_eq_true (show klen % 2 ≠ 0 from hm)]; rfl
        have hm' : (((klen : Int) % 2) != 0) = true := by simp; omega
        go_wp2
        go_ret
        exact ⟨by rw [HQ2.out]; rfl, HS.out.bl⟩
      case' pos =>
        have HQ2 : Hid (q = kdOk ns k 0 l) := by
          show _ = _
          rw [HQ.out, rKd, hs, ← HL.out, decide_eq_true H6.out, decide_eq_false (show ¬ klen % 2 ≠ 0 from fun h => h hm)]; rfl
        have hm' : (((klen : Int) % 2) != 0) = false := by simp; omega
        go_upto_region 3 with fail
  all_goals
    clear HQ hs hk6
    go_wp2_with fail
    clear c0 c1 c2 c3 c4
    go_loopw [30] (fun i wr => ∃ j : Nat, j ≤ klen ∧ i = .int .i64 j ∧ Hid (S2 w wr K0 K1 (.slice ad len cap) (.int .i64 r) (.int .i64 k) (.string (mk x)) (.slice kad klen kcap)) ∧ Hid (q = kdOk ns k j (l.drop j))) (fun i _ => klen - (intOf i).toNat)
    case atStart => exact ⟨0, Nat.zero_le _, rfl, HS, HQ2⟩
    case round =>
      obtain ⟨j, hj, rfl, HR, HJ⟩ := hrel
      clear HS HQ2
      by_cases hlt : j < klen
      · obtain ⟨b, off, rfl, hb, hc⟩ := HI.out.2 (by omega)
        have x0 := (HR.out.bl.cell (p := ⟨b, off + j, none⟩) hb).trans (hc j hlt).2
        have HJ2 : Hid (q = (isP ns.length (l.getD j 0) && (!kyP k j || sca (ns.getD (l.getD j 0).toNat nd0).kind) && kdOk ns k (j + 1) (l.drop (j + 1)))) := HJ.out.trans (kdOk_at ns k j l (by have := HL.out; omega))
        have HA := (hc j hlt).1
        generalize l.getD j 0 = a at *
        clear HJ hc
        rw [← HN.out.1] at HJ2
        obtain ⟨c0, c1, c2, c3, c4⟩ := HR.out.c
        have HP : Hid (Calls Tryz.prog 47 #[gv ad len cap r, .int .i64 a] wr fun e w' => e = .returned (.bool (isP len a)) ∧ Hid (S2 w w' K0 K1 (.slice ad len cap) (.int .i64 r) (.int .i64 k) (.string (mk x)) (.slice (some ⟨b, off, none⟩) klen kcap)) ∧ w'.cell? ⟨K0, 0, none⟩ = some (.slice ad len cap) ∧ w'.cell? ⟨K0, 1, none⟩ = some (.int .i64 r) ∧ w'.cell? ⟨K1, 0, none⟩ = some (.int .i64 k) ∧ w'.cell? ⟨K1, 1, none⟩ = some (.string (mk x)) ∧ w'.cell? ⟨K1, 2, none⟩ = some (.slice (some ⟨b, off, none⟩) klen kcap)) :=
          (isPlace_any hlen).mono (fun e w' h => ⟨h.1, HR.out.later h.2, (HR.out.later h.2).c⟩)
        have HK := fun w' : World => kyPlace_any (w := w') (k := k) j (by omega)
        cases hp : isP len a
        · rw [hp] at HP HJ2
          go_wp2_with (go_at_call 47; refine HP.out.mono ?_; rintro e w2 ⟨rfl, HS2, d0, d1, d2, d3, d4⟩)
          go_ret
          exact ⟨by rw [HJ2.out]; rfl, HS2.out.bl⟩
        rw [hp] at HP HJ2
        obtain ⟨m, rfl⟩ : ∃ m : Nat, a = (m : Int) := by
          unfold isP at hp
          simp only [Bool.and_eq_true, decide_eq_true_eq] at hp
          exact ⟨a.toNat, by omega⟩
        have hm : m < len := by
          unfold isP at hp
          simp only [Bool.and_eq_true, decide_eq_true_eq] at hp
          omega
        clear hp
        cases hk : kyP k j
        · have HK0 : Hid (∀ w', Calls Tryz.prog 70 #[.int .i64 k, .int .i64 (j : Int)] w' fun e w'' => e = .returned (.bool false) ∧ w' = w'') := fun w' => by have := HK w'; rw [hk] at this; exact this
          clear HK
          rw [hk] at HJ2
          go_wp2_with (first | (go_at_call 47; refine HP.out.mono ?_; rintro e w2 ⟨rfl, HS2, d0, d1, d2, d3, d4⟩) | (go_at_call 70; refine (HK0.out _).mono ?_; rintro e w3 ⟨rfl, rfl⟩))
          go_roundw
          case rel => exact ⟨j + 1, by omega, by go_num, HS2, by rw [HJ2.out]; exact rfl⟩
          case measure => simp [intOf]; omega
        · have HK0 : Hid (∀ w', Calls Tryz.prog 70 #[.int .i64 k, .int .i64 (j : Int)] w' fun e w'' => e = .returned (.bool true) ∧ w' = w'') := fun w' => by have := HK w'; rw [hk] at this; exact this
          clear HK
          obtain ⟨b', off', rfl, hb', hc'⟩ := HN.out.2 (by omega)
          obtain ⟨pad, plen, pcap, _, _, _, _, _, y0, y1, y2⟩ := hc' m hm
          rw [hk, Int.toNat_natCast] at HJ2
          generalize ns.getD m nd0 = nd at *
          have HY : Hid (∀ w', Below w.heap.size w w' → w'.cell? ⟨b', off' + m * 3, none⟩ = some (.int .i64 nd.kind) ∧ w'.cell? ⟨b', off' + m * 3 + 1, none⟩ = some (.string (mk nd.text)) ∧ w'.cell? ⟨b', off' + m * 3 + 2, none⟩ = some (.slice pad plen pcap)) := fun w' hw =>
            ⟨(hw.cell (p := ⟨b', off' + m * 3, none⟩) hb').trans y0, (hw.cell (p := ⟨b', off' + m * 3 + 1, none⟩) hb').trans y1, (hw.cell (p := ⟨b', off' + m * 3 + 2, none⟩) hb').trans y2⟩
          clear hc' y0 y1 y2
          have HC : Hid (∀ w', Hid (S2 w w' K0 K1 (.slice (some ⟨b', off', none⟩) len cap) (.int .i64 r) (.int .i64 k) (.string (mk x)) (.slice (some ⟨b, off, none⟩) klen kcap)) → Calls Tryz.prog 69 #[nv nd.kind nd.text pad plen pcap] w' fun e w'' => e = .returned (.bool (sca nd.kind)) ∧ Hid (S2 w w'' K0 K1 (.slice (some ⟨b', off', none⟩) len cap) (.int .i64 r) (.int .i64 k) (.string (mk x)) (.slice (some ⟨b, off, none⟩) klen kcap))) :=
            fun w' h => (isScalar_any).mono (fun e w'' q => ⟨q.1, h.out.later q.2⟩)
          generalize nd.kind = nk at *
          cases hsk : sca nk
          · rw [hsk] at HC HJ2
            go_wp2_with (first | (go_at_call 47; refine HP.out.mono ?_; rintro e w2 ⟨rfl, HS2, d0, d1, d2, d3, d4⟩; obtain ⟨z0, z1, z2⟩ := HY.out _ HS2.out.bl) | (go_at_call 70; refine (HK0.out _).mono ?_; rintro e w3 ⟨rfl, rfl⟩) | (go_at_call 69; refine (HC.out _ HS2).mono ?_; rintro e w4 ⟨rfl, HS4⟩))
            go_ret
            exact ⟨by rw [HJ2.out]; rfl, HS4.out.bl⟩
          · rw [hsk] at HC HJ2
            go_wp2_with (first | (go_at_call 47; refine HP.out.mono ?_; rintro e w2 ⟨rfl, HS2, d0, d1, d2, d3, d4⟩; obtain ⟨z0, z1, z2⟩ := HY.out _ HS2.out.bl) | (go_at_call 70; refine (HK0.out _).mono ?_; rintro e w3 ⟨rfl, rfl⟩) | (go_at_call 69; refine (HC.out _ HS2).mono ?_; rintro e w4 ⟨rfl, HS4⟩))
            go_roundw
            case rel => exact ⟨j + 1, by omega, by go_num, HS4, by rw [HJ2.out]; exact rfl⟩
            case measure => simp [intOf]; omega
      · have HE : Hid (q = true) := by
          have e : l.drop j = [] := List.drop_of_length_le (by have := HL.out; omega)
          rw [HJ.out, e]
          exact rfl
        go_wp2
        go_ret
        exact ⟨by rw [HE.out]; rfl, HR.out.bl⟩
end Go.Proofs.YtaphijgbebhdlaaGreatDoor.Grp
end
