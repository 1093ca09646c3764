/- Several texts as one: GraphPlain, GraphPlain2. -/
section
/- Graphs gone over in order, as plain functions: what is reached, how deep, and that the order is the same under other places. -/
namespace Go.Proofs.YtaphijgbebhdlaaGreatDoor.Grp
set_option linter.unusedSimpArgs false
set_option linter.unusedVariables false

/-- goes over what is to be gone to (a place and its depth, the next one first): the places in order, and the greatest depth -/
def wk (g : Nat → List Nat) : Nat → List (Nat × Nat) → List Nat → Nat → List Nat × Nat
  | 0, _, out, m => (out, m)
  | _ + 1, [], out, m => (out, m)
  | n + 1, (a, d) :: t, out, m => if a ∈ out then wk g n t out m else wk g n ((g a).map (fun b => (b, d + 1)) ++ t) (out ++ [a]) (max m d)
/-- the same of other places -/
theorem wk_map {g g' : Nat → List Nat} {f : Nat → Nat} {S : Nat → Prop} (hc : ∀ a, S a → ∀ b ∈ g a, S b) (hi : ∀ a b, S a → S b → f a = f b → a = b) (hh : ∀ a, S a → g' (f a) = (g a).map f) :
    ∀ (n : Nat) (todo : List (Nat × Nat)) (out : List Nat) (m : Nat), (∀ p ∈ todo, S p.1) → (∀ a ∈ out, S a) →
      wk g' n (todo.map fun p => (f p.1, p.2)) (out.map f) m = ((wk g n todo out m).1.map f, (wk g n todo out m).2)
  | 0, _, _, _, _, _ => rfl
  | n + 1, [], _, _, _, _ => rfl
  | n + 1, (a, d) :: t, out, m, ht, ho => by
    have ha : S a := ht (a, d) (by simp)
    have ht' : ∀ p ∈ t, S p.1 := fun p hp => ht p (by simp [hp])
    have hm : f a ∈ out.map f ↔ a ∈ out := by
      constructor
      · intro h
        obtain ⟨b, hb, e⟩ := List.mem_map.1 h
        rw [← hi b a (ho b hb) ha e]
        exact hb
      · exact fun h => List.mem_map_of_mem h
    rw [List.map_cons, wk, wk]
    by_cases h : a ∈ out
    · rw [if_pos h, if_pos (hm.2 h)]
      exact wk_map hc hi hh n t out m ht' ho
    · rw [if_neg h, if_neg (fun q => h (hm.1 q)), hh a ha]
      have e : ((g a).map f).map (fun b => (b, d + 1)) ++ t.map (fun p => (f p.1, p.2)) = ((g a).map (fun b => (b, d + 1)) ++ t).map (fun p => (f p.1, p.2)) := by
        rw [List.map_append, List.map_map, List.map_map]; rfl
      rw [e, show out.map f ++ [f a] = (out ++ [a]).map f by rw [List.map_append]; rfl]
      refine wk_map hc hi hh n _ _ _ (fun p hp => ?_) (fun b hb => ?_)
      · rcases List.mem_append.1 hp with hp | hp
        · obtain ⟨b, hb, rfl⟩ := List.mem_map.1 hp
          exact hc a ha b hb
        · exact ht' p hp
      · rcases List.mem_append.1 hb with hb | hb
        · exact ho b hb
        · rw [List.mem_singleton.1 hb]; exact ha
/-- what comes lies in every set that is closed -/
theorem wk_in {g : Nat → List Nat} {S : Nat → Prop} (hc : ∀ a, S a → ∀ b ∈ g a, S b) : ∀ (n : Nat) (todo : List (Nat × Nat)) (out : List Nat) (m : Nat), (∀ p ∈ todo, S p.1) → (∀ a ∈ out, S a) → ∀ a ∈ (wk g n todo out m).1, S a
  | 0, _, _, _, _, ho => ho
  | n + 1, [], _, _, _, ho => ho
  | n + 1, (a, d) :: t, out, m, ht, ho => by
    have ha : S a := ht (a, d) (by simp)
    have ht' : ∀ p ∈ t, S p.1 := fun p hp => ht p (by simp [hp])
    rw [wk]
    by_cases h : a ∈ out
    · rw [if_pos h]; exact wk_in hc n t out m ht' ho
    · rw [if_neg h]
      refine wk_in hc n _ _ _ (fun p hp => ?_) (fun b hb => ?_)
      · rcases List.mem_append.1 hp with hp | hp
        · obtain ⟨b, hb, rfl⟩ := List.mem_map.1 hp
          exact hc a ha b hb
        · exact ht' p hp
      · rcases List.mem_append.1 hb with hb | hb
        · exact ho b hb
        · rw [List.mem_singleton.1 hb]; exact ha
/-- each comes once -/
theorem wk_once {g : Nat → List Nat} : ∀ (n : Nat) (todo : List (Nat × Nat)) (out : List Nat) (m : Nat), out.Nodup → (wk g n todo out m).1.Nodup
  | 0, _, _, _, h => h
  | n + 1, [], _, _, h => h
  | n + 1, (a, d) :: t, out, m, hn => by
    rw [wk]
    by_cases h : a ∈ out
    · rw [if_pos h]; exact wk_once n t out m hn
    · rw [if_neg h]
      refine wk_once n _ _ _ ?_
      rw [List.nodup_append]
      exact ⟨hn, by simp, fun x hx y hy => by rw [List.mem_singleton.1 hy]; rintro rfl; exact h hx⟩
/-- how much there is to be gone to at the most, among the places below N -/
def mea (g : Nat → List Nat) (N : Nat) (todo : List (Nat × Nat)) (out : List Nat) : Nat := todo.length + (((List.range N).filter (fun a => decide (a ∉ out))).map (fun a => (g a).length)).sum
theorem filter_less (g : Nat → List Nat) (out : List Nat) (a : Nat) (h : a ∉ out) : ∀ (l : List Nat), l.Nodup → a ∈ l →
    ((l.filter (fun b => decide (b ∉ out ++ [a]))).map (fun b => (g b).length)).sum + (g a).length = ((l.filter (fun b => decide (b ∉ out))).map (fun b => (g b).length)).sum
  | [], _, hm => absurd hm (by simp)
  | b :: t, hn, hm => by
    have hn' := List.nodup_cons.1 hn
    by_cases e : b = a
    · subst e
      have e1 : t.filter (fun c => decide (c ∉ out ++ [b])) = t.filter (fun c => decide (c ∉ out)) := by
        apply List.filter_congr
        intro c hc
        have : c ≠ b := fun q => hn'.1 (q ▸ hc)
        simp [this]
      rw [List.filter_cons, List.filter_cons, if_neg (by simp), if_pos (by simpa using h), e1, List.map_cons, List.sum_cons]
      omega
    · have hm' : a ∈ t := by
        rcases List.mem_cons.1 hm with q | q
        · exact absurd q.symm e
        · exact q
      have ih := filter_less g out a h t hn'.2 hm'
      rw [List.filter_cons, List.filter_cons]
      by_cases hb : b ∈ out
      · rw [if_neg (by simp [hb]), if_neg (by simp [hb])]
        exact ih
      · rw [if_pos (by simp [hb, e]), if_pos (by simp [hb]), List.map_cons, List.map_cons, List.sum_cons, List.sum_cons]
        omega
theorem mea_step (g : Nat → List Nat) (N : Nat) (a d : Nat) (t : List (Nat × Nat)) (out : List Nat) (h : a ∉ out) (ha : a < N) : mea g N ((g a).map (fun b => (b, d + 1)) ++ t) (out ++ [a]) + 1 = mea g N ((a, d) :: t) out := by
  have h1 := filter_less g out a h (List.range N) List.nodup_range (List.mem_range.2 ha)
  unfold mea
  rw [List.length_append, List.length_map, List.length_cons]
  omega
/-- with fuel enough nothing is left to be gone to: more fuel turns nothing, and all that is reached is there -/
theorem wk_done {g : Nat → List Nat} {N : Nat} (hg : ∀ a, a < N → ∀ b ∈ g a, b < N) : ∀ (n : Nat) (todo : List (Nat × Nat)) (out : List Nat) (m : Nat), (∀ p ∈ todo, p.1 < N) → mea g N todo out < n →
    (∀ k, wk g (n + k) todo out m = wk g n todo out m) ∧ (∀ p ∈ todo, p.1 ∈ (wk g n todo out m).1) ∧ (∀ a ∈ out, a ∈ (wk g n todo out m).1) ∧ (∀ a ∈ (wk g n todo out m).1, a ∉ out → ∀ b ∈ g a, b ∈ (wk g n todo out m).1)
  | 0, _, _, _, _, h => absurd h (Nat.not_lt_zero _)
  | n + 1, [], out, m, _, _ => by
    refine ⟨fun k => ?_, fun p hp => absurd hp (by simp), fun a ha => ha, fun a ha hn => absurd ha hn⟩
    rw [show n + 1 + k = (n + k) + 1 by omega]
    rfl
  | n + 1, (a, d) :: t, out, m, ht, h => by
    have ha : a < N := ht (a, d) (by simp)
    have ht' : ∀ p ∈ t, p.1 < N := fun p hp => ht p (by simp [hp])
    by_cases hm : a ∈ out
    · have hl : mea g N t out < n := by unfold mea at h ⊢; rw [List.length_cons] at h; omega
      obtain ⟨i1, i2, i3, i4⟩ := wk_done hg n t out m ht' hl
      have e : wk g (n + 1) ((a, d) :: t) out m = wk g n t out m := by rw [wk, if_pos hm]
      rw [e]
      refine ⟨fun k => ?_, fun p hp => ?_, i3, i4⟩
      · rw [show n + 1 + k = (n + k) + 1 by omega, wk, if_pos hm]
        exact i1 k
      · rcases List.mem_cons.1 hp with rfl | hp
        · exact i3 _ hm
        · exact i2 p hp
    · have hl : mea g N ((g a).map (fun b => (b, d + 1)) ++ t) (out ++ [a]) < n := by
        have := mea_step g N a d t out hm ha
        omega
      have ht2 : ∀ p ∈ (g a).map (fun b => (b, d + 1)) ++ t, p.1 < N := fun p hp => by
        rcases List.mem_append.1 hp with hp | hp
        · obtain ⟨b, hb, rfl⟩ := List.mem_map.1 hp
          exact hg a ha b hb
        · exact ht' p hp
      obtain ⟨i1, i2, i3, i4⟩ := wk_done hg n _ (out ++ [a]) (max m d) ht2 hl
      have e : wk g (n + 1) ((a, d) :: t) out m = wk g n ((g a).map (fun b => (b, d + 1)) ++ t) (out ++ [a]) (max m d) := by rw [wk, if_neg hm]
      rw [e]
      refine ⟨fun k => ?_, fun p hp => ?_, fun b hb => i3 b (by simp [hb]), fun b hb hn c hc => ?_⟩
      · rw [show n + 1 + k = (n + k) + 1 by omega, wk, if_neg hm]
        exact i1 k
      · rcases List.mem_cons.1 hp with rfl | hp
        · exact i3 _ (by simp)
        · exact i2 p (by simp [hp])
      · by_cases q : b = a
        · subst q
          exact i2 (c, d + 1) (List.mem_append_left _ (List.mem_map_of_mem hc))
        · exact i4 b hb (by simp [hn, q]) c hc
/-- the fuel turns nothing once there is enough of it -/
theorem wk_fuel {g : Nat → List Nat} {N : Nat} (hg : ∀ a, a < N → ∀ b ∈ g a, b < N) {n n' : Nat} {todo : List (Nat × Nat)} {out : List Nat} {m : Nat} (ht : ∀ p ∈ todo, p.1 < N) (h : mea g N todo out < n) (h' : mea g N todo out < n') : wk g n todo out m = wk g n' todo out m := by
  rcases Nat.le_total n n' with q | q
  · have := (wk_done hg n todo out m ht h).1 (n' - n)
    rw [show n + (n' - n) = n' by omega] at this
    exact this.symm
  · have := (wk_done hg n' todo out m ht h').1 (n - n')
    rw [show n' + (n - n') = n by omega] at this
    exact this
/-- what came stays in front -/
theorem wk_front {g : Nat → List Nat} : ∀ (n : Nat) (todo : List (Nat × Nat)) (out : List Nat) (m : Nat), ∃ r, (wk g n todo out m).1 = out ++ r
  | 0, _, out, _ => ⟨[], by rw [wk, List.append_nil]⟩
  | n + 1, [], out, _ => ⟨[], by rw [wk, List.append_nil]⟩
  | n + 1, (a, d) :: t, out, m => by
    rw [wk]
    by_cases h : a ∈ out
    · rw [if_pos h]; exact wk_front n t out m
    · rw [if_neg h]
      obtain ⟨r, e⟩ := wk_front (g := g) n ((g a).map (fun b => (b, d + 1)) ++ t) (out ++ [a]) (max m d)
      exact ⟨a :: r, by rw [e, List.append_assoc]; rfl⟩
/-- the order from a place, and the depth -/
def ord (g : Nat → List Nat) (n r : Nat) : List Nat := (wk g n [(r, 1)] [] 0).1
def dep (g : Nat → List Nat) (n r : Nat) : Nat := (wk g n [(r, 1)] [] 0).2
/-- the Kids at the places at which they come -/
def can (g : Nat → List Nat) (o : List Nat) (i : Nat) : List Nat := (g (o.getD i 0)).map (fun b => o.idxOf b)
theorem ord_nodup (g : Nat → List Nat) (n r : Nat) : (ord g n r).Nodup := wk_once n _ _ _ List.nodup_nil
theorem ord_head (g : Nat → List Nat) (n r : Nat) : ∃ t, ord g (n + 1) r = r :: t := by
  unfold ord
  rw [wk, if_neg (by simp)]
  obtain ⟨q, e⟩ := wk_front (g := g) n ((g r).map (fun b => (b, 1 + 1)) ++ []) ([] ++ [r]) (max 0 1)
  exact ⟨q, by rw [e]; rfl⟩
theorem idx_range {o : List Nat} (h : o.Nodup) : o.map (fun b => o.idxOf b) = List.range o.length := by
  apply List.ext_getElem
  · simp
  · intro i h1 h2
    have hi : i < o.length := by simpa using h1
    simp only [List.getElem_map, List.getElem_range]
    exact h.idxOf_getElem i hi
theorem idx_get {o : List Nat} {a : Nat} (h : a ∈ o) : o.getD (o.idxOf a) 0 = a := by
  have hl := List.idxOf_lt_length_of_mem h
  rw [List.getD_eq_getElem?_getD, List.getElem?_eq_getElem hl, Option.getD_some]
  exact List.getElem_idxOf hl
theorem idx_inj {o : List Nat} {a b : Nat} (ha : a ∈ o) (hb : b ∈ o) (e : o.idxOf a = o.idxOf b) : a = b := by
  rw [← idx_get ha, ← idx_get hb, e]
/-- what lies in order is closed -/
theorem ord_closed {g : Nat → List Nat} {N : Nat} (hg : ∀ a, a < N → ∀ b ∈ g a, b < N) {n r : Nat} (hr : r < N) (hn : mea g N [(r, 1)] [] < n) : ∀ a ∈ ord g n r, ∀ b ∈ g a, b ∈ ord g n r :=
  fun a ha b hb => (wk_done hg n [(r, 1)] [] 0 (by simpa using hr) hn).2.2.2 a ha (by simp) b hb
theorem ord_lt {g : Nat → List Nat} {N : Nat} (hg : ∀ a, a < N → ∀ b ∈ g a, b < N) {n r : Nat} (hr : r < N) : ∀ a ∈ ord g n r, a < N :=
  wk_in (S := fun a => a < N) hg n _ _ _ (by simpa using hr) (by simp)
/-- the Canon of a graph lies in the order of its places, and is as deep -/
theorem can_ord {g : Nat → List Nat} {N : Nat} (hg : ∀ a, a < N → ∀ b ∈ g a, b < N) {n r : Nat} (hr : r < N) (hn : mea g N [(r, 1)] [] < n) :
    ord (can g (ord g n r)) n 0 = List.range (ord g n r).length ∧ dep (can g (ord g n r)) n 0 = dep g n r := by
  have hcl := ord_closed hg hr hn
  obtain ⟨k, rfl⟩ : ∃ k, n = k + 1 := ⟨n - 1, by omega⟩
  obtain ⟨t, et⟩ := ord_head g k r
  have hr0 : (ord g (k + 1) r).idxOf r = 0 := by rw [et, List.idxOf_cons_self]
  have hrm : r ∈ ord g (k + 1) r := by rw [et]; simp
  have h := wk_map (g := g) (g' := can g (ord g (k + 1) r)) (f := fun a => (ord g (k + 1) r).idxOf a) (S := fun a => a ∈ ord g (k + 1) r) hcl
    (fun a b ha hb e => idx_inj ha hb e) (fun a ha => by unfold can; rw [idx_get ha]) (k + 1) [(r, 1)] [] 0 (by simpa using hrm) (by simp)
  have h' : wk (can g (ord g (k + 1) r)) (k + 1) [(0, 1)] [] 0 = ((ord g (k + 1) r).map (fun a => (ord g (k + 1) r).idxOf a), dep g (k + 1) r) := by
    simp only [List.map_cons, List.map_nil, hr0] at h
    exact h
  constructor
  · have := congrArg Prod.fst h'
    rw [idx_range (ord_nodup g (k + 1) r)] at this
    exact this
  · show (wk _ _ _ _ _).2 = _
    rw [h']
theorem idx_rng {N i : Nat} (h : i < N) : (List.range N).idxOf i = i := by
  have hl : i < (List.range N).length := by simpa using h
  have := (List.nodup_range (n := N)).idxOf_getElem i hl
  simpa using this
/-- the Kids of the Canon lie below its length -/
theorem can_lt {g : Nat → List Nat} {N : Nat} (hg : ∀ a, a < N → ∀ b ∈ g a, b < N) {n r : Nat} (hr : r < N) (hn : mea g N [(r, 1)] [] < n) : ∀ i, i < (ord g n r).length → ∀ b ∈ can g (ord g n r) i, b < (ord g n r).length := by
  intro i hi b hb
  obtain ⟨c, hc, rfl⟩ := List.mem_map.1 hb
  refine List.idxOf_lt_length_of_mem (ord_closed hg hr hn _ ?_ c hc)
  rw [List.getD_eq_getElem?_getD, List.getElem?_eq_getElem hi, Option.getD_some]
  exact List.getElem_mem hi
/-- Canon of Canon is Canon -/
theorem can_can {g : Nat → List Nat} {N : Nat} (hg : ∀ a, a < N → ∀ b ∈ g a, b < N) {n r : Nat} (hr : r < N) (hn : mea g N [(r, 1)] [] < n) :
    ∀ i, i < (ord g n r).length → can (can g (ord g n r)) (List.range (ord g n r).length) i = can g (ord g n r) i := by
  intro i hi
  have e : (List.range (ord g n r).length).getD i 0 = i := by
    rw [List.getD_eq_getElem?_getD, List.getElem?_range hi, Option.getD_some]
  rw [can, e]
  conv => rhs; rw [← List.map_id (can g (ord g n r) i)]
  exact List.map_congr_left fun b hb => idx_rng (can_lt hg hr hn i hi b hb)
/-- what is in order of places that are below another length: the fuel of the Canon's own length is enough -/
theorem mea_one (g : Nat → List Nat) (N r : Nat) : mea g N [(r, 1)] [] = 1 + ((List.range N).map (fun a => (g a).length)).sum := by
  unfold mea
  rw [List.filter_eq_self.2 (by simp)]
  rfl
/-- from a place of the Canon: the order is that from the place it stands for, at the places of the Canon, and as deep -/
theorem can_sub {g : Nat → List Nat} {N : Nat} (hg : ∀ a, a < N → ∀ b ∈ g a, b < N) {n r : Nat} (hr : r < N) (hn : mea g N [(r, 1)] [] < n) {a : Nat} (ha : a ∈ ord g n r) (k : Nat) :
    ord (can g (ord g n r)) k ((ord g n r).idxOf a) = (ord g k a).map (fun b => (ord g n r).idxOf b) ∧ dep (can g (ord g n r)) k ((ord g n r).idxOf a) = dep g k a := by
  have h := wk_map (g := g) (g' := can g (ord g n r)) (f := fun a => (ord g n r).idxOf a) (S := fun a => a ∈ ord g n r) (ord_closed hg hr hn)
    (fun a b ha hb e => idx_inj ha hb e) (fun a ha => by unfold can; rw [idx_get ha]) k [(a, 1)] [] 0 (by simpa using ha) (by simp)
  have h' : wk (can g (ord g n r)) k [((ord g n r).idxOf a, 1)] [] 0 = ((ord g k a).map (fun b => (ord g n r).idxOf b), dep g k a) := h
  refine ⟨congrArg Prod.fst h', ?_⟩
  show (wk _ _ _ _ _).2 = _
  rw [h']
theorem idx_map {o p : List Nat} (hi : ∀ a ∈ p, a ∈ o) {b : Nat} (hb : b ∈ o) : (p.map (fun c => o.idxOf c)).idxOf (o.idxOf b) = p.idxOf b := by
  induction p with
  | nil => rfl
  | cons c t ih =>
    rw [List.map_cons, List.idxOf_cons, List.idxOf_cons]
    have hc : c ∈ o := hi c (by simp)
    by_cases e : c = b
    · subst e; simp
    · have e' : o.idxOf c ≠ o.idxOf b := fun q => e (idx_inj hc hb q)
      rw [ih (fun a ha => hi a (by simp [ha])), beq_eq_false_iff_ne.2 e, beq_eq_false_iff_ne.2 e']
/-- Sub of the Canon is Sub -/
theorem can_of {g : Nat → List Nat} {N : Nat} (hg : ∀ a, a < N → ∀ b ∈ g a, b < N) {n r : Nat} (hr : r < N) (hn : mea g N [(r, 1)] [] < n) {a : Nat} (ha : a ∈ ord g n r) {k : Nat} (hk : mea g N [(a, 1)] [] < k) :
    ∀ i, i < (ord g k a).length → can (can g (ord g n r)) (ord (can g (ord g n r)) k ((ord g n r).idxOf a)) i = can g (ord g k a) i := by
  intro i hi
  have hin : ∀ b ∈ ord g k a, b ∈ ord g n r := wk_in (S := fun b => b ∈ ord g n r) (ord_closed hg hr hn) k _ _ _ (by simpa using ha) (by simp)
  have hm : (ord g k a)[i] ∈ ord g k a := List.getElem_mem hi
  rw [(can_sub hg hr hn ha k).1, can]
  have e : ((ord g k a).map (fun b => (ord g n r).idxOf b)).getD i 0 = (ord g n r).idxOf ((ord g k a)[i]) := by
    rw [List.getD_eq_getElem?_getD, List.getElem?_map, List.getElem?_eq_getElem hi]; rfl
  have e2 : (ord g k a).getD i 0 = (ord g k a)[i] := by
    rw [List.getD_eq_getElem?_getD, List.getElem?_eq_getElem hi]; rfl
  rw [e, can, can, idx_get (hin _ hm), e2, List.map_map]
  refine List.map_congr_left fun b hb => ?_
  exact idx_map hin (ord_closed hg hr hn _ (hin _ hm) b hb)
end Go.Proofs.YtaphijgbebhdlaaGreatDoor.Grp
end

section
/- The walk from several places, one behind the other. -/
namespace Go.Proofs.YtaphijgbebhdlaaGreatDoor.Grp
set_option linter.unusedSimpArgs false
set_option linter.unusedVariables false
/-- more places that came: less is left -/
theorem mea_out (g : Nat → List Nat) (N : Nat) (t : List (Nat × Nat)) (out r : List Nat) : mea g N t (out ++ r) ≤ mea g N t out := by
  have key : ∀ l : List Nat, ((l.filter (fun a => decide (a ∉ out ++ r))).map (fun a => (g a).length)).sum ≤ ((l.filter (fun a => decide (a ∉ out))).map (fun a => (g a).length)).sum := by
    intro l
    induction l with
    | nil => simp
    | cons a l ih =>
      rw [List.filter_cons, List.filter_cons]
      by_cases h : a ∈ out
      · rw [if_neg (by simp [h]), if_neg (by simp [h])]; exact ih
      · rw [if_pos (c := (decide (a ∉ out)) = true) (by simp [h])]
        split
        · rw [List.map_cons, List.map_cons, List.sum_cons, List.sum_cons]; omega
        · rw [List.map_cons, List.sum_cons]; omega
  unfold mea
  have := key (List.range N)
  omega
theorem mea_app (g : Nat → List Nat) (N : Nat) (t u : List (Nat × Nat)) (out : List Nat) : mea g N (t ++ u) out = t.length + mea g N u out := by
  unfold mea
  rw [List.length_append]
  omega
/-- what stands behind is gone to behind -/
theorem wk_app {g : Nat → List Nat} {N : Nat} (hg : ∀ a, a < N → ∀ b ∈ g a, b < N) : ∀ (n : Nat) (t u : List (Nat × Nat)) (out : List Nat) (m : Nat), (∀ p ∈ t, p.1 < N) → (∀ p ∈ u, p.1 < N) → mea g N (t ++ u) out < n →
    wk g n (t ++ u) out m = wk g n u (wk g n t out m).1 (wk g n t out m).2
  | 0, _, _, _, _, _, _, h => absurd h (Nat.not_lt_zero _)
  | n + 1, [], u, out, m, _, _, _ => rfl
  | n + 1, (a, d) :: t, u, out, m, ht, hu, h => by
    have ha : a < N := ht (a, d) (by simp)
    have ht' : ∀ p ∈ t, p.1 < N := fun p hp => ht p (by simp [hp])
    rw [List.cons_append]
    by_cases hm : a ∈ out
    · have hl : mea g N (t ++ u) out < n := by unfold mea at h ⊢; rw [List.cons_append, List.length_cons] at h; omega
      have e1 : wk g (n + 1) ((a, d) :: (t ++ u)) out m = wk g n (t ++ u) out m := by rw [wk, if_pos hm]
      have e2 : wk g (n + 1) ((a, d) :: t) out m = wk g n t out m := by rw [wk, if_pos hm]
      rw [e1, e2, wk_app hg n t u out m ht' hu hl]
      obtain ⟨r, hr⟩ := wk_front (g := g) n t out m
      refine wk_fuel hg hu ?_ ?_
      · have h1 := mea_app g N t u out
        have h2 := mea_out g N u out r
        rw [hr]
        omega
      · have h1 := mea_app g N t u out
        have h2 := mea_out g N u out r
        rw [hr]
        omega
    · have hs := mea_step g N a d (t ++ u) out hm ha
      have hl : mea g N ((g a).map (fun b => (b, d + 1)) ++ (t ++ u)) (out ++ [a]) < n := by
        rw [List.cons_append] at h; omega
      have ht2 : ∀ p ∈ (g a).map (fun b => (b, d + 1)) ++ t, p.1 < N := fun p hp => by
        rcases List.mem_append.1 hp with hp | hp
        · obtain ⟨b, hb, rfl⟩ := List.mem_map.1 hp
          exact hg a ha b hb
        · exact ht' p hp
      have e1 : wk g (n + 1) ((a, d) :: (t ++ u)) out m = wk g n ((g a).map (fun b => (b, d + 1)) ++ (t ++ u)) (out ++ [a]) (max m d) := by rw [wk, if_neg hm]
      have e2 : wk g (n + 1) ((a, d) :: t) out m = wk g n ((g a).map (fun b => (b, d + 1)) ++ t) (out ++ [a]) (max m d) := by rw [wk, if_neg hm]
      rw [e1, e2, ← List.append_assoc, wk_app hg n _ u (out ++ [a]) (max m d) ht2 hu (by rw [List.append_assoc]; exact hl)]
      obtain ⟨r, hr⟩ := wk_front (g := g) n ((g a).map (fun b => (b, d + 1)) ++ t) (out ++ [a]) (max m d)
      refine wk_fuel hg hu ?_ ?_
      · have h1 := mea_app g N ((g a).map (fun b => (b, d + 1)) ++ t) u (out ++ [a])
        have h2 := mea_out g N u (out ++ [a]) r
        rw [hr]
        rw [← List.append_assoc] at hl
        omega
      · have h1 := mea_app g N ((g a).map (fun b => (b, d + 1)) ++ t) u (out ++ [a])
        have h2 := mea_out g N u (out ++ [a]) r
        rw [hr]
        rw [← List.append_assoc] at hl
        omega
/-- the fuel that is enough for every walk of a graph from places below N -/
def ful (g : Nat → List Nat) (N : Nat) : Nat := ((List.range N).map (fun a => (g a).length)).sum + 2
theorem mea_ful (g : Nat → List Nat) (N : Nat) (p : Nat × Nat) (out : List Nat) : mea g N [p] out < ful g N := by
  have h := mea_out g N [p] [] out
  rw [List.nil_append] at h
  have h2 := mea_one g N p.1
  have h3 : mea g N [(p.1, 1)] [] = mea g N [p] [] := rfl
  unfold ful
  omega
/-- a place that came turns nothing -/
theorem wk_old {g : Nat → List Nat} {n a d m : Nat} {out : List Nat} (hn : 0 < n) (h : a ∈ out) : wk g n [(a, d)] out m = (out, m) := by
  obtain ⟨k, rfl⟩ : ∃ k, n = k + 1 := ⟨n - 1, by omega⟩
  rw [wk, if_pos h]
  cases k <;> rfl
/-- the Kids, one behind the other -/
def wks (g : Nat → List Nat) (n : Nat) : List Nat → Nat → List Nat × Nat → List Nat × Nat
  | [], _, s => s
  | b :: t, d, s => wks g n t d (wk g n [(b, d)] s.1 s.2)
theorem wks_nil (g : Nat → List Nat) (n d : Nat) (s : List Nat × Nat) : wks g n [] d s = s := rfl
theorem wks_snoc (g : Nat → List Nat) (n d : Nat) : ∀ (l : List Nat) (b : Nat) (s : List Nat × Nat), wks g n (l ++ [b]) d s = wk g n [(b, d)] (wks g n l d s).1 (wks g n l d s).2
  | [], b, s => rfl
  | c :: l, b, s => by rw [List.cons_append, wks, wks_snoc g n d l b, wks]
theorem wks_wk {g : Nat → List Nat} {N : Nat} (hg : ∀ a, a < N → ∀ b ∈ g a, b < N) {n d : Nat} : ∀ (l : List Nat) (out : List Nat) (m : Nat), (∀ b ∈ l, b < N) → mea g N (l.map (fun b => (b, d))) out < n →
    wk g n (l.map (fun b => (b, d))) out m = wks g n l d (out, m)
  | [], out, m, _, h => by
    obtain ⟨k, rfl⟩ : ∃ k, n = k + 1 := ⟨n - 1, by omega⟩
    rfl
  | b :: l, out, m, hl, h => by
    rw [List.map_cons] at h ⊢
    have hb : ∀ p ∈ [(b, d)], p.1 < N := by simpa using hl b (by simp)
    have hu : ∀ p ∈ l.map (fun b => (b, d)), p.1 < N := fun p hp => by
      obtain ⟨c, hc, rfl⟩ := List.mem_map.1 hp
      exact hl c (by simp [hc])
    have e := wk_app hg n [(b, d)] (l.map (fun b => (b, d))) out m hb hu h
    rw [List.singleton_append] at e
    rw [e, wks]
    obtain ⟨r, hr⟩ := wk_front (g := g) n [(b, d)] out m
    have h1 := mea_app g N [(b, d)] (l.map (fun b => (b, d))) out
    have h2 := mea_out g N (l.map (fun b => (b, d))) out r
    rw [List.singleton_append] at h1
    exact wks_wk hg l _ _ (fun c hc => hl c (by simp [hc])) (by rw [hr]; simp only [List.length_singleton] at h1; omega)
/-- one that has not come: it comes, then its Kids -/
theorem wk_new {g : Nat → List Nat} {N : Nat} (hg : ∀ a, a < N → ∀ b ∈ g a, b < N) {n a d m : Nat} {out : List Nat} (ha : a < N) (h : a ∉ out) (hn : mea g N [(a, d)] out < n) :
    wk g n [(a, d)] out m = wks g n (g a) (d + 1) (out ++ [a], max m d) := by
  have hs := mea_step g N a d [] out h ha
  rw [List.append_nil] at hs
  obtain ⟨k, rfl⟩ : ∃ k, n = k + 1 := ⟨n - 1, by omega⟩
  rw [wk, if_neg h, List.append_nil, ← wks_wk hg (g a) (out ++ [a]) (max m d) (hg a ha) (by omega)]
  refine wk_fuel hg (fun p hp => ?_) (by omega) (by omega)
  obtain ⟨c, hc, rfl⟩ := List.mem_map.1 hp
  exact hg a ha c hc
theorem wks_front {g : Nat → List Nat} (n d : Nat) : ∀ (l : List Nat) (s : List Nat × Nat), ∃ r, (wks g n l d s).1 = s.1 ++ r
  | [], s => ⟨[], by rw [wks, List.append_nil]⟩
  | b :: l, s => by
    obtain ⟨r, e⟩ := wk_front (g := g) n [(b, d)] s.1 s.2
    obtain ⟨q, f⟩ := wks_front (g := g) n d l (wk g n [(b, d)] s.1 s.2)
    exact ⟨r ++ q, by rw [wks, f, e, List.append_assoc]⟩
end Go.Proofs.YtaphijgbebhdlaaGreatDoor.Grp
end
