/- Several texts as one: IsoPlain, IsoPlain2, IsoSrt, IsoRis. -/
import Derived.Test.YtcplgjclkjcekaaGreatDoorY09GraphPlain
import Derived.Lib.Bytealg
import Derived.Lib.Small
import Derived.Test.YtcplgjclkjcekaaGreatDoorY15GraphTop
section
/- What is paired, as plain facts: classes of places, and when a relation of places pairs two graphs. -/
namespace Go.Proofs.YtcplgjclkjcekaaGreatDoor.Alk
set_option linter.unusedSimpArgs false
set_option linter.unusedVariables false
variable {L : Type}

/-- a relation that pairs the places of two graphs -/
def Bis (la lb : Nat → L) (ka kb : Nat → List Nat) (R : Nat → Nat → Prop) : Prop :=
  ∀ x y, R x y → la x = lb y ∧ (ka x).length = (kb y).length ∧ ∀ i, i < (ka x).length → R ((ka x).getD i 0) ((kb y).getD i 0)
/-- no place is paired with two -/
def One (R : Nat → Nat → Prop) : Prop := (∀ x y y', R x y → R x y' → y = y') ∧ (∀ x x' y, R x y → R x' y → x = x')
/-- classes of places: C tells another one of its class, r the one by which it is known, h how far that is at the most -/
structure Cls (N : Nat) (C r h : Nat → Nat) : Prop where
  lt : ∀ x, x < N → C x < N
  ro : ∀ x, x < N → r (C x) = r x
  dn : ∀ x, x < N → C x ≠ x → h (C x) < h x
  en : ∀ x, x < N → C x = x → r x = x
  rl : ∀ x, x < N → r x < N
  fx : ∀ x, x < N → C (r x) = r x
theorem Cls.id (N : Nat) : Cls N (fun x => x) (fun x => x) (fun _ => 0) :=
  ⟨fun _ h => h, fun _ _ => rfl, fun _ _ h => absurd rfl h, fun _ _ _ => rfl, fun _ h => h, fun _ _ => rfl⟩
def putC (C : Nat → Nat) (x v : Nat) : Nat → Nat := fun z => if z = x then v else C z
theorem Cls.halve {N : Nat} {C r h : Nat → Nat} (H : Cls N C r h) {x : Nat} (hx : x < N) (hne : C x ≠ x) : Cls N (putC C x (C (C x))) r h := by
  have h1 := H.lt x hx
  have hd := H.dn x hx hne
  refine ⟨fun z hz => ?_, fun z hz => ?_, fun z hz => ?_, fun z hz => ?_, H.rl, fun z hz => ?_⟩
  all_goals unfold putC
  · split
    · exact H.lt _ h1
    · exact H.lt z hz
  · split
    · rename_i e
      rw [H.ro _ h1, H.ro x hx, e]
    · exact H.ro z hz
  · split
    · rename_i e
      subst e
      intro _
      by_cases q : C (C z) = C z
      · rw [q]; exact hd
      · have := H.dn _ h1 q
        omega
    · exact H.dn z hz
  · split
    · rename_i e
      subst e
      intro q
      exfalso
      by_cases q2 : C (C z) = C z
      · exact hne (q2.symm.trans q)
      · have := H.dn _ h1 q2
        rw [q] at this
        omega
    · exact H.en z hz
  · split
    · rename_i e
      have := H.fx z hz
      rw [e] at this
      exact absurd this hne
    · exact H.fx z hz
/-- two classes become one -/
def jnR (r : Nat → Nat) (a b : Nat) : Nat → Nat := fun z => if r z = a then b else r z
theorem Cls.join {N : Nat} {C r h : Nat → Nat} (H : Cls N C r h) {a b : Nat} (ha : a < N) (hb : b < N) (hra : r a = a) (hrb : r b = b) (hab : a ≠ b) :
    Cls N (putC C a b) (jnR r a b) (fun z => if r z = a then h z + h b + 1 else h z) := by
  refine ⟨fun z hz => ?_, fun z hz => ?_, fun z hz => ?_, fun z hz => ?_, fun z hz => ?_, fun z hz => ?_⟩
  all_goals try unfold putC
  · split
    · exact hb
    · exact H.lt z hz
  · unfold jnR
    split
    · rename_i e
      subst e
      rw [hra, if_pos rfl, if_neg (by rw [hrb]; exact Ne.symm hab), hrb]
    · rw [H.ro z hz]
  · split
    · rename_i e
      subst e
      intro _
      show (if r b = z then _ else _) < (if r z = z then _ else _)
      rw [if_pos hra, if_neg (by rw [hrb]; exact Ne.symm hab)]
      omega
    · intro q
      have := H.dn z hz q
      show (if r (C z) = a then _ else _) < (if r z = a then _ else _)
      rw [H.ro z hz]
      split <;> omega
  · split
    · rename_i e
      intro q
      exact absurd (q.trans e).symm hab
    · rename_i e
      intro q
      have := H.en z hz q
      show (if r z = a then b else r z) = z
      rw [this, if_neg e]
  · show (if r z = a then b else r z) < N
    split
    · exact hb
    · exact H.rl z hz
  · unfold jnR
    split
    · rw [if_neg (Ne.symm hab)]
      have := H.fx b hb
      rw [hrb] at this
      exact this
    · exact H.fx z hz
/-- how many classes there are -/
def rts (N : Nat) (r : Nat → Nat) : Nat := ((List.range N).filter (fun x => decide (r x = x))).length
theorem fil_one (p : Nat → Bool) (a : Nat) (hp : p a = true) : ∀ l : List Nat, l.Nodup → a ∈ l → (l.filter (fun x => p x && decide (x ≠ a))).length + 1 = (l.filter p).length
  | [], _, hm => absurd hm (by simp)
  | b :: t, hn, hm => by
    have hn' := List.nodup_cons.1 hn
    by_cases e : b = a
    · subst e
      have e1 : t.filter (fun x => p x && decide (x ≠ b)) = t.filter p := by
        apply List.filter_congr
        intro c hc
        have : c ≠ b := fun q => hn'.1 (q ▸ hc)
        simp [this]
      rw [List.filter_cons, List.filter_cons, if_neg (by simp), if_pos hp, e1, List.length_cons]
    · have hm' : a ∈ t := by
        rcases List.mem_cons.1 hm with q | q
        · exact absurd q.symm e
        · exact q
      have ih := fil_one p a hp t hn'.2 hm'
      rw [List.filter_cons, List.filter_cons]
      by_cases hb : p b = true
      · rw [if_pos (by simp [hb, e]), if_pos hb, List.length_cons, List.length_cons]
        omega
      · rw [if_neg (by simp [hb]), if_neg hb]
        exact ih
theorem rts_join {N : Nat} {r : Nat → Nat} {a b : Nat} (ha : a < N) (hra : r a = a) (hrb : r b = b) (hab : a ≠ b) : rts N (jnR r a b) + 1 = rts N r := by
  unfold rts
  have e : (List.range N).filter (fun x => decide (jnR r a b x = x)) = (List.range N).filter (fun x => decide (r x = x) && decide (x ≠ a)) := by
    apply List.filter_congr
    intro x hx
    rw [Bool.eq_iff_iff, Bool.and_eq_true, decide_eq_true_iff, decide_eq_true_iff, decide_eq_true_iff]
    unfold jnR
    by_cases q : r x = a
    · rw [if_pos q]
      constructor
      · intro h
        subst h
        exact absurd (q.symm.trans hrb) hab
      · rintro ⟨h1, h2⟩
        exact absurd (h1.symm.trans q) h2
    · rw [if_neg q]
      constructor
      · intro h
        exact ⟨h, fun h2 => q (by rw [h2]; exact hra)⟩
      · exact fun h => h.1
  rw [e]
  exact fil_one (fun x => decide (r x = x)) a (by simpa using hra) (List.range N) List.nodup_range (List.mem_range.2 ha)
theorem rts_pos {N : Nat} {r : Nat → Nat} {b : Nat} (hb : b < N) (hrb : r b = b) : 0 < rts N r :=
  List.length_pos_of_mem (a := b) (List.mem_filter.2 ⟨List.mem_range.2 hb, by simpa using hrb⟩)
/-- the classes are just what the pairs make -/
def Gen (n : Nat) (r : Nat → Nat) (P : List (Nat × Nat)) : Prop :=
  (∀ p ∈ P, r p.1 = r (n + p.2)) ∧ ∀ E : Nat → Nat → Prop, (∀ x, E x x) → (∀ x y, E x y → E y x) → (∀ x y z, E x y → E y z → E x z) → (∀ p ∈ P, E p.1 (n + p.2)) → ∀ u v, r u = r v → E u v
theorem Gen.id (n : Nat) : Gen n (fun x => x) [] := ⟨fun p hp => absurd hp (by simp), fun E h1 _ _ _ u v e => by subst e; exact h1 _⟩
theorem jnR_crs (r : Nat → Nat) (a b : Nat) {u v : Nat} (e : r u = r v) : jnR r a b u = jnR r a b v := by unfold jnR; rw [e]
theorem Gen.join {n : Nat} {r : Nat → Nat} {P : List (Nat × Nat)} (H : Gen n r P) (x y : Nat) : Gen n (jnR r (r x) (r (n + y))) (P ++ [(x, y)]) := by
  refine ⟨fun p hp => ?_, fun E h1 h2 h3 h4 u v e => ?_⟩
  · rcases List.mem_append.1 hp with hp | hp
    · exact jnR_crs _ _ _ (H.1 p hp)
    · rw [List.mem_singleton.1 hp]
      unfold jnR
      rw [if_pos rfl]
      split <;> rfl
  · have hE := H.2 E h1 h2 h3 (fun p hp => h4 p (by simp [hp]))
    have hxy : E x (n + y) := h4 (x, y) (by simp)
    unfold jnR at e
    by_cases q1 : r u = r x
    · rw [if_pos q1] at e
      by_cases q2 : r v = r x
      · exact hE u v (q1.trans q2.symm)
      · rw [if_neg q2] at e
        exact h3 _ _ _ (h3 _ _ _ (hE u x q1) hxy) (hE _ _ e)
    · rw [if_neg q1] at e
      by_cases q2 : r v = r x
      · rw [if_pos q2] at e
        exact h3 _ _ _ (h3 _ _ _ (hE _ _ e) (h2 _ _ hxy)) (hE _ _ q2.symm)
      · rw [if_neg q2] at e
        exact hE u v e
/-- what going to a pair leaves: more pairs D, classes that are coarser; if all was so, D is matched and its Kids are in one class; a relation that pairs the graphs and has this pair has all of D -/
structure Gone (n : Nat) (la lb : Nat → L) (ka kb : Nat → List Nat) (r r' : Nat → Nat) (D : List (Nat × Nat)) (x y : Nat) (q : Bool) : Prop where
  crs : ∀ u v, r u = r v → r' u = r' v
  mat : q = true → ∀ p ∈ D, la p.1 = lb p.2 ∧ (ka p.1).length = (kb p.2).length ∧ ∀ i, i < (ka p.1).length → r' ((ka p.1).getD i 0) = r' (n + (kb p.2).getD i 0)
  all : ∀ R, Bis la lb ka kb R → R x y → q = true ∧ ∀ p ∈ D, R p.1 p.2
  jnd : q = true → r' x = r' (n + y)
theorem Gone.old {n : Nat} {la lb : Nat → L} {ka kb : Nat → List Nat} {r : Nat → Nat} {x y : Nat} (h : r x = r (n + y)) : Gone n la lb ka kb r r [] x y true :=
  ⟨fun _ _ e => e, fun _ p hp => absurd hp (by simp), fun R _ _ => ⟨rfl, fun p hp => absurd hp (by simp)⟩, fun _ => h⟩
/-- the Kids of a pair, gone to as far as j -/
structure Kins (n : Nat) (la lb : Nat → L) (ka kb : Nat → List Nat) (r r' : Nat → Nat) (D : List (Nat × Nat)) (x y j : Nat) : Prop where
  crs : ∀ u v, r u = r v → r' u = r' v
  mat : ∀ p ∈ D, la p.1 = lb p.2 ∧ (ka p.1).length = (kb p.2).length ∧ ∀ i, i < (ka p.1).length → r' ((ka p.1).getD i 0) = r' (n + (kb p.2).getD i 0)
  all : ∀ R, Bis la lb ka kb R → R x y → ∀ p ∈ D, R p.1 p.2
  jnd : ∀ i, i < j → r' ((ka x).getD i 0) = r' (n + (kb y).getD i 0)
theorem Kins.nil {n : Nat} {la lb : Nat → L} {ka kb : Nat → List Nat} {r : Nat → Nat} {x y : Nat} : Kins n la lb ka kb r r [] x y 0 :=
  ⟨fun _ _ e => e, fun p hp => absurd hp (by simp), fun R _ _ p hp => absurd hp (by simp), fun i hi => absurd hi (Nat.not_lt_zero _)⟩
theorem Kins.more {n : Nat} {la lb : Nat → L} {ka kb : Nat → List Nat} {r r' r2 : Nat → Nat} {D D2 : List (Nat × Nat)} {x y j : Nat} (H : Kins n la lb ka kb r r' D x y j) (hj : j < (ka x).length)
    (G : Gone n la lb ka kb r' r2 D2 ((ka x).getD j 0) ((kb y).getD j 0) true) : Kins n la lb ka kb r r2 (D ++ D2) x y (j + 1) := by
  refine ⟨fun u v e => G.crs _ _ (H.crs _ _ e), fun p hp => ?_, fun R hB hR p hp => ?_, fun i hi => ?_⟩
  · rcases List.mem_append.1 hp with hp | hp
    · obtain ⟨h1, h2, h3⟩ := H.mat p hp
      exact ⟨h1, h2, fun i hi => G.crs _ _ (h3 i hi)⟩
    · exact G.mat rfl p hp
  · rcases List.mem_append.1 hp with hp | hp
    · exact H.all R hB hR p hp
    · exact (G.all R hB ((hB x y hR).2.2 j hj)).2 p hp
  · rcases Nat.lt_or_ge i j with h | h
    · exact G.crs _ _ (H.jnd i h)
    · obtain rfl : i = j := by omega
      exact G.jnd rfl
/-- a pair that is new, and all its Kids -/
theorem Kins.done {n : Nat} {la lb : Nat → L} {ka kb : Nat → List Nat} {r r' : Nat → Nat} {D : List (Nat × Nat)} {x y : Nat} (H : Kins n la lb ka kb (jnR r (r x) (r (n + y))) r' D x y (ka x).length) (hl : la x = lb y) (hk : (ka x).length = (kb y).length) :
    Gone n la lb ka kb r r' ((x, y) :: D) x y true := by
  refine ⟨fun u v e => H.crs _ _ (jnR_crs _ _ _ e), fun _ p hp => ?_, fun R hB hR => ⟨rfl, fun p hp => ?_⟩, fun _ => H.crs _ _ ?_⟩
  · rcases List.mem_cons.1 hp with rfl | hp
    · exact ⟨hl, hk, H.jnd⟩
    · exact H.mat p hp
  · rcases List.mem_cons.1 hp with rfl | hp
    · exact hR
    · exact H.all R hB hR p hp
  · unfold jnR
    rw [if_pos rfl]
    split <;> rfl
/-- a pair that is new, and not so -/
theorem Gone.bad {n : Nat} {la lb : Nat → L} {ka kb : Nat → List Nat} {r : Nat → Nat} {x y : Nat} (h : ¬ (la x = lb y ∧ (ka x).length = (kb y).length)) : Gone n la lb ka kb r (jnR r (r x) (r (n + y))) [(x, y)] x y false :=
  ⟨fun u v e => jnR_crs _ _ _ e, fun q => absurd q (by decide), fun R hB hR => absurd ⟨(hB x y hR).1, (hB x y hR).2.1⟩ h, fun q => absurd q (by decide)⟩
/-- a pair that is new, and one of its Kids is not so -/
theorem Kins.fail {n : Nat} {la lb : Nat → L} {ka kb : Nat → List Nat} {r r' r2 : Nat → Nat} {D D2 : List (Nat × Nat)} {x y j : Nat} (H : Kins n la lb ka kb (jnR r (r x) (r (n + y))) r' D x y j) (hj : j < (ka x).length)
    (G : Gone n la lb ka kb r' r2 D2 ((ka x).getD j 0) ((kb y).getD j 0) false) : Gone n la lb ka kb r r2 ((x, y) :: (D ++ D2)) x y false :=
  ⟨fun u v e => G.crs _ _ (H.crs _ _ (jnR_crs _ _ _ e)), fun q => absurd q (by decide), fun R hB hR => absurd (G.all R hB ((hB x y hR).2.2 j hj)).1 (by decide), fun q => absurd q (by decide)⟩
/-- no place is in two pairs -/
def OneL (P : List (Nat × Nat)) : Prop := ∀ p ∈ P, ∀ p' ∈ P, (p.1 = p'.1 ↔ p.2 = p'.2)
theorem getD_map {α β : Type} (f : α → β) (l : List α) (i : Nat) (d : α) (d' : β) (h : i < l.length) : (l.map f).getD i d' = f (l.getD i d) := by
  rw [List.getD_eq_getElem?_getD, List.getD_eq_getElem?_getD, List.getElem?_map, List.getElem?_eq_getElem h]; rfl
theorem getD_in {α : Type} (l : List α) (i : Nat) (d : α) (h : i < l.length) : l.getD i d ∈ l := by
  rw [List.getD_eq_getElem?_getD, List.getElem?_eq_getElem h]
  exact List.getElem_mem h
/-- what is paired from the roots on: all is so just where some relation pairs the graphs, and no place is paired with two just where one does that is one to one -/
theorem paired_facts {n : Nat} {la lb : Nat → L} {ka kb : Nat → List Nat} {r : Nat → Nat} {P : List (Nat × Nat)} {x y : Nat} {q : Bool} (hx : x < n) (hka : ∀ z, z < n → ∀ k ∈ ka z, k < n) (hP : ∀ p ∈ P, p.1 < n) (G : Gen n r P)
    (H : Gone n la lb ka kb (fun z => z) r P x y q) : (q = true ↔ ∃ R, Bis la lb ka kb R ∧ R x y) ∧ ((q = true ∧ OneL P) ↔ ∃ R, Bis la lb ka kb R ∧ One R ∧ R x y) := by
  refine ⟨⟨fun hq => ?_, fun ⟨R, hB, hR⟩ => (H.all R hB hR).1⟩, ⟨fun ⟨hq, h1⟩ => ?_, fun ⟨R, hB, h1, hR⟩ => ?_⟩⟩
  · refine ⟨fun u v => u < n ∧ r u = r (n + v), ?_, hx, H.jnd hq⟩
    rintro u v ⟨hu, he⟩
    have hE := G.2 (fun u v => (if u < n then la u else lb (u - n)) = (if v < n then la v else lb (v - n)) ∧ (if u < n then ka u else (kb (u - n)).map (n + ·)).length = (if v < n then ka v else (kb (v - n)).map (n + ·)).length ∧
        ∀ i, i < (if u < n then ka u else (kb (u - n)).map (n + ·)).length → r ((if u < n then ka u else (kb (u - n)).map (n + ·)).getD i 0) = r ((if v < n then ka v else (kb (v - n)).map (n + ·)).getD i 0))
      (fun u => ⟨rfl, rfl, fun _ _ => rfl⟩) (fun u v h => ⟨h.1.symm, h.2.1.symm, fun i hi => (h.2.2 i (by rw [h.2.1]; exact hi)).symm⟩)
      (fun u v w h k => ⟨h.1.trans k.1, h.2.1.trans k.2.1, fun i hi => (h.2.2 i hi).trans (k.2.2 i (by rw [← h.2.1]; exact hi))⟩)
      (fun p hp => by
        obtain ⟨m1, m2, m3⟩ := H.mat hq p hp
        rw [if_pos (hP p hp), if_pos (hP p hp), if_neg (by omega), if_neg (by omega), Nat.add_sub_cancel_left]
        refine ⟨m1, by rw [List.length_map]; exact m2, fun i hi => ?_⟩
        rw [getD_map (n + ·) _ i 0 0 (by rw [← m2]; exact hi)]
        exact m3 i hi) u (n + v) he
    rw [if_pos hu, if_pos hu, if_neg (by omega), if_neg (by omega), Nat.add_sub_cancel_left, List.length_map] at hE
    refine ⟨hE.1, hE.2.1, fun i hi => ⟨hka u hu _ (getD_in _ _ _ hi), ?_⟩⟩
    have := hE.2.2 i hi
    rw [getD_map (n + ·) _ i 0 0 (by rw [← hE.2.1]; exact hi)] at this
    exact this
  · have key : ∀ u v, u < n → r u = r (n + v) → (u, v) ∈ P := fun u v hu he => by
      have hE := G.2 (fun u v => u = v ∨ ∃ p ∈ P, (u = p.1 ∧ v = n + p.2) ∨ (v = p.1 ∧ u = n + p.2)) (fun u => .inl rfl)
        (fun u v h => by
          rcases h with h | ⟨p, hp, h | h⟩
          · exact .inl h.symm
          · exact .inr ⟨p, hp, .inr h⟩
          · exact .inr ⟨p, hp, .inl h⟩)
        (fun u v w h k => by
          rcases h with rfl | ⟨p, hp, h⟩
          · exact k
          · rcases k with rfl | ⟨p', hp', k⟩
            · exact .inr ⟨p, hp, h⟩
            · have e1 := hP p hp
              have e2 := hP p' hp'
              have o1 := h1 p hp p' hp'
              rcases h with ⟨a1, a2⟩ | ⟨a1, a2⟩ <;> rcases k with ⟨b1, b2⟩ | ⟨b1, b2⟩
              · omega
              · have : p.2 = p'.2 := by omega
                have := o1.2 this
                left
                omega
              · have : p.1 = p'.1 := by omega
                have := o1.1 this
                left
                omega
              · omega)
        (fun p hp => .inr ⟨p, hp, .inl ⟨rfl, rfl⟩⟩) u (n + v) he
      rcases hE with h | ⟨p, hp, ⟨a1, a2⟩ | ⟨a1, a2⟩⟩
      · omega
      · have : (u, v) = p := by
          have : v = p.2 := by omega
          rw [a1, this]
        rw [this]
        exact hp
      · have := hP p hp
        omega
    refine ⟨fun u v => (u, v) ∈ P, fun u v hm => ?_, ⟨fun u v v' h h' => (h1 _ h _ h').1 rfl, fun u u' v h h' => (h1 _ h _ h').2 rfl⟩, key x y hx (H.jnd hq)⟩
    obtain ⟨m1, m2, m3⟩ := H.mat hq _ hm
    exact ⟨m1, m2, fun i hi => key _ _ (hka u (hP _ hm) _ (getD_in _ _ _ hi)) (m3 i hi)⟩
  · obtain ⟨h2, h3⟩ := H.all R hB hR
    refine ⟨h2, fun p hp p' hp' => ⟨fun e => h1.1 p.1 _ _ (h3 p hp) (by rw [e]; exact h3 p' hp'), fun e => h1.2 _ _ p.2 (h3 p hp) (by rw [e]; exact h3 p' hp')⟩⟩
end Go.Proofs.YtcplgjclkjcekaaGreatDoor.Alk
end

section
/- Graphs that are paired: each way to be so is one of equals, and one to one just where the Canons are the same. -/
namespace Go.Proofs.YtcplgjclkjcekaaGreatDoor.Alk
open Grp
set_option linter.unusedSimpArgs false
set_option linter.unusedVariables false
variable {L : Type}

def EqP (la lb : Nat → L) (ka kb : Nat → List Nat) (x y : Nat) : Prop := ∃ R, Bis la lb ka kb R ∧ R x y
def LkP (la lb : Nat → L) (ka kb : Nat → List Nat) (x y : Nat) : Prop := ∃ R, Bis la lb ka kb R ∧ One R ∧ R x y
theorem bis_eq (la : Nat → L) (ka : Nat → List Nat) : Bis la la ka ka (fun x y => x = y) := fun x y e => by subst e; exact ⟨rfl, rfl, fun _ _ => rfl⟩
theorem one_eq : One (fun x y => x = y) := ⟨fun x y y' e e' => e.symm.trans e', fun x x' y e e' => e.trans e'.symm⟩
theorem Bis.symm {la lb : Nat → L} {ka kb : Nat → List Nat} {R : Nat → Nat → Prop} (h : Bis la lb ka kb R) : Bis lb la kb ka (fun x y => R y x) := fun x y e => by
  obtain ⟨h1, h2, h3⟩ := h y x e
  exact ⟨h1.symm, h2.symm, fun i hi => h3 i (by rw [h2]; exact hi)⟩
theorem One.symm {R : Nat → Nat → Prop} (h : One R) : One (fun x y => R y x) := ⟨fun x y y' e e' => h.2 _ _ _ e e', fun x x' y e e' => h.1 _ _ _ e e'⟩
theorem Bis.trans {la lb lc : Nat → L} {ka kb kc : Nat → List Nat} {R S : Nat → Nat → Prop} (h : Bis la lb ka kb R) (k : Bis lb lc kb kc S) : Bis la lc ka kc (fun x z => ∃ y, R x y ∧ S y z) := fun x z ⟨y, e, f⟩ => by
  obtain ⟨h1, h2, h3⟩ := h x y e
  obtain ⟨k1, k2, k3⟩ := k y z f
  exact ⟨h1.trans k1, h2.trans k2, fun i hi => ⟨_, h3 i hi, k3 i (by rw [← h2]; exact hi)⟩⟩
theorem One.trans {R S : Nat → Nat → Prop} (h : One R) (k : One S) : One (fun x z => ∃ y, R x y ∧ S y z) :=
  ⟨fun x z z' ⟨y, e, f⟩ ⟨y', e', f'⟩ => by have := h.1 _ _ _ e e'; subst this; exact k.1 _ _ _ f f', fun x x' z ⟨y, e, f⟩ ⟨y', e', f'⟩ => by have := k.2 _ _ _ f f'; subst this; exact h.2 _ _ _ e e'⟩
theorem eqP_refl (la : Nat → L) (ka : Nat → List Nat) (x : Nat) : EqP la la ka ka x x := ⟨_, bis_eq la ka, rfl⟩
theorem lkP_refl (la : Nat → L) (ka : Nat → List Nat) (x : Nat) : LkP la la ka ka x x := ⟨_, bis_eq la ka, one_eq, rfl⟩
theorem EqP.symm {la lb : Nat → L} {ka kb : Nat → List Nat} {x y : Nat} (h : EqP la lb ka kb x y) : EqP lb la kb ka y x := by obtain ⟨R, h1, h2⟩ := h; exact ⟨_, h1.symm, h2⟩
theorem LkP.symm {la lb : Nat → L} {ka kb : Nat → List Nat} {x y : Nat} (h : LkP la lb ka kb x y) : LkP lb la kb ka y x := by obtain ⟨R, h1, h2, h3⟩ := h; exact ⟨_, h1.symm, h2.symm, h3⟩
theorem EqP.trans {la lb lc : Nat → L} {ka kb kc : Nat → List Nat} {x y z : Nat} (h : EqP la lb ka kb x y) (k : EqP lb lc kb kc y z) : EqP la lc ka kc x z := by
  obtain ⟨R, h1, h2⟩ := h
  obtain ⟨S, k1, k2⟩ := k
  exact ⟨_, h1.trans k1, y, h2, k2⟩
theorem LkP.trans {la lb lc : Nat → L} {ka kb kc : Nat → List Nat} {x y z : Nat} (h : LkP la lb ka kb x y) (k : LkP lb lc kb kc y z) : LkP la lc ka kc x z := by
  obtain ⟨R, h1, h2, h3⟩ := h
  obtain ⟨S, k1, k2, k3⟩ := k
  exact ⟨_, h1.trans k1, h2.trans k2, y, h3, k3⟩
theorem LkP.eqP {la lb : Nat → L} {ka kb : Nat → List Nat} {x y : Nat} (h : LkP la lb ka kb x y) : EqP la lb ka kb x y := by obtain ⟨R, h1, _, h3⟩ := h; exact ⟨R, h1, h3⟩

theorem idx_inj_map {S : Nat → Prop} {f : Nat → Nat} (hi : ∀ a b, S a → S b → f a = f b → a = b) : ∀ (o : List Nat) (b : Nat), (∀ a ∈ o, S a) → S b → (o.map f).idxOf (f b) = o.idxOf b
  | [], b, _, _ => rfl
  | c :: t, b, ho, hb => by
    rw [List.map_cons, List.idxOf_cons, List.idxOf_cons, idx_inj_map hi t b (fun a ha => ho a (by simp [ha])) hb]
    by_cases e : c = b
    · subst e; simp
    · have e' : f c ≠ f b := fun q => e (hi c b (ho c (by simp)) hb q)
      rw [beq_eq_false_iff_ne.2 e, beq_eq_false_iff_ne.2 e']
/-- the order of all that is reached, with fuel enough -/
def od (k : Nat → List Nat) (n x : Nat) : List Nat := ord k (ful k n) x
theorem od_fuel {k : Nat → List Nat} {n : Nat} (hk : ∀ a, a < n → ∀ b ∈ k a, b < n) {x : Nat} (hx : x < n) {m : Nat} (hm : ful k n ≤ m) : ord k m x = od k n x := by
  unfold od ord
  rw [wk_fuel hk (n := m) (n' := ful k n) (by simpa using hx) (by have := mea_ful k n (x, 1) []; omega) (mea_ful k n (x, 1) [])]
/-- one to one: the order of the second is the order of the first, gone over by a map of places -/
theorem lk_od {la lb : Nat → L} {ka kb : Nat → List Nat} {n m x y : Nat} (ha : ∀ a, a < n → ∀ b ∈ ka a, b < n) (hb : ∀ a, a < m → ∀ b ∈ kb a, b < m) (hx : x < n) (hy : y < m) (h : LkP la lb ka kb x y) :
    ∃ f : Nat → Nat, od kb m y = (od ka n x).map f ∧ (∀ a ∈ od ka n x, la a = lb (f a) ∧ kb (f a) = (ka a).map f) ∧ (∀ a ∈ od ka n x, ∀ b ∈ od ka n x, f a = f b → a = b) := by
  obtain ⟨R, hB, h1, hR⟩ := h
  have hS : ∀ a : Nat, ∃ c, ∀ y, R a y → c = y := fun a => by
    by_cases q : ∃ y, R a y
    · obtain ⟨y, hy⟩ := q
      exact ⟨y, fun y' h' => h1.1 _ _ _ hy h'⟩
    · exact ⟨0, fun y' h' => absurd ⟨y', h'⟩ q⟩
  obtain ⟨f, hf⟩ : ∃ f : Nat → Nat, ∀ a y, R a y → f a = y := ⟨fun a => (hS a).choose, fun a => (hS a).choose_spec⟩
  have hc : ∀ a, (∃ y, R a y) → ∀ b ∈ ka a, ∃ y, R b y := fun a ⟨y, e⟩ b hb => by
    obtain ⟨i, hi, rfl⟩ := List.getElem_of_mem hb
    have := (hB a y e).2.2 i hi
    rw [List.getD_eq_getElem?_getD, List.getElem?_eq_getElem hi] at this
    exact ⟨_, this⟩
  have hi : ∀ a b, (∃ y, R a y) → (∃ y, R b y) → f a = f b → a = b := fun a b ⟨y, e⟩ ⟨y', e'⟩ q => by
    rw [hf a y e, hf b y' e'] at q
    subst q
    exact h1.2 _ _ _ e e'
  have hh : ∀ a, (∃ y, R a y) → kb (f a) = (ka a).map f := fun a ⟨y, e⟩ => by
    rw [hf a y e]
    obtain ⟨_, k2, k3⟩ := hB a y e
    refine List.ext_getElem (by rw [List.length_map]; exact k2.symm) fun i i1 i2 => ?_
    have i3 : i < (ka a).length := by rw [List.length_map] at i2; exact i2
    have := k3 i i3
    rw [List.getD_eq_getElem?_getD, List.getD_eq_getElem?_getD, List.getElem?_eq_getElem i1, List.getElem?_eq_getElem i3] at this
    rw [List.getElem_map]
    exact (hf _ _ this).symm
  have hfx : f x = y := hf x y hR
  have key := wk_map (g := ka) (g' := kb) (f := f) (S := fun a => ∃ y, R a y) hc hi hh (ful ka n + ful kb m) [(x, 1)] [] 0 (by simpa using ⟨y, hR⟩) (by simp)
  have k2 : ord kb (ful ka n + ful kb m) y = (ord ka (ful ka n + ful kb m) x).map f := by
    have := congrArg Prod.fst key
    simp only [List.map_cons, List.map_nil, hfx] at this
    exact this
  rw [od_fuel hb hy (by omega), od_fuel ha hx (by omega)] at k2
  have hin : ∀ a ∈ od ka n x, ∃ y, R a y := wk_in (S := fun a => ∃ y, R a y) hc _ _ _ _ (by simpa using ⟨y, hR⟩) (by simp)
  refine ⟨f, k2, fun a ha' => ?_, fun a ha' b hb' => hi a b (hin a ha') (hin b hb')⟩
  obtain ⟨y', e⟩ := hin a ha'
  refine ⟨?_, hh a ⟨y', e⟩⟩
  rw [hf a y' e]
  exact (hB a y' e).1
/-- the Canons of two graphs are the same -/
def CnE (la lb : Nat → L) (ka kb : Nat → List Nat) (oa ob : List Nat) : Prop := oa.length = ob.length ∧ ∀ i, i < oa.length → la (oa.getD i 0) = lb (ob.getD i 0) ∧ can ka oa i = can kb ob i
theorem lk_can {la lb : Nat → L} {ka kb : Nat → List Nat} {n m x y : Nat} (ha : ∀ a, a < n → ∀ b ∈ ka a, b < n) (hb : ∀ a, a < m → ∀ b ∈ kb a, b < m) (hx : x < n) (hy : y < m) :
    LkP la lb ka kb x y ↔ CnE la lb ka kb (od ka n x) (od kb m y) := by
  constructor
  · intro h
    obtain ⟨f, e1, e2, e3⟩ := lk_od ha hb hx hy h
    refine ⟨by rw [e1, List.length_map], fun i hi => ?_⟩
    have hm : (od ka n x).getD i 0 ∈ od ka n x := getD_in _ _ _ hi
    have eo : (od kb m y).getD i 0 = f ((od ka n x).getD i 0) := by rw [e1, getD_map f _ i 0 0 hi]
    refine ⟨by rw [eo]; exact (e2 _ hm).1, ?_⟩
    unfold can
    rw [eo, (e2 _ hm).2, List.map_map]
    refine List.map_congr_left fun b hb' => ?_
    have hbm : b ∈ od ka n x := ord_closed ha hx (mea_ful ka n (x, 1) []) _ hm b hb'
    show (od ka n x).idxOf b = (od kb m y).idxOf (f b)
    rw [e1]
    exact (idx_inj_map (S := fun a => a ∈ od ka n x) (fun a b h1 h2 q => e3 a h1 b h2 q) _ _ (fun _ h => h) hbm).symm
  · rintro ⟨hl, h⟩
    have na : (od ka n x).Nodup := ord_nodup _ _ _
    have nb : (od kb m y).Nodup := ord_nodup _ _ _
    have hget : ∀ (o : List Nat) i, i < o.length → o.getD i 0 = o.getD i 0 := fun _ _ _ => rfl
    have inj : ∀ (o : List Nat), o.Nodup → ∀ i j, i < o.length → j < o.length → o.getD i 0 = o.getD j 0 → i = j := fun o hn i j hi hj e => by
      rw [List.getD_eq_getElem?_getD, List.getD_eq_getElem?_getD, List.getElem?_eq_getElem hi, List.getElem?_eq_getElem hj] at e
      simp only [Option.getD_some] at e
      rcases Nat.lt_trichotomy i j with q | q | q
      · exact absurd e (List.pairwise_iff_getElem.1 hn i j hi hj q)
      · exact q
      · exact absurd e.symm (List.pairwise_iff_getElem.1 hn j i hj hi q)
    have ca := ord_closed ha hx (mea_ful ka n (x, 1) [])
    have cb := ord_closed hb hy (mea_ful kb m (y, 1) [])
    refine ⟨fun a b => ∃ i, i < (od ka n x).length ∧ (od ka n x).getD i 0 = a ∧ (od kb m y).getD i 0 = b, ?_, ⟨?_, ?_⟩, 0, ?_⟩
    · rintro a b ⟨i, hi, rfl, rfl⟩
      obtain ⟨h1, h2⟩ := h i hi
      unfold can at h2
      have hlk : (ka ((od ka n x).getD i 0)).length = (kb ((od kb m y).getD i 0)).length := by
        have := congrArg List.length h2
        rw [List.length_map, List.length_map] at this
        exact this
      refine ⟨h1, hlk, fun j hj => ?_⟩
      have hma := ca _ (getD_in (od ka n x) i 0 hi) _ (getD_in _ j 0 hj)
      have hmb := cb _ (getD_in (od kb m y) i 0 (by rw [← hl]; exact hi)) _ (getD_in _ j 0 (by rw [← hlk]; exact hj))
      have e : (od ka n x).idxOf ((ka ((od ka n x).getD i 0)).getD j 0) = (od kb m y).idxOf ((kb ((od kb m y).getD i 0)).getD j 0) := by
        have q := congrArg (fun l => l.getD j 0) h2
        rw [getD_map _ _ j 0 0 hj, getD_map _ _ j 0 0 (by rw [← hlk]; exact hj)] at q
        exact q
      refine ⟨(od ka n x).idxOf ((ka ((od ka n x).getD i 0)).getD j 0), List.idxOf_lt_length_of_mem hma, idx_get hma, ?_⟩
      rw [e]
      exact idx_get hmb
    · rintro a b b' ⟨i, hi, e1, rfl⟩ ⟨j, hj, e2, rfl⟩
      rw [inj _ na i j hi hj (e1.trans e2.symm)]
    · rintro a a' b ⟨i, hi, rfl, e1⟩ ⟨j, hj, rfl, e2⟩
      rw [inj _ nb i j (by omega) (by omega) (e1.trans e2.symm)]
    · obtain ⟨t, ht⟩ := ord_head ka (ful ka n - 1) x
      obtain ⟨u, hu⟩ := ord_head kb (ful kb m - 1) y
      rw [show ful ka n - 1 + 1 = ful ka n by unfold ful; omega] at ht
      rw [show ful kb m - 1 + 1 = ful kb m by unfold ful; omega] at hu
      unfold od
      rw [ht, hu]
      exact ⟨by simp, rfl, rfl⟩
theorem lk_len {la lb : Nat → L} {ka kb : Nat → List Nat} {n m x y : Nat} (ha : ∀ a, a < n → ∀ b ∈ ka a, b < n) (hb : ∀ a, a < m → ∀ b ∈ kb a, b < m) (hx : x < n) (hy : y < m) (h : LkP la lb ka kb x y) : (od ka n x).length = (od kb m y).length :=
  ((lk_can ha hb hx hy).1 h).1
/-- Kids in another order: as much is reached -/
theorem od_mem_len {k k' : Nat → List Nat} {n x : Nat} (hk : ∀ a, a < n → ∀ b ∈ k a, b < n) (hx : x < n) (he : ∀ a, a < n → ∀ b, b ∈ k a ↔ b ∈ k' a) : (od k n x).length = (od k' n x).length := by
  have hk' : ∀ a, a < n → ∀ b ∈ k' a, b < n := fun a ha b hb => hk a ha b ((he a ha b).2 hb)
  have c1 := ord_closed hk hx (mea_ful k n (x, 1) [])
  have c2 := ord_closed hk' hx (mea_ful k' n (x, 1) [])
  have l1 := ord_lt hk (n := ful k n) hx
  have l2 := ord_lt hk' (n := ful k' n) hx
  have r1 : x ∈ od k n x := by
    obtain ⟨t, ht⟩ := ord_head k (ful k n - 1) x
    rw [show ful k n - 1 + 1 = ful k n by unfold ful; omega] at ht
    unfold od
    rw [ht]; simp
  have r2 : x ∈ od k' n x := by
    obtain ⟨t, ht⟩ := ord_head k' (ful k' n - 1) x
    rw [show ful k' n - 1 + 1 = ful k' n by unfold ful; omega] at ht
    unfold od
    rw [ht]; simp
  have s1 : ∀ a ∈ od k n x, a ∈ od k' n x ∧ a < n := wk_in (S := fun a => a ∈ od k' n x ∧ a < n) (fun a ha b hb => ⟨c2 a ha.1 b ((he a ha.2 b).1 hb), hk a ha.2 b hb⟩) _ _ _ _ (by simpa using ⟨r2, hx⟩) (by simp)
  have s2 : ∀ a ∈ od k' n x, a ∈ od k n x ∧ a < n := wk_in (S := fun a => a ∈ od k n x ∧ a < n) (fun a ha b hb => ⟨c1 a ha.1 b ((he a ha.2 b).2 hb), hk' a ha.2 b hb⟩) _ _ _ _ (by simpa using ⟨r1, hx⟩) (by simp)
  have n1 : (od k n x).Nodup := ord_nodup _ _ _
  have n2 : (od k' n x).Nodup := ord_nodup _ _ _
  have h1 := n1.length_le_of_subset (fun a ha => (s1 a ha).1)
  have h2 := n2.length_le_of_subset (fun a ha => (s2 a ha).1)
  omega
end Go.Proofs.YtcplgjclkjcekaaGreatDoor.Alk
end

section
/- Entries of a Map, in the order of their keys: plain facts. -/
namespace Go.Proofs.YtcplgjclkjcekaaGreatDoor.Alk
set_option linter.unusedSimpArgs false
set_option linter.unusedVariables false

abbrev Lb := Int × List UInt8
theorem cb_irr : ∀ a : List UInt8, Lib.compareBytes a a = 0
  | [] => rfl
  | x :: a => by
    rw [Lib.compareBytes, if_neg (by simp), if_neg (by simp)]
    exact cb_irr a
theorem cb_trans : ∀ a b c : List UInt8, Lib.compareBytes a b < 0 → Lib.compareBytes b c < 0 → Lib.compareBytes a c < 0
  | _, [], [], _, h => absurd h (by decide)
  | [], [], _ :: _, h, _ => absurd h (by decide)
  | _ :: _, [], _ :: _, h, _ => absurd h (by simp [Lib.compareBytes])
  | [], _ :: _, [], _, h => absurd h (by simp [Lib.compareBytes])
  | _ :: _, _ :: _, [], _, h => absurd h (by simp [Lib.compareBytes])
  | [], _ :: _, _ :: _, _, _ => by simp [Lib.compareBytes]
  | x :: a, y :: b, z :: c, h, k => by
    rw [Lib.compareBytes] at h k ⊢
    simp only [UInt8.lt_iff_toNat_lt] at h k ⊢
    by_cases h1 : x.toNat < y.toNat
    · by_cases k1 : y.toNat < z.toNat
      · rw [if_pos (by omega)]; decide
      · rw [if_neg k1] at k
        by_cases k2 : z.toNat < y.toNat
        · rw [if_pos k2] at k; exact absurd k (by decide)
        · rw [if_pos (by omega)]; decide
    · rw [if_neg h1] at h
      by_cases h2 : y.toNat < x.toNat
      · rw [if_pos h2] at h; exact absurd h (by decide)
      · rw [if_neg h2] at h
        by_cases k1 : y.toNat < z.toNat
        · rw [if_pos (by omega)]; decide
        · rw [if_neg k1] at k
          by_cases k2 : z.toNat < y.toNat
          · rw [if_pos k2] at k; exact absurd k (by decide)
          · rw [if_neg k2] at k
            rw [if_neg (by omega), if_neg (by omega)]
            exact cb_trans a b c h k
theorem cb_tri : ∀ a b : List UInt8, ¬ Lib.compareBytes a b < 0 → ¬ Lib.compareBytes b a < 0 → a = b
  | [], [], _, _ => rfl
  | [], _ :: _, h, _ => absurd (by simp [Lib.compareBytes]) h
  | _ :: _, [], _, h => absurd (by simp [Lib.compareBytes]) h
  | x :: a, y :: b, h, k => by
    rw [Lib.compareBytes] at h k
    simp only [UInt8.lt_iff_toNat_lt] at h k
    by_cases h1 : x.toNat < y.toNat
    · rw [if_pos h1] at h; exact absurd (by decide) h
    · by_cases h2 : y.toNat < x.toNat
      · rw [if_pos h2] at k; exact absurd (by decide) k
      · rw [if_neg h1, if_neg h2] at h
        rw [if_neg h2, if_neg h1] at k
        have e : x = y := UInt8.toNat_inj.1 (by omega)
        rw [e, cb_tri a b h k]
/-- how two keys stand to one another -/
def cmpK (a b : Lb) : Int := if a.1 = b.1 then Lib.compareBytes a.2 b.2 else Lib.compareInt a.1 b.1
def ltK (a b : Lb) : Bool := decide (cmpK a b < 0)
theorem ltK_iff (a b : Lb) : ltK a b = true ↔ a.1 < b.1 ∨ a.1 = b.1 ∧ Lib.compareBytes a.2 b.2 < 0 := by
  unfold ltK cmpK Lib.compareInt
  rw [decide_eq_true_iff]
  by_cases h : a.1 = b.1
  · rw [if_pos h]
    constructor
    · exact fun q => .inr ⟨h, q⟩
    · rintro (q | q)
      · omega
      · exact q.2
  · rw [if_neg h]
    by_cases h1 : a.1 < b.1
    · rw [if_pos h1]
      exact ⟨fun _ => .inl h1, fun _ => by decide⟩
    · rw [if_neg h1, if_pos (by omega)]
      constructor
      · exact fun q => absurd q (by decide)
      · rintro (q | q)
        · omega
        · exact absurd q.1 h
theorem ltK_irr (a : Lb) : ltK a a = false := by
  rw [Bool.eq_false_iff, ne_eq, ltK_iff, cb_irr]
  rintro (h | h)
  · omega
  · exact absurd h.2 (by decide)
theorem ltK_trans {a b c : Lb} (h : ltK a b = true) (k : ltK b c = true) : ltK a c = true := by
  rw [ltK_iff] at *
  rcases h with h | ⟨h, h'⟩ <;> rcases k with k | ⟨k, k'⟩
  · left; omega
  · left; omega
  · left; omega
  · exact .inr ⟨h.trans k, cb_trans _ _ _ h' k'⟩
theorem ltK_tri {a b : Lb} (h : ltK a b = false) (k : ltK b a = false) : a = b := by
  rw [Bool.eq_false_iff, ne_eq, ltK_iff] at h k
  have e : a.1 = b.1 := by
    rcases Int.lt_trichotomy a.1 b.1 with q | q | q
    · exact absurd (.inl q) h
    · exact q
    · exact absurd (.inl q) k
  exact Prod.ext e (cb_tri _ _ (fun q => h (.inr ⟨e, q⟩)) (fun q => k (.inr ⟨e.symm, q⟩)))
theorem ltK_asymm {a b : Lb} (h : ltK a b = true) : ltK b a = false := by
  cases k : ltK b a
  · rfl
  · have := ltK_trans h k
    rw [ltK_irr] at this
    exact absurd this (by decide)
theorem ltK_ntrans {a b c : Lb} (h : ltK a b = false) (k : ltK b c = false) : ltK a c = false := by
  cases q : ltK a c
  · rfl
  · cases h2 : ltK b a
    · have := ltK_tri h h2
      subst this
      rw [q] at k; exact absurd k (by decide)
    · have := ltK_trans h2 q
      rw [this] at k; exact absurd k (by decide)

section
variable {α : Type}
/-- one more, behind all that are no greater -/
def insK (f : α → Lb) (e : α) : List α → List α
  | [] => [e]
  | m :: t => if ltK (f e) (f m) = true then e :: m :: t else m :: insK f e t
def srt (f : α → Lb) (E : List α) : List α := E.foldl (fun o e => insK f e o) []
theorem insK_perm (f : α → Lb) (e : α) : ∀ o : List α, (insK f e o).Perm (e :: o)
  | [] => List.Perm.refl _
  | m :: t => by
    rw [insK]
    split
    · exact List.Perm.refl _
    · exact ((insK_perm f e t).cons m).trans (List.Perm.swap e m t)
def Srd (f : α → Lb) (l : List α) : Prop := l.Pairwise (fun x y => ltK (f y) (f x) = false)
theorem insK_srd (f : α → Lb) (e : α) : ∀ o : List α, Srd f o → Srd f (insK f e o)
  | [], _ => by unfold Srd; simp [insK]
  | m :: t, h => by
    unfold Srd at h
    rw [List.pairwise_cons] at h
    rw [insK]
    split
    · rename_i q
      unfold Srd
      rw [List.pairwise_cons, List.pairwise_cons]
      refine ⟨fun y hy => ?_, h.1, h.2⟩
      rcases List.mem_cons.1 hy with rfl | hy
      · exact ltK_asymm q
      · exact ltK_ntrans (h.1 y hy) (ltK_asymm q)
    · rename_i q
      have q' : ltK (f e) (f m) = false := by cases z : ltK (f e) (f m); rfl; exact absurd z q
      unfold Srd
      rw [List.pairwise_cons]
      refine ⟨fun y hy => ?_, insK_srd f e t h.2⟩
      rcases List.mem_cons.1 ((insK_perm f e t).mem_iff.1 hy) with rfl | hy
      · exact q'
      · exact h.1 y hy
theorem srt_go (f : α → Lb) : ∀ (E o : List α), (E.foldl (fun o e => insK f e o) o).Perm (o ++ E) ∧ (Srd f o → Srd f (E.foldl (fun o e => insK f e o) o))
  | [], o => by simp
  | e :: E, o => by
    obtain ⟨h1, h2⟩ := srt_go f E (insK f e o)
    rw [List.foldl_cons]
    refine ⟨h1.trans ?_, fun h => h2 (insK_srd f e o h)⟩
    have := (insK_perm f e o).append_right E
    exact this.trans (List.perm_middle.symm)
theorem srt_perm (f : α → Lb) (E : List α) : (srt f E).Perm E := by have := (srt_go f E []).1; rw [List.nil_append] at this; exact this
theorem srt_srd (f : α → Lb) (E : List α) : Srd f (srt f E) := (srt_go f E []).2 List.Pairwise.nil
/-- one order alone, where no two keys are alike -/
theorem srd_one (f : α → Lb) {l m : List α} (hp : l.Perm m) (hl : Srd f l) (hm : Srd f m) (hn : (l.map f).Nodup) : l = m := by
  refine List.Perm.eq_of_pairwise (le := fun x y => ltK (f y) (f x) = false) (fun a b ha hb h1 h2 => ?_) hl hm hp
  have e : f a = f b := ltK_tri h2 h1
  have hb' : b ∈ l := hp.mem_iff.2 hb
  obtain ⟨i, hi, rfl⟩ := List.getElem_of_mem ha
  obtain ⟨j, hj, rfl⟩ := List.getElem_of_mem hb'
  have key : ∀ i j (hi : i < l.length) (hj : j < l.length), i < j → f l[i] ≠ f l[j] := fun i j hi hj q => by
    have := List.pairwise_iff_getElem.1 hn i j (by simpa using hi) (by simpa using hj) q
    simpa using this
  rcases Nat.lt_trichotomy i j with q | q | q
  · exact absurd e (key i j hi hj q)
  · subst q; rfl
  · exact absurd e.symm (key j i hj hi q)
theorem srt_of {f : α → Lb} {E l : List α} (hp : l.Perm E) (hl : Srd f l) (hn : (E.map f).Nodup) : l = srt f E :=
  srd_one f (hp.trans (srt_perm f E).symm) hl (srt_srd f E) ((hp.map f).nodup_iff.2 hn)
theorem insK_map {β : Type} (g : β → α) (f : α → Lb) (e : β) : ∀ o : List β, insK f (g e) (o.map g) = (insK (fun x => f (g x)) e o).map g
  | [] => rfl
  | m :: t => by
    rw [List.map_cons, insK, insK, insK_map g f e t]
    split <;> rfl
theorem srt_map {β : Type} (g : β → α) (f : α → Lb) (E : List β) : srt f (E.map g) = (srt (fun x => f (g x)) E).map g := by
  have : ∀ (E o : List β), (E.map g).foldl (fun o e => insK f e o) (o.map g) = (E.foldl (fun o e => insK (fun x => f (g x)) e o) o).map g := by
    intro E
    induction E with
    | nil => intro o; rfl
    | cons e E ih => intro o; rw [List.map_cons, List.foldl_cons, List.foldl_cons, insK_map, ih]
  exact this E []
theorem insK_congr {f g : α → Lb} {e : α} : ∀ {o : List α}, (∀ x ∈ e :: o, f x = g x) → insK f e o = insK g e o
  | [], _ => rfl
  | m :: t, h => by
    rw [insK, insK, h e (by simp), h m (by simp), insK_congr (o := t) (fun x hx => h x (by rcases List.mem_cons.1 hx with rfl | hx; simp; simp [hx]))]
theorem srt_congr {f g : α → Lb} {E : List α} (h : ∀ x ∈ E, f x = g x) : srt f E = srt g E := by
  have : ∀ (E o : List α), (∀ x ∈ o ++ E, f x = g x) → E.foldl (fun o e => insK f e o) o = E.foldl (fun o e => insK g e o) o := by
    intro E
    induction E with
    | nil => intro o _; rfl
    | cons e E ih =>
      intro o h
      rw [List.foldl_cons, List.foldl_cons, insK_congr (fun x hx => h x (by rcases List.mem_cons.1 hx with rfl | hx; simp; simp [hx])), ih]
      intro x hx
      rcases List.mem_append.1 hx with hx | hx
      · rcases List.mem_cons.1 ((insK_perm g e o).mem_iff.1 hx) with rfl | hx
        · exact h _ (by simp)
        · exact h _ (by simp [hx])
      · exact h _ (by simp [hx])
  exact this E [] (by simpa using h)
end
/-- the entries of Kids, and back -/
def ens {α : Type} : List α → List (α × α)
  | a :: b :: t => (a, b) :: ens t
  | _ => []
def fla {α : Type} : List (α × α) → List α
  | [] => []
  | p :: t => p.1 :: p.2 :: fla t
theorem ens_fla {α : Type} : ∀ E : List (α × α), ens (fla E) = E
  | [] => rfl
  | p :: t => by rw [fla, ens, ens_fla t]
theorem fla_ens {α : Type} : ∀ l : List α, l.length % 2 = 0 → fla (ens l) = l
  | [], _ => rfl
  | [_], h => absurd h (by simp)
  | a :: b :: t, h => by
    rw [ens, fla, fla_ens t (by simp only [List.length_cons] at h; omega)]
theorem fla_len {α : Type} : ∀ E : List (α × α), (fla E).length = 2 * E.length
  | [] => rfl
  | p :: t => by rw [fla, List.length_cons, List.length_cons, fla_len t, List.length_cons]; omega
theorem ens_len {α : Type} : ∀ l : List α, (ens l).length = l.length / 2
  | [] => by simp [ens]
  | [_] => by simp [ens]
  | a :: b :: t => by rw [ens, List.length_cons, ens_len t, List.length_cons, List.length_cons]; omega
theorem fla_map {α β : Type} (g : α → β) : ∀ E : List (α × α), (fla E).map g = fla (E.map fun p => (g p.1, g p.2))
  | [] => rfl
  | p :: t => by rw [fla, List.map_cons, List.map_cons, List.map_cons, fla, fla_map g t]
theorem ens_map {α β : Type} (g : α → β) : ∀ l : List α, ens (l.map g) = (ens l).map fun p => (g p.1, g p.2)
  | [] => rfl
  | [_] => rfl
  | a :: b :: t => by rw [List.map_cons, List.map_cons, ens, ens, ens_map g t, List.map_cons]
theorem fla_app {α : Type} : ∀ E F : List (α × α), fla (E ++ F) = fla E ++ fla F
  | [], F => rfl
  | p :: t, F => by rw [List.cons_append, fla, fla, fla_app t F]; rfl
theorem fla_perm {α : Type} {E F : List (α × α)} (h : E.Perm F) : (fla E).Perm (fla F) := by
  induction h with
  | nil => exact List.Perm.refl _
  | cons p _ ih => exact (ih.cons p.2).cons p.1
  | swap p q l =>
    show (q.1 :: q.2 :: p.1 :: p.2 :: fla l).Perm (p.1 :: p.2 :: q.1 :: q.2 :: fla l)
    have := (List.perm_append_comm (l₁ := [q.1, q.2]) (l₂ := [p.1, p.2])).append_right (fla l)
    simpa using this
  | trans _ _ ih1 ih2 => exact ih1.trans ih2
theorem ens_at {α : Type} (d : α) : ∀ (l : List α) (i : Nat), 2 * i + 1 < l.length → (ens l).getD i (d, d) = (l.getD (2 * i) d, l.getD (2 * i + 1) d)
  | [], i, h => absurd h (by simp)
  | [_], i, h => absurd h (by simp)
  | a :: b :: t, 0, h => rfl
  | a :: b :: t, i + 1, h => by
    rw [ens, List.getD_cons_succ, ens_at d t i (by simp only [List.length_cons] at h; omega)]
    rfl
end Go.Proofs.YtcplgjclkjcekaaGreatDoor.Alk
end

section
/- A graph whose Maps' entries rise, as plain facts: what it keeps, and how graphs that are paired stay so. -/
namespace Go.Proofs.YtcplgjclkjcekaaGreatDoor.Alk
open Utf Rws Pln Flw Grp
set_option linter.unusedSimpArgs false
set_option linter.unusedVariables false

/-- what a place's node is -/
def lab (ns : List Nd) (a : Nat) : Lb := ((ns.getD a nd0).kind, (ns.getD a nd0).text)
/-- the Kids, entry by entry as their keys rise -/
def rsK (ns : List Nd) (n : Nd) : List Int := if n.kind = 6 then fla (srt (fun p => kp ns p.1) (ens n.kids)) else n.kids
def risN (ns : List Nd) (n : Nd) : Nd := ⟨n.kind, n.text, rsK ns n⟩
def ris (ns : List Nd) : List Nd := ns.map (risN ns)
theorem ris_len (ns : List Nd) : (ris ns).length = ns.length := by unfold ris; rw [List.length_map]
theorem ris_at (ns : List Nd) (a : Nat) : (ris ns).getD a nd0 = risN ns (ns.getD a nd0) := by
  rw [List.getD_eq_getElem?_getD, List.getD_eq_getElem?_getD, ris, List.getElem?_map]
  cases ns[a]? with
  | none => rfl
  | some n => rfl
theorem lab_ris (ns : List Nd) : lab (ris ns) = lab ns := by funext a; unfold lab; rw [ris_at]; rfl
theorem kp_ris (ns : List Nd) : kp (ris ns) = kp ns := by funext a; unfold kp; rw [ris_at]; rfl
/-- Maps have pairs of Kids -/
def Evn (ns : List Nd) : Prop := ∀ n ∈ ns, n.kind = 6 → n.kids.length % 2 = 0
theorem Evn.at {ns : List Nd} (h : Evn ns) (a : Nat) : (ns.getD a nd0).kind = 6 → (ns.getD a nd0).kids.length % 2 = 0 := by
  rw [List.getD_eq_getElem?_getD]
  by_cases q : a < ns.length
  · rw [List.getElem?_eq_getElem q]
    exact h _ (List.getElem_mem q)
  · rw [List.getElem?_eq_none (by omega)]
    exact fun e => absurd e (by decide)
theorem rsK_perm (ns : List Nd) {n : Nd} (h : n.kind = 6 → n.kids.length % 2 = 0) : (rsK ns n).Perm n.kids := by
  unfold rsK
  split
  · rename_i q
    have := fla_perm (srt_perm (fun p => kp ns p.1) (ens n.kids))
    rw [fla_ens _ (h q)] at this
    exact this
  · exact List.Perm.refl _
theorem kys_ens : ∀ (i : Nat) (l : List Int), l.length % 2 = 0 → i % 2 = 0 → kys 6 i l = (ens l).map (·.1)
  | _, [], _, _ => rfl
  | _, [_], h, _ => absurd h (by simp)
  | i, a :: b :: t, h, hi => by
    rw [kys, if_pos (by simp [kyP, hi]), kys, if_neg (by simp [kyP]; omega), ens, List.map_cons, kys_ens (i + 1 + 1) t (by simp only [List.length_cons] at h; omega) (by omega)]
theorem kys_non {k : Int} (hk : k ≠ 6) : ∀ (i : Nat) (l : List Int), kys k i l = []
  | _, [] => rfl
  | i, a :: t => by rw [kys, if_neg (by simp [kyP, hk]), kys_non hk (i + 1) t]
theorem rsK_kys (ns : List Nd) {n : Nd} (h : n.kind = 6 → n.kids.length % 2 = 0) : (kys n.kind 0 (rsK ns n)).Perm (kys n.kind 0 n.kids) := by
  by_cases q : n.kind = 6
  · rw [q, kys_ens 0 n.kids (h q) rfl, kys_ens 0 (rsK ns n) (by rw [(rsK_perm ns h).length_eq]; exact h q) rfl]
    unfold rsK
    rw [if_pos q, ens_fla]
    exact (srt_perm _ _).map _
  · rw [kys_non q, kys_non q]
theorem rg_parts {ns : List Nd} {r : Int} : rgG ⟨ns, r⟩ = true ↔ ns.length ≤ 4096 ∧ isP ns.length r = true ∧ (∀ n ∈ ns, rAl n.kind n.text = true ∧ rKd ns n.kind n.kids = true) ∧ (∀ n ∈ ns, ∀ a ∈ kys n.kind 0 n.kids, timN (bump (fun _ => 0) r.toNat) ns a.toNat ≤ 1) ∧ (∀ n ∈ ns, ((kys n.kind 0 n.kids).map (kp ns)).Nodup) := by
  unfold rgG
  rw [Bool.and_eq_true, Bool.and_eq_true, Bool.and_eq_true, Bool.and_eq_true, decide_eq_true_iff, al1_iff, kNe_iff, al2_iff]
  unfold dif
  simp only [decide_eq_true_iff]
  constructor
  · rintro ⟨⟨⟨⟨h1, h2⟩, h3⟩, h4⟩, h5⟩; exact ⟨h1, h2, h3, h4, h5⟩
  · rintro ⟨h1, h2, h3, h4, h5⟩; exact ⟨⟨⟨⟨h1, h2⟩, h3⟩, h4⟩, h5⟩
theorem rKd_parts {ns : List Nd} {k : Int} {l : List Int} : rKd ns k l = true ↔ (sca k = true → l = []) ∧ (k = 6 → l.length % 2 = 0) ∧ (∀ a ∈ l, isP ns.length a = true) ∧ ∀ a ∈ kys k 0 l, sca (ns.getD a.toNat nd0).kind = true := by
  unfold rKd
  rw [Bool.and_eq_true, Bool.and_eq_true, kdOk_iff]
  constructor
  · rintro ⟨⟨h1, h2⟩, h3⟩
    refine ⟨fun q => ?_, fun q => ?_, h3⟩
    · rw [q] at h1
      cases l with
      | nil => rfl
      | cons a t => simp at h1
    · subst q
      simp at h2
      omega
  · rintro ⟨h1, h2, h3⟩
    refine ⟨⟨?_, ?_⟩, h3⟩
    · cases q : sca k
      · rfl
      · rw [h1 q]; rfl
    · by_cases q : k = 6
      · have := h2 q
        simp [q, this]
      · simp [q]
theorem rg_evn {ns : List Nd} {r : Int} (h : rgG ⟨ns, r⟩ = true) : Evn ns := fun n hn q => (rKd_parts.1 ((rg_parts.1 h).2.2.1 n hn).2).2.1 q
theorem cnt_perm {l m : List Int} (h : l.Perm m) (x : Nat) : cnt l x = cnt m x := (h.map Int.toNat).count_eq x
theorem tim_ris {ns : List Nd} (h : Evn ns) (T : Nat → Nat) (x : Nat) : timN T (ris ns) x = timN T ns x := by
  rw [timN_eq, timN_eq]
  congr 1
  unfold ris
  rw [List.map_map]
  congr 1
  exact List.map_congr_left fun n hn => cnt_perm (rsK_perm ns (h n hn)) x
/-- a graph that may be, with its entries as they rise, may be -/
theorem rg_ris {ns : List Nd} {r : Int} (h : rgG ⟨ns, r⟩ = true) : rgG ⟨ris ns, r⟩ = true := by
  have hE := rg_evn h
  obtain ⟨h1, h2, h3, h4, h5⟩ := rg_parts.1 h
  refine rg_parts.2 ⟨by rw [ris_len]; exact h1, by rw [ris_len]; exact h2, fun n' hn' => ?_, fun n' hn' a ha => ?_, fun n' hn' => ?_⟩
  · obtain ⟨n, hn, rfl⟩ := List.mem_map.1 hn'
    obtain ⟨a1, a2⟩ := h3 n hn
    have hp := rsK_perm ns (hE n hn)
    refine ⟨a1, ?_⟩
    obtain ⟨b1, b2, b3, b4⟩ := rKd_parts.1 a2
    refine rKd_parts.2 ⟨fun q => ?_, fun q => ?_, fun a ha => ?_, fun a ha => ?_⟩
    · have := b1 q
      rw [this] at hp
      exact hp.eq_nil
    · rw [show (risN ns n).kids.length = n.kids.length from hp.length_eq]; exact b2 q
    · rw [ris_len]; exact b3 a (hp.mem_iff.1 ha)
    · rw [ris_at]
      exact b4 a ((rsK_kys ns (hE n hn)).mem_iff.1 ha)
  · obtain ⟨n, hn, rfl⟩ := List.mem_map.1 hn'
    rw [tim_ris hE]
    exact h4 n hn a ((rsK_kys ns (hE n hn)).mem_iff.1 ha)
  · obtain ⟨n, hn, rfl⟩ := List.mem_map.1 hn'
    rw [kp_ris]
    exact (((rsK_kys ns (hE n hn)).map (kp ns)).nodup_iff).2 (h5 n hn)
theorem sml_ris {ns : List Nd} (h : Evn ns) (hS : Sml ns) : Sml (ris ns) := by
  intro hl
  rw [ris_len] at hl
  obtain ⟨h1, h2⟩ := hS hl
  refine ⟨fun n' hn' => ?_, ?_⟩
  · obtain ⟨n, hn, rfl⟩ := List.mem_map.1 hn'
    exact h1 n hn
  · have e : sumK (ris ns) = sumK ns := by
      unfold sumK ris
      rw [List.map_map]
      congr 1
      exact List.map_congr_left fun n hn => (rsK_perm ns (h n hn)).length_eq
    rw [e]; exact h2
theorem kd_ris (ns : List Nd) (a : Nat) : kd (ris ns) a = (rsK ns (ns.getD a nd0)).map Int.toNat := by unfold kd; rw [ris_at]; rfl
theorem kd_ris_mem {ns : List Nd} (h : Evn ns) (a b : Nat) : b ∈ kd (ris ns) a ↔ b ∈ kd ns a := by
  rw [kd_ris]
  exact ((rsK_perm ns (h.at a)).map Int.toNat).mem_iff
theorem od_eq (ns : List Nd) (r : Nat) : odG ns r = od (kd ns) ns.length r := rfl
theorem od_ris_len {ns : List Nd} {r : Nat} (hE : Evn ns) (hk : ∀ n ∈ ns, ∀ a ∈ n.kids, isP ns.length a = true) (hr : r < ns.length) : (odG (ris ns) r).length = (odG ns r).length := by
  rw [od_eq, od_eq, ris_len]
  exact (od_mem_len (kd_lt hk rfl) hr (fun a _ b => (kd_ris_mem hE a b).symm)).symm
theorem fla_rel {R : Nat → Nat → Prop} : ∀ S : List ((Int × Int) × (Int × Int)), (∀ z ∈ S, R z.1.1.toNat z.2.1.toNat ∧ R z.1.2.toNat z.2.2.toNat) →
    ∀ i, i < ((fla (S.map (·.1))).map Int.toNat).length → R (((fla (S.map (·.1))).map Int.toNat).getD i 0) (((fla (S.map (·.2))).map Int.toNat).getD i 0)
  | [], _, i, hi => absurd hi (by simp [fla])
  | s :: S, h, 0, _ => (h s (by simp)).1
  | s :: S, h, 1, _ => (h s (by simp)).2
  | s :: S, h, i + 2, hi => by
    rw [List.map_cons, List.map_cons, fla, fla, List.map_cons, List.map_cons, List.map_cons, List.map_cons, List.getD_cons_succ, List.getD_cons_succ, List.getD_cons_succ, List.getD_cons_succ]
    refine fla_rel S (fun z hz => h z (by simp [hz])) i ?_
    rw [List.map_cons, fla, List.map_cons, List.map_cons, List.length_cons, List.length_cons] at hi
    omega
/-- what is paired as it stands is paired as the entries rise -/
theorem bis_ris {ns ms : List Nd} (h1 : Evn ns) (h2 : Evn ms) {R : Nat → Nat → Prop} (hB : Bis (lab ns) (lab ms) (kd ns) (kd ms) R) : Bis (lab (ris ns)) (lab (ris ms)) (kd (ris ns)) (kd (ris ms)) R := by
  intro x y hR
  rw [lab_ris, lab_ris]
  obtain ⟨b1, b2, b3⟩ := hB x y hR
  refine ⟨b1, ?_⟩
  have hk : (ns.getD x nd0).kind = (ms.getD y nd0).kind := congrArg Prod.fst b1
  have e1 := h1.at x
  have e2 := h2.at y
  have hlen : (ns.getD x nd0).kids.length = (ms.getD y nd0).kids.length := by
    unfold kd at b2
    rw [List.length_map, List.length_map] at b2
    exact b2
  rw [kd_ris, kd_ris]
  unfold rsK
  rw [← hk] at e2 ⊢
  by_cases q : (ns.getD x nd0).kind = 6
  · rw [if_pos q, if_pos q]
    replace e1 := e1 q
    replace e2 := e2 q
    obtain ⟨a, ha⟩ : ∃ a, a = (ns.getD x nd0).kids := ⟨_, rfl⟩
    obtain ⟨b, hb⟩ : ∃ b, b = (ms.getD y nd0).kids := ⟨_, rfl⟩
    have b4 : ∀ i, i < a.length → R (a.getD i 0).toNat (b.getD i 0).toNat := fun i hi => by
      have := b3 i (by unfold kd; rw [List.length_map, ← ha]; exact hi)
      unfold kd at this
      rw [← ha, ← hb, getD_map Int.toNat a i 0 0 hi, getD_map Int.toNat b i 0 0 (by rw [hb, ← hlen, ← ha]; exact hi)] at this
      exact this
    rw [← ha, ← hb] at hlen ⊢
    rw [← ha] at e1
    have el : (ens a).length = (ens b).length := by rw [ens_len, ens_len, hlen]
    have z1 : ((ens a).zip (ens b)).map (·.1) = ens a := List.map_fst_zip (by omega)
    have z2 : ((ens a).zip (ens b)).map (·.2) = ens b := List.map_snd_zip (by omega)
    have hz : ∀ z ∈ (ens a).zip (ens b), R z.1.1.toNat z.2.1.toNat ∧ R z.1.2.toNat z.2.2.toNat := fun z hz => by
      obtain ⟨i, hi, rfl⟩ := List.getElem_of_mem hz
      rw [List.length_zip] at hi
      have i1 : i < (ens a).length := by omega
      have i2 : i < (ens b).length := by omega
      have i3 : 2 * i + 1 < a.length := by rw [ens_len] at i1; omega
      have g1 := ens_at (0 : Int) a i i3
      have g2 := ens_at (0 : Int) b i (by omega)
      rw [List.getD_eq_getElem?_getD, List.getElem?_eq_getElem i1] at g1
      rw [List.getD_eq_getElem?_getD, List.getElem?_eq_getElem i2] at g2
      simp only [Option.getD_some] at g1 g2
      rw [List.getElem_zip, g1, g2]
      exact ⟨b4 _ (by omega), b4 _ i3⟩
    have hkey : ∀ z ∈ (ens a).zip (ens b), kp ms z.2.1 = kp ns z.1.1 := fun z h => (hB _ _ (hz z h).1).1.symm
    have s1 := srt_map (fun z : (Int × Int) × (Int × Int) => z.1) (fun p => kp ns p.1) ((ens a).zip (ens b))
    have s2 := srt_map (fun z : (Int × Int) × (Int × Int) => z.2) (fun p => kp ms p.1) ((ens a).zip (ens b))
    rw [z1] at s1
    rw [z2, srt_congr hkey] at s2
    rw [s1, s2]
    have hp := srt_perm (fun z : (Int × Int) × (Int × Int) => kp ns z.1.1) ((ens a).zip (ens b))
    refine ⟨by rw [List.length_map, List.length_map, fla_len, fla_len, List.length_map, List.length_map], fla_rel _ fun z h => hz z (hp.mem_iff.1 h)⟩
  · rw [if_neg q, if_neg q]
    exact ⟨b2, b3⟩
theorem lk_ris {ns ms : List Nd} (h1 : Evn ns) (h2 : Evn ms) {x y : Nat} (h : LkP (lab ns) (lab ms) (kd ns) (kd ms) x y) : LkP (lab (ris ns)) (lab (ris ms)) (kd (ris ns)) (kd (ris ms)) x y := by
  obtain ⟨R, hB, h3, hR⟩ := h
  exact ⟨R, bis_ris h1 h2 hB, h3, hR⟩
theorem int_map {α : Type} {f g : α → Nat} {l m : List α} : l.map (fun b => (f b : Int)) = m.map (fun b => (g b : Int)) ↔ l.map f = m.map g := by
  have e1 : l.map (fun b => (f b : Int)) = (l.map f).map (fun n : Nat => (n : Int)) := by rw [List.map_map]; rfl
  have e2 : m.map (fun b => (g b : Int)) = (m.map g).map (fun n : Nat => (n : Int)) := by rw [List.map_map]; rfl
  rw [e1, e2]
  constructor
  · intro h
    have key : ∀ a : List Nat, (a.map (fun n : Nat => (n : Int))).map Int.toNat = a := fun a => by
      induction a with
      | nil => rfl
      | cons n t ih => rw [List.map_cons, List.map_cons, ih]; simp
    have := congrArg (List.map Int.toNat) h
    rw [key, key] at this
    exact this
  · intro h; rw [h]
/-- the Canons are the same -/
theorem cn_eq {ns ms : List Nd} {O P : List Nat} : cnN ns O = cnN ms P ↔ CnE (lab ns) (lab ms) (kd ns) (kd ms) O P := by
  have key : ∀ (i : Nat) (hi : i < O.length) (hj : i < P.length), ((cnN ns O)[i]'(by rw [cnN_len]; exact hi) = (cnN ms P)[i]'(by rw [cnN_len]; exact hj)) ↔ (lab ns (O.getD i 0) = lab ms (P.getD i 0) ∧ can (kd ns) O i = can (kd ms) P i) := fun i hi hj => by
    have e1 : O.getD i 0 = O[i] := by rw [List.getD_eq_getElem?_getD, List.getElem?_eq_getElem hi]; rfl
    have e2 : P.getD i 0 = P[i] := by rw [List.getD_eq_getElem?_getD, List.getElem?_eq_getElem hj]; rfl
    unfold cnN can lab kd
    rw [List.getElem_map, List.getElem_map, e1, e2, List.map_map, List.map_map]
    constructor
    · intro h
      injection h with h1 h2 h3
      exact ⟨Prod.ext h1 h2, int_map.1 h3⟩
    · rintro ⟨h1, h2⟩
      have h3 := int_map.2 h2
      have a1 := congrArg Prod.fst h1
      have a2 := congrArg Prod.snd h1
      simp only at a1 a2
      rw [a1, a2]
      congr 1
  constructor
  · intro h
    have hl : O.length = P.length := by have := congrArg List.length h; rw [cnN_len, cnN_len] at this; exact this
    refine ⟨hl, fun i hi => (key i hi (by omega)).1 ?_⟩
    simp only [h]
  · rintro ⟨hl, h⟩
    refine List.ext_getElem (by rw [cnN_len, cnN_len]; exact hl) fun i h1 h2 => ?_
    rw [cnN_len] at h1 h2
    exact (key i h1 h2).2 (h i h1)
/-- one to one just where the Canons are the same -/
theorem lk_cn {ns ms : List Nd} {x y : Nat} (ha : ∀ n ∈ ns, ∀ a ∈ n.kids, isP ns.length a = true) (hb : ∀ n ∈ ms, ∀ a ∈ n.kids, isP ms.length a = true) (hx : x < ns.length) (hy : y < ms.length) :
    LkP (lab ns) (lab ms) (kd ns) (kd ms) x y ↔ cnN ns (odG ns x) = cnN ms (odG ms y) := by
  rw [cn_eq, od_eq, od_eq]
  exact lk_can (kd_lt ha rfl) (kd_lt hb rfl) hx hy
end Go.Proofs.YtcplgjclkjcekaaGreatDoor.Alk
end
