/- A region that draws its order, all of whose operations only read but the last one, which waits for all: one walk in the order of the text serves every order. -/
import Derived.BigQuiet
import Derived.Deep.QuietTactic
import Derived.Tactics
namespace Go.Proofs.Ytedpiikdlpehjaa.Dsk
open Go
set_option linter.unusedSimpArgs false
set_option linter.unusedVariables false

section
variable {P : Program} {ops : Array Oper} {md : Region.Mode} {C : World → Prop} {T : Go.Act → Prop} {k : Nat} {mask : Array Bool}

/-- what has come up is closed under what it waited for -/
def Closed (md : Region.Mode) (ops : Array Oper) (listed : Array Bool) : Prop :=
  ∀ j o, ops[j]? = some o → listed.getD j false = true → ∀ e ∈ o.after, Region.binds md e = true → listed.getD e.on false = true
theorem closed_init (md : Region.Mode) (ops : Array Oper) (n : Nat) : Closed md ops (Array.replicate n false) := by
  intro j o _ h
  simp [Array.getElem?_replicate] at h
  split at h <;> simp at h
theorem closed_set {listed : Array Bool} {i : Nat} (hc : Closed md ops listed) (hi : i ∈ Region.ready md ops listed) : Closed md ops (listed.setIfInBounds i true) := by
  intro j o ho hl e he hb
  by_cases hji : i = j
  · subst hji
    obtain ⟨_, o', ho', hall⟩ := mem_ready.1 hi
    rw [ho] at ho'
    cases ho'
    exact getD_set_true (hall e he hb)
  · rw [getD_set_ne false hji] at hl
    exact getD_set_true (hc j o ho hl e he hb)
/-- what an operation waits for -/
def ups (md : Region.Mode) (ops : Array Oper) (i : Nat) : List Nat := match ops[i]? with
  | some o => (o.after.toList.filter fun e => Region.binds md e).map fun e => e.on
  | none => []
def upAll (md : Region.Mode) (ops : Array Oper) : Nat → List Nat → List Nat
  | 0, l => l
  | f + 1, l => upAll md ops f (l ++ (l.flatMap (ups md ops)).filter fun x => !(l.contains x))
theorem ups_listed {listed : Array Bool} (hc : Closed md ops listed) {j : Nat} (hj : listed.getD j false = true) : ∀ x ∈ ups md ops j, listed.getD x false = true := by
  intro x hx
  unfold ups at hx
  cases ho : ops[j]? with
  | none => rw [ho] at hx; cases hx
  | some o =>
    rw [ho] at hx
    obtain ⟨e, he, rfl⟩ := List.mem_map.1 hx
    obtain ⟨he1, he2⟩ := List.mem_filter.1 he
    exact hc j o ho hj e (by simpa using he1) he2
theorem upAll_listed {listed : Array Bool} (hc : Closed md ops listed) : ∀ (f : Nat) (l : List Nat), (∀ x ∈ l, listed.getD x false = true) → ∀ x ∈ upAll md ops f l, listed.getD x false = true
  | 0, l, h => h
  | f + 1, l, h => upAll_listed hc f _ (fun x hx => by
      rcases List.mem_append.1 hx with hx | hx
      · exact h x hx
      · obtain ⟨y, hy, hyx⟩ := List.mem_flatMap.1 (List.mem_filter.1 hx).1
        exact ups_listed hc (h y hy) x hyx)
theorem ready_ups {listed : Array Bool} (h : k ∈ Region.ready md ops listed) : ∀ x ∈ ups md ops k, listed.getD x false = true := by
  obtain ⟨_, o, ho, hall⟩ := mem_ready.1 h
  intro x hx
  unfold ups at hx
  rw [ho] at hx
  obtain ⟨e, he, rfl⟩ := List.mem_map.1 hx
  obtain ⟨he1, he2⟩ := List.mem_filter.1 he
  exact hall e (by simpa using he1) he2
/-- the last one waits for all -/
def lastB (md : Region.Mode) (ops : Array Oper) (k : Nat) : Bool := (k + 1 == ops.size) && (List.range k).all fun i => (upAll md ops k (ups md ops k)).contains i
theorem last_sole (hB : lastB md ops k = true) {listed : Array Bool} (hc : Closed md ops listed) (hk : k ∈ Region.ready md ops listed) {i : Nat} (hi : i ∈ Region.ready md ops listed) : i = k := by
  unfold lastB at hB
  rw [Bool.and_eq_true, List.all_eq_true] at hB
  obtain ⟨hi0, o, ho, _⟩ := mem_ready.1 hi
  have hlt := (Array.getElem?_eq_some_iff.1 ho).1
  have hsz : k + 1 = ops.size := by simpa using hB.1
  by_cases e : i = k
  · exact e
  · exfalso
    have hm := hB.2 i (List.mem_range.2 (by omega))
    have hl := upAll_listed hc k _ (ready_ups hk) i (by simpa using hm)
    rcases Nat.lt_or_ge i listed.size with h' | h'
    · simp [h'] at hi0 hl; rw [hi0] at hl; cases hl
    · simp [Array.getElem?_eq_none h'] at hl

/-- whatever order is picked from here on, up to the state 'mask' -/
def wpAnyK (P : Program) (md : Region.Mode) (ops : Array Oper) (C : World → Prop) (mask : Array Bool) (T : Go.Act → Prop) : Nat → Array Bool → Go.Act → Prop
  | 0, listed, a => listed = mask ∧ T a
  | fuel + 1, listed, a => (∃ i, i ∈ Region.ready md ops listed) ∧ ∀ i ∈ Region.ready md ops listed, qOp P ops C i (wpAnyK P md ops C mask T fuel (listed.setIfInBounds i true)) a

theorem wpAnyK_first (hB : lastB md ops k = true) (hmask : Region.ready md ops mask = [k]) {i : Nat} {oi : Oper} {v : Value} (hi : ops[i]? = some oi) (hik : i ≠ k) (hsel : ∀ (j : Nat) (o : Oper) cs b, ops[j]? = some o → o.op ≠ .select cs b) :
    ∀ (fuel : Nat) (listed : Array Bool) (a : Go.Act), Closed md ops listed →
      (∀ j oj, ops[j]? = some oj → j ≠ i → listed.getD j true = false → (∀ e ∈ oj.after, Region.binds md e = true → e.on ≠ i) → oi.apart ops oj = true) →
      i ∈ Region.ready md ops listed → YieldsIn P ops C oi v a →
      wpAnyK P md ops C mask T fuel (listed.setIfInBounds i true) (a.put oi.dst v) → wpAnyK P md ops C mask T (fuel + 1) listed a := by
  intro fuel
  induction fuel with
  | zero =>
    intro listed a hcl _ hr hy H
    refine ⟨⟨i, hr⟩, fun j hj => ?_⟩
    by_cases hji : j = i
    · subst hji; exact hy.qOp hi H
    · have h1 := ready_mono hj hji
      rw [H.1, hmask] at h1
      have hjk : j = k := by simpa using h1
      subst hjk
      exact absurd (last_sole hB hcl hj hr) hik
  | succ fuel ih =>
    intro listed a hcl hfree hr hy H
    refine ⟨⟨i, hr⟩, fun j hj => ?_⟩
    by_cases hji : j = i
    · subst hji; exact hy.qOp hi H
    · have h1 := H.2 j (ready_mono hj hji)
      obtain ⟨hjun, oj, hoj, hall⟩ := mem_ready.1 hj
      have hnot : ∀ e ∈ oj.after, Region.binds md e = true → e.on ≠ i := fun e he hb heq => by
        have h1 := hall e he hb
        have h0 := (mem_ready.1 hr).1
        rw [heq] at h1
        rcases Nat.lt_or_ge i listed.size with h' | h'
        · simp [h'] at h0 h1; rw [h0] at h1; cases h1
        · simp [Array.getElem?_eq_none h'] at h1
      have h2 := qOp_put hoj (hfree j oj hoj hji hjun hnot) (fun cs b => hsel i oi cs b hi) (fun cs b => hsel j oj cs b hoj) hy h1
      have hfree' : ∀ q oq, ops[q]? = some oq → q ≠ i → (listed.setIfInBounds j true).getD q true = false →
          (∀ e ∈ oq.after, Region.binds md e = true → e.on ≠ i) → oi.apart ops oq = true := fun q oq hq hqi hun hno => by
        refine hfree q oq hq hqi ?_ hno
        by_cases hjq : j = q
        · subst hjq; exact hjun
        · rw [getD_set_ne true hjq] at hun; exact hun
      refine qOp_mono (fun a' h3 => ih (listed.setIfInBounds j true) a' (closed_set hcl hj) hfree' (ready_mono hr (Ne.symm hji)) h3.1 ?_) h2
      rw [Array.setIfInBounds_comm _ _ hji]
      exact h3.2

def lexK (md : Region.Mode) (ops : Array Oper) (k : Nat) (mask : Array Bool) : Nat → Nat → Array Bool → Bool
  | 0, _, listed => listed == mask
  | fuel + 1, q, listed => (Region.ready md ops listed).contains q && Region.free md ops listed q && !(q == k) && lexK md ops k mask fuel (q + 1) (listed.setIfInBounds q true)
theorem wpAnyK_lex (hB : lastB md ops k = true) (hmask : Region.ready md ops mask = [k]) (hs : Region.noSelect ops = true) : ∀ (l : List Oper) (q : Nat) (listed : Array Bool) (a : Go.Act), (∀ j, j < l.length → l[j]? = ops[q + j]?) → Closed md ops listed →
    lexK md ops k mask l.length q listed = true → wpQuiet P ops C T l a → wpAnyK P md ops C mask T l.length listed a
  | [], _, _, _, _, _, hL, h => ⟨by simpa [lexK] using hL, h⟩
  | o :: l, q, listed, a, hl, hcl, hL, h => by
    have h0 : ops[q]? = some o := by simpa using (hl 0 (by simp)).symm
    simp only [List.length_cons, lexK, Bool.and_eq_true] at hL
    obtain ⟨⟨⟨hr, hf⟩, hqk⟩, hL'⟩ := hL
    have hr' : q ∈ Region.ready md ops listed := by simpa using hr
    have hst : qOp P ops C q (wpQuiet P ops C T l) a := by unfold qOp; simp only [h0]; exact h
    obtain ⟨v, hy, hK⟩ := yieldsIn_of_qOp h0 hst
    exact wpAnyK_first hB hmask h0 (by simpa using hqk) (Region.noSelect_spec hs) l.length listed a hcl (Region.free_spec h0 hf) hr' hy
      (wpAnyK_lex hB hmask hs l (q + 1) _ _ (fun j hj => by have := hl (j + 1) (by simpa using hj); simpa [Nat.add_assoc, Nat.add_comm 1 j] using this) (closed_set hcl hr') hL' hK)
theorem wpAny_of_K {Q : Exit → Go.Act → World → Prop} {o : Oper} (hmask : Region.ready md ops mask = [k]) (hend : Region.ready md ops (mask.setIfInBounds k true) = []) (ho : ops[k]? = some o)
    (hT : ∀ a w, C w → T a → wpList P ops Q [o] a w) : ∀ (fuel : Nat) (listed : Array Bool) (a : Go.Act) (w : World), C w → wpAnyK P md ops C mask T fuel listed a → wpAny P md ops Q (fuel + 1) listed a w
  | 0, listed, a, w, hw, h => by
    obtain ⟨rfl, hta⟩ := h
    refine ⟨fun e => (by rw [hmask] at e; cases e), fun i hi => ?_⟩
    rw [hmask] at hi
    have hik : i = k := by simpa using hi
    subst hik
    have h1 := hT a w hw hta
    unfold wpOp
    simp only [ho]
    unfold wpList at h1
    split
    · rename_i hwd
      rw [if_pos hwd] at h1
      rcases h1 with h1 | h1
      · exact .inl (Oper.wp_mono (fun a' w' h' => ⟨hend, h'⟩) h1)
      · exact .inr h1
    · rename_i hwd
      rw [if_neg hwd] at h1
      exact ⟨hend, h1⟩
  | fuel + 1, listed, a, w, hw, h => ⟨fun e => (by obtain ⟨i, hi⟩ := h.1; rw [e] at hi; cases hi), fun i hi => wpOp_of_qOp hw (fun a' w' hw' h' => wpAny_of_K hmask hend ho hT fuel _ a' w' hw' h') (h.2 i hi)⟩

def maskOf (n k : Nat) : Array Bool := ((List.replicate k true) ++ List.replicate (n - k) false).toArray
/-- all that is asked of the region's text, as one Bool -/
def regB (l : List Oper) (k : Nat) : Bool :=
  lastB .any l.toArray k && (Region.ready .any l.toArray (maskOf l.length k) == [k]) && (Region.ready .any l.toArray ((maskOf l.length k).setIfInBounds k true) == []) && Region.noSelect l.toArray && lexK .any l.toArray k (maskOf l.length k) k 0 (Array.replicate l.length false)
/-- THE LAW -/
theorem wp_region_last {id : Nat} {Q : Exit → Go.Act → World → Prop} {a : Go.Act} {w : World} {l pre : List Oper} {o : Oper} (k : Nat) (hm : P.follows .mixedOrders = true) (hB : regB l k = true) (ho : l[k]? = some o) (hp : l.take k = pre)
    (h : wpQuiet P l.toArray (fun w' => ∃ n, w' = w.drewN n) (fun a' => ∀ w', (∃ n, w' = w.drewN n) → wpList P l.toArray Q [o] a' w') pre a) : (Code.region id l.toArray true).wp P Q a w := by
  unfold regB at hB
  simp only [Bool.and_eq_true, beq_iff_eq] at hB
  obtain ⟨⟨⟨⟨h1, h2⟩, h3⟩, h4⟩, h5⟩ := hB
  have hk := (List.getElem?_eq_some_iff.1 ho).1
  have hlp : pre.length = k := by rw [← hp, List.length_take]; omega
  have hsz : k + 1 = l.length := by
    unfold lastB at h1
    rw [Bool.and_eq_true] at h1
    simpa using h1.1
  refine wp_region_any hm ?_
  have hK := wpAnyK_lex (P := P) (C := fun w' => ∃ n, w' = w.drewN n) (T := fun a' => ∀ w', (∃ n, w' = w.drewN n) → wpList P l.toArray Q [o] a' w') h1 h2 h4 pre 0 (Array.replicate l.length false) a
    (fun j hj => by rw [← hp, List.getElem?_take, if_pos (by omega)]; simp) (closed_init _ _ _) (by rw [hlp]; exact h5) h
  have hfin := wpAny_of_K (Q := Q) h2 h3 (by simpa using ho) (fun a' w' hw' ht => ht w' hw') pre.length _ _ { w with drawn := w.drawn + 1 } ⟨1, rfl⟩ hK
  rw [hlp, hsz] at hfin
  simpa using hfin
end
end Go.Proofs.Ytedpiikdlpehjaa.Dsk
