/- Laying as a plain function, and that what is laid is taken. -/
import Derived.Test.YtoamfmockinknaaDoorBlockPlain2
import Derived.Test.YtoamfmockinknaaDoorRowsPlain
namespace Go.Proofs.YtoamfmockinknaaDoor.Blk
open Rws (lns lns_nil lns_next line aft bef chop has trL is32 aft_len bef_len not10)
set_option linter.unusedSimpArgs false
set_option linter.unusedVariables false

/-- how a text ends -/
def chC (s : Ln) : Int := match s.reverse with
  | 10 :: 10 :: _ => 2
  | 10 :: _ => 0
  | _ => 1
/-- whether lines can stand: whether one that is not empty was found -/
def stC : Bool → List Ln → Bool
  | f, [] => f
  | f, x :: r => if x = [] then stC f r else if (x.getLast? == some 32 || (trL x).head? == some 9) = true then false
    else if f = false ∧ trL x ≠ x then false else stC true r

theorem chC_one (Z : Ln) (b : UInt8) (h : b ≠ 10) : chC (Z ++ [b]) = 1 := by
  unfold chC
  rw [List.reverse_append, List.reverse_singleton, List.singleton_append]
  split
  · rename_i h2; simp at h2; exact absurd h2.1 h
  · rename_i h2; simp at h2; exact absurd h2.1 h
  · rfl
theorem chC_clip (Z : Ln) (b : UInt8) (h : b ≠ 10) : chC (Z ++ [b] ++ [10]) = 0 := by
  unfold chC
  rw [List.reverse_append, List.reverse_append, List.reverse_singleton, List.reverse_singleton, List.singleton_append, List.singleton_append]
  split
  · rename_i h2; simp at h2; exact absurd h2.1 h
  · rfl
  · rename_i h2 h3; exact absurd rfl (h3 _)
theorem chC_keep (Z : Ln) : chC (Z ++ [10] ++ [10]) = 2 := by
  unfold chC
  rw [List.reverse_append, List.reverse_append, List.reverse_singleton, List.singleton_append, List.singleton_append]
  rfl

/-! ### lines of a text, both ways -/
theorem has_c (c b : UInt8) (r : Ln) : has c (b :: r) = (b == c || has c r) := by simp [has]
theorem spl_no : ∀ s : Ln, has 10 s = false → spl s = [s]
  | [], _ => rfl
  | b :: r, h => by
    rw [has_c] at h
    simp only [Bool.or_eq_false_iff] at h
    rw [spl, if_neg (by simpa using h.1), spl_no r h.2]
theorem bef_c (b : UInt8) (r : Ln) (h : b ≠ 10) : bef (b :: r) = b :: bef r := by
  unfold bef
  rw [List.takeWhile_cons, if_pos (by simpa [not10] using h)]
theorem aft_c (b : UInt8) (r : Ln) (h : b ≠ 10) : aft (b :: r) = aft r := by
  unfold aft
  rw [bef_c b r h]
  rfl
theorem bef_10 (r : Ln) : bef (10 :: r) = [] := rfl
theorem aft_10 (r : Ln) : aft (10 :: r) = r := rfl
theorem spl_yes : ∀ s : Ln, has 10 s = true → spl s = bef s :: spl (aft s)
  | [], h => by cases h
  | b :: r, h => by
    by_cases hb : b = 10
    · subst hb
      rw [spl, if_pos rfl, bef_10, aft_10]
    · have h2 : has 10 r = true := by rw [has_c] at h; simpa [hb] using h
      rw [spl, if_neg hb, spl_yes r h2, bef_c b r hb, aft_c b r hb]
theorem cut_eq : ∀ s : Ln, has 10 s = true → s = bef s ++ 10 :: aft s
  | [], h => by cases h
  | b :: r, h => by
    by_cases hb : b = 10
    · subst hb
      rw [bef_10, aft_10]; rfl
    · have h2 : has 10 r = true := by rw [has_c] at h; simpa [hb] using h
      have ih := cut_eq r h2
      rw [bef_c b r hb, aft_c b r hb, List.cons_append, ← ih]
theorem has_mem {c : UInt8} {s : Ln} : has c s = false ↔ c ∉ s := by
  unfold has
  rw [List.any_eq_false]
  constructor
  · intro h hc; exact h c hc (by simp)
  · intro h x hx hq; simp at hq; exact h (hq ▸ hx)
theorem bef_all : ∀ s : Ln, has 10 s = false → bef s = s
  | [], _ => rfl
  | b :: r, h => by
    rw [has_c] at h
    simp only [Bool.or_eq_false_iff] at h
    rw [bef_c b r (by simpa using h.1), bef_all r h.2]
def ends (s : Ln) : Prop := s = [] ∨ s.getLast? = some 10
theorem lns_spl (n : Nat) : ∀ s : Ln, s.length ≤ n → has 13 s = false → (ends s → spl s = lns s ++ [[]]) ∧ (¬ ends s → spl s = lns s) := by
  induction n with
  | zero =>
    intro s hs _
    obtain rfl : s = [] := List.eq_nil_of_length_eq_zero (by omega)
    exact ⟨fun _ => rfl, fun h => absurd (.inl rfl) h⟩
  | succ n ih =>
    intro s hs h13
    by_cases h0 : s = []
    · subst h0; exact ⟨fun _ => rfl, fun h => absurd (.inl rfl) h⟩
    rw [lns_next s h0]
    cases h10 : has 10 s
    · have ha : aft s = [] := by
        unfold aft
        rw [List.drop_of_length_le]
        have : bef s = s := by
          exact bef_all s h10
        rw [this]; omega
      have hl : line s = s := by unfold line; rw [h10]; rfl
      rw [spl_no s h10, ha, lns_nil, hl]
      refine ⟨fun h => ?_, fun _ => rfl⟩
      rcases h with h | h
      · exact absurd h h0
      · exact absurd (List.mem_of_getLast? h) (has_mem.1 h10)
    · have hc := cut_eq s h10
      have h13b : 13 ∉ bef s := fun h => has_mem.1 h13 (by rw [hc]; simp [h])
      have h13a : has 13 (aft s) = false := has_mem.2 (fun h => has_mem.1 h13 (by rw [hc]; simp [h]))
      have hl : line s = bef s := by
        unfold line
        rw [h10, if_pos rfl]
        unfold chop
        rw [if_neg (fun h => h13b (List.mem_of_getLast? h))]
      have hal := aft_len s h0
      obtain ⟨i1, i2⟩ := ih (aft s) (by omega) h13a
      have he : ends s ↔ ends (aft s) := by
        unfold ends
        by_cases ha : aft s = []
        · rw [ha] at hc ⊢
          simp only [true_or, iff_true]
          right
          rw [hc]; simp
        · have hg : s.getLast? = (aft s).getLast? := by
            conv => lhs; rw [hc]
            rw [List.getLast?_append, List.getLast?_cons]
            cases hq : (aft s).getLast? with
            | none => exact absurd (List.getLast?_eq_none_iff.1 hq) ha
            | some v => simp
          rw [hg]
          simp [h0, ha]
      rw [spl_yes s h10, hl]
      exact ⟨fun h => by rw [i1 (he.1 h)]; rfl, fun h => by rw [i2 (fun q => h (he.2 q))]⟩
theorem spl_no10 : ∀ s : Ln, ∀ x ∈ spl s, (10 : UInt8) ∉ x
  | [], x, hx => by simp [spl] at hx; simp [hx]
  | b :: r, x, hx => by
    have ih := spl_no10 r
    rw [spl] at hx
    by_cases h : b = 10
    · rw [if_pos h] at hx
      rcases List.mem_cons.1 hx with rfl | hx
      · simp
      · exact ih x hx
    · rw [if_neg h] at hx
      cases hs : spl r with
      | nil => exact absurd hs (spl_ne r)
      | cons y t =>
        rw [hs] at hx ih
        simp only at hx
        rcases List.mem_cons.1 hx with rfl | hx
        · intro hc
          rcases List.mem_cons.1 hc with e | hc
          · exact h e.symm
          · exact ih y (by simp) hc
        · exact ih x (by simp [hx])

/-! ### what is laid is the text -/
theorem stC_ex : ∀ (l : List Ln), stC false l = true → ∃ x ∈ l, x ≠ []
  | [], h => by cases h
  | x :: r, h => by
    by_cases hx : x = []
    · rw [stC, if_pos hx] at h
      obtain ⟨y, hy, hn⟩ := stC_ex r h
      exact ⟨y, by simp [hy], hn⟩
    · exact ⟨x, by simp, hx⟩
theorem trm_snoc (l : List Ln) : trm l = [] ∨ ∃ A y, trm l = A ++ [y] ∧ y ≠ [] := by
  unfold trm
  cases h : l.reverse.dropWhile (·.isEmpty) with
  | nil => exact .inl rfl
  | cons y t =>
    right
    refine ⟨t.reverse, y, by simp, ?_⟩
    intro e
    have := List.head_dropWhile_not (p := fun x : Ln => x.isEmpty) (l := l.reverse) (by rw [h]; simp)
    simp only [h, List.head_cons] at this
    rw [e] at this
    cases this
theorem trm_ne (l : List Ln) (h : ∃ x ∈ l, x ≠ []) : trm l ≠ [] := by
  intro e
  obtain ⟨n, hn⟩ := trm_split l
  obtain ⟨x, hx, hne⟩ := h
  rw [hn, e, List.nil_append] at hx
  exact hne (List.eq_of_mem_replicate hx)
theorem join_last (A : List Ln) (Y : Ln) (b : UInt8) : ∃ Z, joinW 10 (A ++ [Y ++ [b]]) = Z ++ [b] := by
  by_cases hA : A = []
  · subst hA; exact ⟨Y, rfl⟩
  · exact ⟨joinW 10 A ++ 10 :: Y, by rw [join_snoc 10 A _ hA]; simp⟩
theorem lay_txt (s : Ln) (h13 : has 13 s = false) (hst : stC false (lns s) = true) : txt false (chC s) (lns s) = s := by
  obtain ⟨i1, i2⟩ := lns_spl _ s (Nat.le_refl _) h13
  have hex := stC_ex _ hst
  have htn := trm_ne _ hex
  obtain ⟨k, hk⟩ := trm_split (lns s)
  rcases trm_snoc (lns s) with h | ⟨A, y, hA, hy⟩
  · exact absurd h htn
  obtain ⟨Y, b, rfl⟩ : ∃ Y b, y = Y ++ [b] := ⟨y.dropLast, y.getLast hy, (List.dropLast_concat_getLast hy).symm⟩
  have hys : Y ++ [b] ∈ spl s := by
    have : Y ++ [b] ∈ lns s := by rw [hk, hA]; simp
    by_cases he : ends s
    · rw [i1 he]; simp [this]
    · rw [i2 he]; exact this
  have hb : b ≠ 10 := by
    intro e
    exact spl_no10 s _ hys (by rw [e]; simp)
  obtain ⟨Z, hZ⟩ := join_last A Y b
  have hjs := join_spl s
  have hlen : (lns s).length - (trm (lns s)).length = k := by
    have := congrArg List.length hk
    rw [List.length_append, List.length_replicate] at this
    omega
  have hpos : 0 < (trm (lns s)).length := List.length_pos_iff.2 htn
  unfold txt body
  rw [hlen]
  simp only [Bool.false_eq_true, if_false]
  by_cases he : ends s
  · rw [i1 he, hk, List.append_assoc, show List.replicate k ([] : Ln) ++ [[]] = List.replicate (k + 1) [] from List.replicate_succ'.symm, join_nils 10 _ htn] at hjs
    cases k with
    | zero =>
      have hc : chC s = 0 := by
        rw [← hjs, hA, hZ]
        exact chC_clip Z b hb
      rw [hc]
      unfold ed
      rw [if_pos ⟨hpos, by decide⟩, if_neg (by decide)]
      exact hjs
    | succ k =>
      have hc : chC s = 2 := by
        rw [← hjs, List.replicate_succ', List.replicate_succ', ← List.append_assoc, ← List.append_assoc]
        exact chC_keep _
      rw [hc]
      unfold ed
      rw [if_pos ⟨hpos, by decide⟩, if_pos rfl, Nat.add_comm 1]
      exact hjs
  · rw [i2 he] at hjs
    rw [hk, join_nils 10 _ htn] at hjs
    cases k with
    | zero =>
      rw [List.replicate_zero, List.append_nil] at hjs
      have hc : chC s = 1 := by
        rw [← hjs, hA, hZ]
        exact chC_one Z b hb
      rw [hc]
      unfold ed
      rw [if_neg (fun h => h.2 rfl), if_neg (by decide)]
      simpa using hjs
    | succ k =>
      exfalso
      apply he
      right
      rw [← hjs, List.replicate_succ', ← List.append_assoc, List.getLast?_append]
      simp

/-! ### rows of lines -/
def nb (x : Ln) : Nat := (x.takeWhile is32).length
theorem nb_le (x : Ln) : nb x ≤ x.length := (List.takeWhile_sublist _).length_le
theorem nb_drop : ∀ x : Ln, x.drop (nb x) = trL x
  | [] => rfl
  | b :: r => by
    have ih := nb_drop r
    unfold nb trL at *
    rw [List.takeWhile_cons, List.dropWhile_cons]
    split
    · simpa using ih
    · rfl
theorem nb_split : ∀ x : Ln, List.replicate (nb x) 32 ++ trL x = x
  | [] => rfl
  | b :: r => by
    have ih := nb_split r
    unfold nb trL at *
    rw [List.takeWhile_cons, List.dropWhile_cons]
    by_cases h : is32 b = true
    · rw [if_pos h, if_pos h, List.length_cons, List.replicate_succ, List.cons_append, ih]
      have : b = 32 := by simpa [is32] using h
      rw [this]
    · rw [if_neg h, if_neg h]; rfl
theorem trL_ne (x : Ln) (h : x ≠ []) (hl : ¬ x.getLast? = some 32) : trL x ≠ [] := by
  intro e
  have := nb_split x
  rw [e, List.append_nil] at this
  cases hn : nb x with
  | zero => rw [hn] at this; exact h this.symm
  | succ n =>
    rw [hn] at this
    apply hl
    rw [← this, List.replicate_succ', List.getLast?_append]
    simp
theorem nb_zero (x : Ln) (h : trL x = x) : nb x = 0 := by
  have h1 := nb_split x
  have h2 := congrArg List.length h1
  rw [List.length_append, List.length_replicate, h] at h2
  omega
/-- lines as rows of a column -/
def atR (c : Int) : Nat → List Ln → List Rw
  | _, [] => []
  | k, x :: r => (c + nb x, x.drop (nb x), (k : Int)) :: atR c (k + 1) r
theorem atR_len (c : Int) : ∀ (k : Nat) (l : List Ln), (atR c k l).length = l.length
  | _, [] => rfl
  | k, x :: r => by rw [atR, List.length_cons, List.length_cons, atR_len c (k + 1) r]
theorem atR_app (c : Int) : ∀ (k : Nat) (l m : List Ln), atR c k (l ++ m) = atR c k l ++ atR c (k + l.length) m
  | k, [], m => rfl
  | k, x :: r, m => by rw [List.cons_append, atR, atR, atR_app c (k + 1) r m, List.cons_append, List.length_cons, show k + 1 + r.length = k + (r.length + 1) by omega]
theorem rws_at (c : Nat) (B : List Rw) (hB : rws B c = []) : ∀ (k : Nat) (l : List Ln), rws (atR ((c : Int) + 1) k l ++ B) c = atR ((c : Int) + 1) k l
  | _, [] => hB
  | k, x :: r => by
    rw [atR, List.cons_append, rws_cons, if_pos, rws_at c B hB (k + 1) r]
    right
    show (c : Int) < ((mx ((c : Int) + 1 + (nb x : Int)) : Nat) : Int)
    unfold mx
    omega
theorem lo_at (c : Nat) : ∀ (l : List Ln) (k : Nat), stC true l = true → (∀ x ∈ l, x.length ≤ 65536) → lo (some (c + 1)) (atR ((c : Int) + 1) k l) = .inl l
  | [], k, _, _ => rfl
  | x :: r, k, hs, hl => by
    have hr : ∀ y ∈ r, y.length ≤ 65536 := fun y hy => hl y (by simp [hy])
    rw [atR]
    by_cases hx : x = []
    · subst hx
      rw [stC, if_pos rfl] at hs
      rw [lo, if_pos (show (((c : Int) + 1 + (nb [] : Int), List.drop (nb []) ([] : Ln), (k : Int)) : Rw).2.1 = [] from rfl), lo_at c r _ hs hr]
      rfl
    · rw [stC, if_neg hx] at hs
      split at hs
      · cases hs
      rename_i hbad
      rw [if_neg (fun h => by cases h.1)] at hs
      have hlast : ¬ x.getLast? = some 32 := fun h => hbad (by simp [h])
      have hne : x.drop (nb x) ≠ [] := by rw [nb_drop]; exact trL_ne x hx hlast
      have hm : mx ((c : Int) + 1 + (nb x : Int)) = c + 1 + nb x := by unfold mx; omega
      have h1 := nb_le x
      have h2 := hl x (by simp)
      rw [lo, if_neg hne]
      simp only [Option.getD_some, hm]
      rw [if_neg (by omega), lo_at c r _ hs hr, show c + 1 + nb x - (c + 1) = nb x by omega, nb_drop, nb_split]
      rfl
theorem lo_lay (c : Nat) : ∀ (l : List Ln) (k : Nat), stC false l = true → (∀ x ∈ l, x.length ≤ 65536) → lo none (atR ((c : Int) + 1) k l) = .inl l
  | [], k, _, _ => rfl
  | x :: r, k, hs, hl => by
    have hr : ∀ y ∈ r, y.length ≤ 65536 := fun y hy => hl y (by simp [hy])
    rw [atR]
    by_cases hx : x = []
    · subst hx
      rw [stC, if_pos rfl] at hs
      rw [lo, if_pos (show (((c : Int) + 1 + (nb [] : Int), List.drop (nb []) ([] : Ln), (k : Int)) : Rw).2.1 = [] from rfl), lo_lay c r _ hs hr]
      rfl
    · rw [stC, if_neg hx] at hs
      split at hs
      · cases hs
      rename_i hbad
      by_cases ht : trL x = x
      · rw [if_neg (fun h => h.2 ht)] at hs
        have hz := nb_zero x ht
        have hm : mx ((c : Int) + 1 + (nb x : Int)) = c + 1 := by unfold mx; omega
        rw [lo, if_neg (by rw [nb_drop, ht]; exact hx)]
        simp only [Option.getD_none, hm]
        rw [if_neg (by omega), lo_at c r _ hs hr, Nat.sub_self, nb_drop, ht]
        rfl
      · rw [if_pos ⟨rfl, ht⟩] at hs
        cases hs

end Go.Proofs.YtoamfmockinknaaDoor.Blk
