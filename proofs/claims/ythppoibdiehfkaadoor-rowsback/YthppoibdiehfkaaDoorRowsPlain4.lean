/- Rows that were read and written are read as they were: plain facts. -/
import Derived.Test.YthppoibdiehfkaaDoorRowsPlain3
import Derived.Test.YthppoibdiehfkaaDoorRowsPlain2
import Derived.Test.YthppoibdiehfkaaDoorRowsWrite
import Derived.Test.YthppoibdiehfkaaDoorUtfPlain3
namespace Go.Proofs.YthppoibdiehfkaaDoor.Rws
open Utf
set_option linter.unusedSimpArgs false
set_option linter.unusedVariables false

theorem orL {a b : Bool} (h : (a || b) = false) : a = false := by
  cases a
  · rfl
  · cases h
theorem prn_nonneg {n : Int} (h : prn n = true) : 0 ≤ n := by
  unfold prn inR at h
  simp only [Bool.or_eq_true, Bool.and_eq_true, beq_iff_eq, decide_eq_true_eq] at h
  omega
theorem rest_at {n : Int} (h0 : 0 ≤ n) (h1 : n ≤ 1114111) (i : Nat) (hi : 1 ≤ i) (hl : i < (u8s (byt n)).length) : (u8s (byt n)).getD i 0 ≠ 32 := by
  have key : ∀ x : Int, 128 ≤ x → x < 256 → UInt8.ofNat x.toNat ≠ 32 := by
    intro x hx hx' e
    have := toNat_u8 (x := x) (by omega) hx'
    rw [e] at this
    have h32 : (32 : UInt8).toNat = 32 := rfl
    omega
  unfold u8s byt at *
  split at hl
  · simp at hl; omega
  · rename_i g1
    rw [if_neg g1]
    split at hl
    · rename_i g2
      rw [if_pos g2]
      simp at hl
      obtain rfl : i = 1 := by omega
      simp
      exact key _ (by omega) (by omega)
    · rename_i g2
      rw [if_neg g2]
      split at hl
      · rename_i g3
        rw [if_pos g3]
        simp at hl
        rcases (show i = 1 ∨ i = 2 by omega) with rfl | rfl <;> simp <;> exact key _ (by omega) (by omega)
      · rename_i g3
        rw [if_neg g3]
        simp at hl
        rcases (show i = 1 ∨ i = 2 ∨ i = 3 by omega) with rfl | rfl | rfl <;> simp <;> exact key _ (by omega) (by omega)
theorem chk_pre (m : Nat) : ∀ (a : List UInt8) (d : Nat), a.length ≤ m → chk (a ++ List.replicate d 32) = none → chk a = none := by
  induction m with
  | zero => intro a d ha _; obtain rfl : a = [] := List.eq_nil_iff_length_eq_zero.2 (by omega); rfl
  | succ m ih =>
    intro a d ha h
    by_cases ha0 : a = []
    · subst ha0; rfl
    · have hl0 : a ++ List.replicate d 32 ≠ [] := by simp [ha0]
      have hpos : 0 < a.length := List.length_pos_iff.2 ha0
      have hn := chk_next _ hl0
      rw [h] at hn
      have hp : prn (fst (a ++ List.replicate d 32)).1 = true := by
        cases hq : prn (fst (a ++ List.replicate d 32)).1
        · rw [hq] at hn; simp at hn
        · rfl
      rw [hp, if_pos rfl] at hn
      have hd0 : chk ((a ++ List.replicate d 32).drop (fk (a ++ List.replicate d 32))) = none := by
        cases hq : chk ((a ++ List.replicate d 32).drop (fk (a ++ List.replicate d 32))) with
        | none => rfl
        | some q => rw [hq] at hn; simp at hn
      obtain ⟨s1, s2, s3⟩ := fst_sound _ (prn_nonneg hp)
      obtain ⟨n, hnn⟩ : ∃ n, n = (fst (a ++ List.replicate d 32)).1 := ⟨_, rfl⟩
      rw [← hnn] at s1 s2 s3 hp
      have hb := sgn_bd s1
      have hfk : fk (a ++ List.replicate d 32) = (byt n).length := by unfold fk; rw [s2]; simp
      have hbl := byt_len n
      have hu : (u8s (byt n)).length = (byt n).length := by unfold u8s; simp
      have hll : (byt n).length ≤ a.length + d := by
        have := congrArg List.length s3
        rw [List.length_append, List.length_append, List.length_replicate, hu] at this
        omega
      have hk : (byt n).length ≤ a.length := by
        by_cases hlt : (byt n).length ≤ a.length
        · exact hlt
        · exfalso
          have h1 := rest_at hb.1 hb.2.1 a.length (by omega) (by omega)
          apply h1
          have e := congrArg (fun l : List UInt8 => l.getD a.length 0) s3
          simp only [List.getD_eq_getElem?_getD] at e ⊢
          rw [List.getElem?_append_right (Nat.le_refl _), Nat.sub_self, List.getElem?_append_left (by omega)] at e
          rw [← e, List.getElem?_replicate]
          rw [if_pos (by omega)]
          rfl
      have ht : a.take (byt n).length = u8s (byt n) := by
        have e := congrArg (List.take (byt n).length) s3
        rw [List.take_append_of_le_length hk, List.take_append_of_le_length (by omega)] at e
        rw [e, List.take_of_length_le (by omega)]
      have hae : a = u8s (byt n) ++ a.drop (byt n).length := by rw [← ht, List.take_append_drop]
      have hfa : fst a = (n, ((byt n).length : Int)) := by rw [hae]; exact fst_enc s1 _
      have hfka : fk a = (byt n).length := by unfold fk; rw [hfa]; simp
      have hi := ih (a.drop (byt n).length) d (by rw [List.length_drop]; omega) (by
        rw [hfk, List.drop_append_of_le_length hk] at hd0; exact hd0)
      rw [chk_next a ha0, hfa, hfka]
      simp only
      rw [hp, if_pos rfl, hi]
      rfl

theorem has_app (c : UInt8) (a b : List UInt8) : has c (a ++ b) = (has c a || has c b) := by unfold has; rw [List.any_append]
theorem has_rep (c : UInt8) (hc : c ≠ 32) (n : Nat) : has c (List.replicate n 32) = false := by
  unfold has
  rw [List.any_eq_false]
  intro x hx
  obtain ⟨_, rfl⟩ := List.mem_replicate.1 hx
  simp; exact Ne.symm hc
/-- a line is its blanks, its text, and blanks -/
theorem trL_split (l : List UInt8) : l = List.replicate (col l) 32 ++ trL l := by
  induction l with
  | nil => rfl
  | cons b r ih =>
    have h := trL_len r
    unfold col at *
    rw [trL_cons]
    split
    · rename_i hb
      have e : b = 32 := by unfold is32 at hb; simpa using hb
      have e2 : (b :: r).length - (trL r).length = (r.length - (trL r).length) + 1 := by simp; omega
      rw [e2, List.replicate_succ, List.cons_append, ← ih, e]
    · simp
theorem trR_split (l : List UInt8) : ∃ d, l = trR is32 l ++ List.replicate d 32 := by
  have h := trL_split l.reverse
  unfold trR
  have e : l.reverse.dropWhile is32 = trL l.reverse := rfl
  rw [e]
  refine ⟨col l.reverse, ?_⟩
  have h2 := congrArg List.reverse h
  rw [List.reverse_reverse, List.reverse_append, List.reverse_replicate] at h2
  exact h2
theorem trL_head (l : List UInt8) : trL l = [] ∨ ∃ b r, trL l = b :: r ∧ is32 b = false := by
  induction l with
  | nil => exact .inl rfl
  | cons b r ih =>
    rw [trL_cons]
    split
    · exact ih
    · rename_i hb; exact .inr ⟨b, r, rfl, by simpa using hb⟩
theorem trR_keep (b : UInt8) (r : List UInt8) (hb : is32 b = false) : ∃ r', trR is32 (b :: r) = b :: r' := by
  have key : ∀ m, ∀ r : List UInt8, r.length ≤ m → ∃ r', trR is32 (b :: r) = b :: r' := by
    intro m
    induction m with
    | zero =>
      intro r hr
      obtain rfl : r = [] := List.eq_nil_iff_length_eq_zero.2 (by omega)
      have := trR_snoc is32 [] b
      rw [hb] at this
      exact ⟨[], by simpa using this⟩
    | succ m ih =>
      intro r hr
      by_cases h0 : r = []
      · subst h0
        have := trR_snoc is32 [] b
        rw [hb] at this
        exact ⟨[], by simpa using this⟩
      · obtain ⟨q, x, rfl⟩ := snoc_ex r h0
        have e := trR_snoc is32 (b :: q) x
        rw [List.cons_append] at e
        rw [e]
        split
        · exact ih q (by simp at hr; omega)
        · exact ⟨q ++ [x], rfl⟩
  exact key _ r (Nat.le_refl _)
/-- the line that is written of a row -/
def lin (l : List UInt8) : List UInt8 := List.replicate (col l) 32 ++ text l
theorem lin_pre (l : List UInt8) : ∃ d, l = lin l ++ List.replicate d 32 := by
  obtain ⟨d, hd⟩ := trR_split (trL l)
  refine ⟨d, ?_⟩
  unfold lin text
  rw [List.append_assoc, ← hd]
  exact trL_split l
theorem text_nil (l : List UInt8) (h : text l = []) : trL l = [] := by
  rcases trL_head l with h1 | ⟨b, r, h1, h2⟩
  · exact h1
  · unfold text at h
    rw [h1] at h
    obtain ⟨r', e⟩ := trR_keep b r h2
    rw [e] at h; cases h
theorem trL_rep (n : Nat) (m : List UInt8) : trL (List.replicate n 32 ++ m) = trL m := by
  induction n with
  | zero => rfl
  | succ n ih => rw [List.replicate_succ, List.cons_append, trL_cons]; exact ih
theorem lin_facts (l : List UInt8) : trL (lin l) = text l ∧ text (lin l) = text l ∧ col (lin l) = col l := by
  have h1 : trL (lin l) = text l := by
    unfold lin
    rw [trL_rep]
    cases ht : text l with
    | nil => rfl
    | cons b r =>
      have hb : is32 b = false := by
        rcases trL_head l with h1 | ⟨c, q, h1, h2⟩
        · unfold text at ht; rw [h1] at ht; cases ht
        · obtain ⟨r', e⟩ := trR_keep c q h2
          unfold text at ht
          rw [h1, e] at ht
          cases ht; exact h2
      rw [trL_cons, hb]; rfl
  refine ⟨h1, ?_, ?_⟩
  · have e : text (lin l) = trR is32 (trL (lin l)) := rfl
    rw [e, h1]
    unfold text
    exact trR_idem _ _
  · have e : col (lin l) = (lin l).length - (trL (lin l)).length := rfl
    rw [e, h1]
    unfold lin
    rw [List.length_append, List.length_replicate]
    omega
theorem lin_len (l : List UInt8) : (lin l).length ≤ l.length := by
  obtain ⟨d, hd⟩ := lin_pre l
  have := congrArg List.length hd
  rw [List.length_append] at this
  omega
theorem lin_wr (l : List UInt8) (h : wr l = 0) : wr (lin l) = 0 ∧ has 13 (lin l) = false := by
  obtain ⟨d, hd⟩ := lin_pre l
  obtain ⟨_, f2, _⟩ := lin_facts l
  have hbad : bad l = false := by
    cases hb : bad l
    · rfl
    · unfold wr at h; rw [hb] at h; simp at h
  have h13 : has 13 l = false := by unfold bad at hbad; exact orL hbad
  have hchk : chk l = none := by
    unfold bad at hbad; rw [h13] at hbad
    cases hq : chk l with
    | none => rfl
    | some p => rw [hq] at hbad; cases hbad
  have g13 : has 13 (lin l) = false := by
    rw [hd, has_app] at h13
    exact orL h13
  have gchk : chk (lin l) = none := chk_pre _ (lin l) d (Nat.le_refl _) (by rw [← hd]; exact hchk)
  have gbad : bad (lin l) = false := by unfold bad; rw [g13, gchk]; rfl
  refine ⟨?_, g13⟩
  unfold wr at h ⊢
  rw [gbad, f2]
  rw [hbad] at h
  exact h
theorem lns_no10 (m : Nat) : ∀ s : List UInt8, s.length ≤ m → ∀ l ∈ lns s, has 10 l = false := by
  induction m with
  | zero => intro s hs; obtain rfl : s = [] := List.eq_nil_iff_length_eq_zero.2 (by omega); simp [lns_nil]
  | succ m ih =>
    intro s hs l hl
    by_cases h0 : s = []
    · subst h0; simp [lns_nil] at hl
    · rw [lns_next s h0] at hl
      have ha := aft_len s h0
      rcases List.mem_cons.1 hl with rfl | hl
      · unfold line
        split
        · have hb : has 10 (bef s) = false := by
            unfold has
            rw [List.any_eq_false]
            intro x hx
            have := List.all_eq_true.1 (List.all_takeWhile (p := not10) (l := s)) x hx
            unfold not10 at this
            simpa using this
          unfold chop
          split
          · unfold has at hb ⊢
            rw [List.any_eq_false] at hb ⊢
            exact fun x hx => hb x ((List.dropLast_sublist _).subset hx)
          · exact hb
        · rename_i h; simpa using h
      · exact ih (aft s) (by omega) l hl
theorem lns_put (a r : List UInt8) (h10 : has 10 a = false) (h13 : has 13 a = false) : lns (a ++ [10] ++ r) = a :: lns r := by
  have hh : has 10 (a ++ [10]) = true := by rw [has_app]; simp [has]
  have hbe : bef (a ++ [10]) = a := by
    have key : ∀ a : List UInt8, has 10 a = false → bef (a ++ [10]) = a := by
      intro a
      induction a with
      | nil => intro _; rfl
      | cons b q ih =>
        intro h
        rw [has_cons] at h
        have h1 : (b == 10) = false := by cases hq : (b == 10) <;> simp_all
        have h2 : has 10 q = false := by cases hq : has 10 q <;> simp_all
        have h3 : not10 b = true := by unfold not10; simpa using h1
        have := ih h2
        unfold bef at this ⊢
        rw [List.cons_append, List.takeWhile_cons, h3, if_pos rfl, this]
    exact key a h10
  obtain ⟨b1, b2, b3⟩ := bef_app (a ++ [10]) r hh
  rw [lns_next _ (by simp)]
  have hl : line (a ++ [10] ++ r) = a := by
    unfold line
    rw [b2, if_pos rfl, b1, hbe]
    unfold chop
    rw [if_neg]
    intro hlast
    have : 13 ∈ a := List.mem_of_getLast? hlast
    unfold has at h13
    rw [List.any_eq_false] at h13
    exact h13 13 this (by simp)
  have ha : aft (a ++ [10]) = [] := by unfold aft; rw [hbe]; exact List.drop_of_length_le (by simp)
  rw [hl, b3, ha]; rfl
/-- what is written of a text's rows -/
def txt (L : List (List UInt8)) : List UInt8 := L.flatMap fun l => lin l ++ [10]
theorem lns_txt (L : List (List UInt8)) (h : okay L = true) (h10 : ∀ l ∈ L, has 10 l = false) : lns (txt L) = L.map lin := by
  induction L with
  | nil => rfl
  | cons l r ih =>
    unfold okay at h
    rw [List.all_cons, Bool.and_eq_true] at h
    have hw : wr l = 0 := by simpa using h.1
    have e : txt (l :: r) = lin l ++ [10] ++ txt r := by unfold txt; rw [List.flatMap_cons]
    have hl10 : has 10 (lin l) = false := by
      obtain ⟨d, hd⟩ := lin_pre l
      have := h10 l (List.mem_cons_self ..)
      rw [hd, has_app] at this
      exact orL this
    rw [e, lns_put _ _ hl10 (lin_wr l hw).2, ih h.2 (fun x hx => h10 x (List.mem_cons_of_mem _ hx)), List.map_cons]
theorem okay_lin (L : List (List UInt8)) (h : okay L = true) : okay (L.map lin) = true := by
  unfold okay at h ⊢
  rw [List.all_map]
  rw [List.all_eq_true] at h ⊢
  intro l hl
  have hw : wr l = 0 := by have := h l hl; simpa using this
  simp [(lin_wr l hw).1]
theorem num_lin (L : List (List UInt8)) (k : Nat) (hb : ∀ l ∈ L, l.length ≤ 140737488355328) : (num k (L.map lin)).map r3 = (num k L).map r3 := by
  induction L generalizing k with
  | nil => rfl
  | cons l r ih =>
    rw [List.map_cons, num, num, List.map_cons, List.map_cons, ih _ (fun x hx => hb x (List.mem_cons_of_mem _ hx))]
    congr 1
    have h1 := hb l (List.mem_cons_self ..)
    obtain ⟨_, f2, f3⟩ := lin_facts l
    unfold r3
    simp only
    rw [cl_val h1, cl_val (Nat.le_trans (lin_len l) h1), f2, f3]
theorem wrt_num (L : List (List UInt8)) (k : Nat) (hb : ∀ l ∈ L, l.length ≤ 65536) : wrt ((num k L).map r3) = txt L := by
  induction L generalizing k with
  | nil => rfl
  | cons l r ih =>
    have h1 := hb l (List.mem_cons_self ..)
    have e := ih (k + 1) (fun x hx => hb x (List.mem_cons_of_mem _ hx))
    rw [num, List.map_cons]
    unfold wrt txt at *
    rw [List.flatMap_cons, List.flatMap_cons, e]
    congr 1
    unfold wr1 r3 lin
    simp only
    rw [cl_val (by omega), mk_data]
    have hc : clamp ((col l : Nat) : Int) = col l := by
      unfold clamp
      have : col l ≤ l.length := by unfold col; omega
      omega
    rw [hc]
theorem txt_len (L : List (List UInt8)) (hb : ∀ l ∈ L, l.length ≤ 65536) : (txt L).length ≤ L.length * 65537 := by
  induction L with
  | nil => simp [txt]
  | cons l r ih =>
    have h1 := hb l (List.mem_cons_self ..)
    have h2 := ih (fun x hx => hb x (List.mem_cons_of_mem _ hx))
    have h3 := lin_len l
    have e : txt (l :: r) = lin l ++ [10] ++ txt r := by unfold txt; rw [List.flatMap_cons]
    rw [e, List.length_append, List.length_append, List.length_cons, List.length_cons, List.length_nil]
    omega

end Go.Proofs.YthppoibdiehfkaaDoor.Rws
