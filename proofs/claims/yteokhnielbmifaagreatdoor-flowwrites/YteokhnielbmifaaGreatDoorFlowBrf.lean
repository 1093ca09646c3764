/- Trees that are read have short texts, and the text of a tree that may be is not too long: plain facts. -/
import Derived.Test.YteokhnielbmifaaGreatDoorFbQ
import Derived.Test.YteokhnielbmifaaGreatDoorFbP
import Derived.Test.YteokhnielbmifaaGreatDoorFbC
import Derived.Test.YteokhnielbmifaaGreatDoorFbM
import Derived.Test.YteokhnielbmifaaGreatDoorFbS
namespace Go.Proofs.YteokhnielbmifaaGreatDoor.Flw
open Utf Rws Pln
open Go.RowKit
set_option linter.unusedSimpArgs false
set_option linter.unusedVariables false
set_option maxRecDepth 100000

theorem rdF_short (q : UInt8) : ∀ (f : Nat) (l : Ln) (at_ : Nat) (out : Ln), out.length ≤ at_ → (Quo.rdF q f l at_ out).2.2.1 = 0 → (Quo.rdF q f l at_ out).1.length ≤ (Quo.rdF q f l at_ out).2.1
  | 0, l, at_, out, ho, h => by simp [Quo.rdF] at h
  | f + 1, l, at_, out, ho, h => by
    rw [Quo.rdF] at h ⊢
    by_cases h1 : (Quo.stp q l).1 = 0
    · rw [if_pos h1]; show out.length ≤ at_ + 1; omega
    rw [if_neg h1] at h ⊢
    by_cases h2 : (Quo.stp q l).1 = 1
    · rw [if_pos h2] at h ⊢
      exact rdF_short q f _ _ _ (by have := Quo.stp_le h2; rw [List.length_append]; omega) h
    rw [if_neg h2] at h
    by_cases h4 : (Quo.stp q l).1 = 4
    · rw [if_pos h4] at h; cases h
    · rw [if_neg h4] at h; exact absurd h h1
theorem rd_short (l : Ln) (h : (Quo.rd l).2.2.1 = 0) : (Quo.rd l).1.length ≤ l.length := by
  have h2 := (Quo.rd_means l h).2.2
  refine Nat.le_trans ?_ h2
  unfold Quo.rd at h ⊢
  by_cases c1 : l = []
  · rw [if_pos c1] at h; cases h
  rw [if_neg c1] at h ⊢
  by_cases c2 : l.getD 0 0 = 39 ∨ l.getD 0 0 = 34
  · rw [if_pos c2] at h ⊢
    exact rdF_short _ _ _ _ _ (by simp) h
  · rw [if_neg c2] at h; cases h
theorem quoted_short {l : Ln} {x : Ln × Ln} (h : quoted l = .ok x) : x.1.length ≤ l.length := by
  unfold quoted at h
  obtain ⟨hn, e⟩ := ite_inv h
  cases e
  exact rd_short l (by omega)
theorem leaf_short (k : Int) (s a : Ln) : (leaf k s a).text.length ≤ s.length ∧ (leaf k s a).anc = a ∧ (leaf k s a).kids = [] := by
  unfold leaf
  refine ⟨?_, rfl, rfl⟩
  show (if k = 1 then [] else s).length ≤ _
  split
  · exact Nat.zero_le _
  · exact Nat.le_refl _
theorem fits_short {s : Ln} {q : Bool} {p : Pr} {t : Tr} (h : fits s q p = .ok t) : t.text.length ≤ s.length ∧ t.anc = p.anc ∧ t.kids = [] := by
  unfold fits at h
  by_cases c4 : p.tag = 4
  · rw [if_pos c4] at h; cases h; exact leaf_short _ _ _
  · rw [if_neg c4] at h
    by_cases c0 : p.tag ≠ 0
    · rw [if_pos c0] at h
      obtain ⟨e, h⟩ := ite_inv h
      cases h
      exact leaf_short _ _ _
    · rw [if_neg c0] at h
      cases h
      exact leaf_short _ _ _
theorem key_short {l : Ln} {x : Tr × Ln} (h : key l = .ok x) : x.1.text.length ≤ l.length ∧ x.1.anc = [] ∧ x.1.kids = [] := by
  unfold key at h
  by_cases c : hd l = 39 ∨ hd l = 34
  · rw [if_pos c] at h
    obtain ⟨y, hy, h⟩ := bnd_inv h
    cases h
    exact ⟨quoted_short hy, rfl, rfl⟩
  · rw [if_neg c] at h
    obtain ⟨y, hy, h⟩ := bnd_inv h
    obtain ⟨hn, h⟩ := ite_inv h
    cases h
    have hq := plain_inv hy
    have := leaf_short (knd y.1) y.1 []
    exact ⟨by have := this.1; show (leaf (knd y.1) y.1 []).text.length ≤ _; omega, rfl, rfl⟩
theorem prp_short (f : Bool) (B : Nat) : ∀ (n : Nat) (p : Pr) (l : Ln) (x : Pr × Ln), p.anc.length ≤ B → l.length ≤ B → prp f n p l = .ok x → x.1.anc.length ≤ B
  | 0, p, l, x, hp, hl, h => by cases h; exact hp
  | n + 1, p, l, x, hp, hl, h => by
    unfold prp at h
    by_cases c1 : hd l = 38 ∧ p.anc = []
    · rw [if_pos c1] at h
      obtain ⟨y, hy, h⟩ := bnd_inv h
      obtain ⟨r, hr, h⟩ := bnd_inv h
      have h1 := nam_inv hy
      have h2 := gap_inv hr
      have h4 : (l.drop 1).length ≤ l.length := by rw [List.length_drop]; omega
      exact prp_short f B n _ r x (show y.1.length ≤ B by omega) (by omega) h
    · rw [if_neg c1] at h
      by_cases c2 : hd l = 33 ∧ hd (l.drop 1) = 33 ∧ p.tag = 0
      · rw [if_pos c2] at h
        obtain ⟨y, hy, h⟩ := bnd_inv h
        obtain ⟨r, hr, h⟩ := bnd_inv h
        have h1 := tag_inv hy
        have h2 := gap_inv hr
        have h4 : (l.drop 2).length ≤ l.length := by rw [List.length_drop]; omega
        exact prp_short f B n ⟨p.anc, y.1, l.length, true⟩ r x hp (by omega) h
      · rw [if_neg c2] at h
        cases h
        exact hp
theorem brief_leaf2 (d : Nat) {t : Tr} (h1 : t.text.length ≤ 65536) (h2 : t.anc.length ≤ 65536) (h3 : t.kids = []) : brief (d + 1) t := ⟨h1, h2, fun i hi => by rw [h3] at hi; exact absurd hi (Nat.not_lt_zero _)⟩
theorem part_short {v : Ln → Ot (Tr × Ln)} {d : Nat} (hv : ∀ l x, l.length ≤ 65536 → v l = .ok x → brief (d + 1) x.1) {map : Bool} {l : Ln} {x : List Tr × Ln} (hl : l.length ≤ 65536) (h : part v map l = .ok x) : ∀ k ∈ x.1, brief (d + 1) k := by
  unfold part at h
  cases map
  · rw [if_neg (by decide)] at h
    obtain ⟨_, h⟩ := ite_inv h
    obtain ⟨y, hy, h⟩ := bnd_inv h
    cases h
    intro k hk
    simp at hk
    rw [hk]
    exact hv _ _ hl hy
  · rw [if_pos rfl] at h
    obtain ⟨k, hk, h⟩ := bnd_inv h
    obtain ⟨hc, h⟩ := ite_inv h
    obtain ⟨y, hy, h⟩ := bnd_inv h
    cases h
    have h1 := key_short hk
    have h2 := key_inv hk
    have h3 := gaps_len k.2
    have h4 : ((gaps k.2).drop 1).length ≤ (gaps k.2).length := by rw [List.length_drop]; omega
    intro z hz
    simp at hz
    rcases hz with rfl | rfl
    · exact brief_leaf2 d (by omega) (by rw [h1.2.1]; simp) h1.2.2
    · exact hv _ _ (by omega) hy
theorem lst_short {v : Ln → Ot (Tr × Ln)} {d : Nat} (hi : ∀ l x, v l = .ok x → rgt d x.1 = true ∧ x.2.length + cntT d x.1 ≤ l.length + 1) (hv : ∀ l x, l.length ≤ 65536 → v l = .ok x → brief (d + 1) x.1) (map : Bool) :
    ∀ (n : Nat) (l : Ln) (x : List Tr × Ln), l.length ≤ 65536 → lst v map n l = .ok x → ∀ k ∈ x.1, brief (d + 1) k
  | 0, l, x, hl, h => by cases h
  | n + 1, l, x, hl, h => by
    have hg := gaps_len l
    unfold lst at h
    by_cases c : hd (gaps l) = endOf map
    · rw [if_pos c] at h
      cases h
      intro k hk
      cases hk
    · rw [if_neg c] at h
      obtain ⟨y, hy, h⟩ := bnd_inv h
      have hp := part_short hv (by omega) hy
      have hq := part_inv hi hy
      have hg2 := gaps_len y.2
      by_cases c2 : hd (gaps y.2) = 44
      · rw [if_pos c2] at h
        obtain ⟨z, hz, h⟩ := bnd_inv h
        cases h
        have h4 := hd_ne (l := gaps y.2) (by rw [c2]; decide)
        have ih := lst_short hi hv map n _ _ (by have := hq.2.1; omega) hz
        intro k hk
        simp at hk
        rcases hk with hk | hk
        · exact hp k hk
        · exact ih k hk
      · rw [if_neg c2] at h
        by_cases c3 : hd (gaps y.2) = endOf map
        · rw [if_pos c3] at h
          cases h
          exact hp
        · rw [if_neg c3] at h; cases h
theorem body_short {inner : Option (Ln → Ot (Tr × Ln))} {f : Bool} {p : Pr} {l : Ln} {x : Tr × Ln} (hl : l.length ≤ 65536) (hp : p.anc.length ≤ 65536) (h : body inner f p l = .ok x) :
    (x.1.text.length ≤ 65536 ∧ x.1.anc.length ≤ 65536 ∧ x.1.kids = []) ∨
    (∃ v map y, inner = some v ∧ lst v map l.length (l.drop 1) = .ok y ∧ x = (⟨kindOf map, [], p.anc, y.1⟩, y.2)) := by
  unfold body at h
  by_cases c1 : hd l = 42
  · rw [if_pos c1] at h
    obtain ⟨_, h⟩ := ite_inv h
    obtain ⟨y, hy, h⟩ := bnd_inv h
    cases h
    have hn := nam_inv hy
    have h4 := hd_ne (l := l) (by rw [c1]; decide)
    left
    exact ⟨by simp, by show y.1.length ≤ _; omega, rfl⟩
  · rw [if_neg c1] at h
    by_cases c2 : hd l = 91 ∨ hd l = 123
    · rw [if_pos c2] at h
      cases inner with
      | none => cases h
      | some v =>
        obtain ⟨y, hy, h⟩ := bnd_inv h
        obtain ⟨_, h⟩ := ite_inv h
        cases h
        right
        exact ⟨v, _, y, rfl, hy, rfl⟩
    · rw [if_neg c2] at h
      left
      by_cases c3 : hd l = 39 ∨ hd l = 34
      · rw [if_pos c3] at h
        obtain ⟨y, hy, h⟩ := bnd_inv h
        obtain ⟨t, ht, h⟩ := bnd_inv h
        cases h
        have hq := quoted_short hy
        have hf := fits_short ht
        exact ⟨by show t.text.length ≤ _; omega, by show t.anc.length ≤ _; rw [hf.2.1]; exact hp, hf.2.2⟩
      · rw [if_neg c3] at h
        obtain ⟨y, hy, h⟩ := bnd_inv h
        obtain ⟨t, ht, h⟩ := bnd_inv h
        cases h
        have hq := plain_inv hy
        have hf := fits_short ht
        exact ⟨by show t.text.length ≤ _; omega, by show t.anc.length ≤ _; rw [hf.2.1]; exact hp, hf.2.2⟩
theorem getD_mem {xs : List Tr} {i : Nat} (h : i < xs.length) : xs.getD i tr0 ∈ xs := by
  rw [List.getD_eq_getElem?_getD, List.getElem?_eq_getElem h]
  exact List.getElem_mem h
/-- what is read of a text that is not too long has short texts -/
theorem val_short : ∀ (d : Nat) (f : Bool) (l : Ln) (x : Tr × Ln), l.length ≤ 65536 → val d f l = .ok x → brief (d + 1) x.1
  | 0, f, l, x, hl, h => by
    obtain ⟨y, hy, h⟩ := bnd_inv (show bnd _ _ = _ from h)
    have h1 := prp_inv f 3 p0 _ _ p0_ok hy
    have h2 := gaps_len l
    have h3 := prp_short f 65536 3 p0 _ _ (by decide) (by omega) hy
    rcases body_short (by omega) h3 h with ⟨a, b, c⟩ | ⟨v, map, z, hv, _⟩
    · exact brief_leaf2 0 a b c
    · cases hv
  | d + 1, f, l, x, hl, h => by
    obtain ⟨y, hy, h⟩ := bnd_inv (show bnd _ _ = _ from h)
    have h1 := prp_inv f 3 p0 _ _ p0_ok hy
    have h2 := gaps_len l
    have h3 := prp_short f 65536 3 p0 _ _ (by decide) (by omega) hy
    rcases body_short (by omega) h3 h with ⟨a, b, c⟩ | ⟨v, map, z, hv, hz, rfl⟩
    · exact brief_leaf2 (d + 1) a b c
    · cases hv
      have h4 : (y.2.drop 1).length ≤ y.2.length := by rw [List.length_drop]; omega
      have := lst_short (fun l x hx => val_inv d true l x hx) (fun l x hl hx => val_short d true l x hl hx) map _ _ _ (by omega) hz
      exact ⟨by show ([] : Ln).length ≤ _; simp, h3, fun i hi => this _ (getD_mem hi)⟩
theorem whole_brief {l : Ln} (h : (whole l).2.1 = 0) : brief 65 (whole l).1 := by
  obtain ⟨hl, r, hv, _⟩ := whole_inv h
  exact val_short 64 false l _ hl hv
theorem tr0_brief (d : Nat) : brief (d + 1) tr0 := brief_leaf2 d (by decide) (by decide) rfl
theorem whole_brief2 (l : Ln) : brief 65 (whole l).1 := by
  by_cases h : (whole l).2.1 = 0
  · exact whole_brief h
  · rw [whole_none h]; exact tr0_brief 64
/-- a tree in memory that is fine is brief -/
theorem brief_of {w : World} : ∀ {d m : Nat} {v : Value} {t : Tr}, TrV w d v t → fineT m t → brief d t
  | 0, m, v, t, h, hf => h.elim
  | d + 1, 0, v, t, h, hf => hf.elim
  | d + 1, m + 1, v, t, h, hf => by
    obtain ⟨ad, len, cap, rfl, hl, hc, hm, hz, hk⟩ := h
    refine ⟨by have := hf.1; omega, by have := hf.2.1; omega, fun i hi => ?_⟩
    obtain ⟨b, off, _, _, hcell⟩ := hk (by omega)
    obtain ⟨c0, c1, c2, c3, _, _, _, _, ht⟩ := hcell i (by omega)
    exact brief_of ht (hf.2.2 i hi)
/-! ### how long a tree's text is -/
theorem dbl_len (l : Ln) : (Quo.dbl l).length ≤ 10 * l.length + 2 := by
  unfold Quo.dbl
  have h1 := Quo.escs_le (dec l).1
  have h2 := Quo.dec_len l.length l (Nat.le_refl _)
  simp only [List.length_cons, List.length_append, List.length_nil]
  omega
theorem scl_len (f : Bool) (k : Int) (s : Ln) : (scl f k s).length ≤ 10 * s.length + 4 := by
  have := dbl_len s
  unfold scl
  split
  · simp
  split
  · omega
  split
  · split
    · omega
    · split
      · omega
      · simp
  · simp
theorem ancW_len (a : Ln) : (ancW a).length ≤ a.length + 2 := by
  unfold ancW
  split
  · simp
  · simp
theorem sep_len (map : Bool) (i : Nat) : (sep map i).length ≤ 2 := by
  unfold sep
  split
  · simp
  split <;> simp
theorem jn_len (map : Bool) (M : Nat) (g : Tr → Ln) (c : Tr → Nat) : ∀ (i : Nat) (ks : List Tr), (∀ k ∈ ks, (g k).length + 2 ≤ M * c k) → (jn map i (ks.map g)).length ≤ M * (ks.map c).sum
  | i, [], h => by simp [jn]
  | i, k :: ks, h => by
    have h1 := h k (by simp)
    have h2 := jn_len map M g c (i + 1) ks (fun x hx => h x (by simp [hx]))
    have h3 := sep_len map i
    simp only [List.map_cons, jn, List.length_append, List.sum_cons, Nat.mul_add]
    omega
theorem wrt_len : ∀ (d e : Nat) (t : Tr), brief e t → rgt d t = true → (wrt d t).length + 2 ≤ 720906 * cntT d t
  | _, 0, t, hb, hr => hb.elim
  | 0, e + 1, t, hb, hr => by
    have h1 := scl_len true t.kind t.text
    have h2 := ancW_len t.anc
    have hk : t.kids = [] := by
      unfold rgt rstep at hr
      simp only [Bool.and_eq_true] at hr
      have h := hr.2
      by_cases c : t.kind ≠ 5 ∧ t.kind ≠ 6
      · rw [if_pos c] at h; simpa using h
      · rw [if_neg c] at h; cases h
    have b1 := hb.1
    have b2 := hb.2.1
    show (wstep (fun _ => []) t).length + 2 ≤ 720906 * 1
    unfold wstep
    rw [hk]
    split
    · simp only [List.length_cons]; omega
    split
    · rw [List.length_append]; omega
    · simp only [List.length_append, List.length_cons, List.map_nil, jn, List.length_nil]; omega
  | d + 1, e + 1, t, hb, hr => by
    have h1 := scl_len true t.kind t.text
    have h2 := ancW_len t.anc
    have b1 := hb.1
    have b2 := hb.2.1
    have hkids : (t.kind = 5 ∨ t.kind = 6) → ∀ k ∈ t.kids, rgt d k = true := fun c => by
      unfold rgt rstep at hr
      simp only [Bool.and_eq_true] at hr
      have h := hr.2
      rw [if_neg (by omega)] at h
      simp only [Bool.and_eq_true, List.all_eq_true] at h
      exact h.2
    have hkd : 1 ≤ t.kind ∧ t.kind ≤ 7 := by
      unfold rgt rstep at hr
      simp only [Bool.and_eq_true, decide_eq_true_eq] at hr
      exact ⟨hr.1.1.1.1, hr.1.1.1.2⟩
    show (wstep (fun k => wrt d k) t).length + 2 ≤ 720906 * (1 + (t.kids.map fun k => cntT d k).sum)
    rw [Nat.mul_add]
    unfold wstep
    by_cases c7 : t.kind = 7
    · rw [if_pos c7]; simp only [List.length_cons]; omega
    rw [if_neg c7]
    by_cases c4 : 1 ≤ t.kind ∧ t.kind ≤ 4
    · rw [if_pos c4, List.length_append]; omega
    rw [if_neg c4]
    have hj := jn_len (decide (t.kind = 6)) 720906 (fun k => wrt d k) (fun k => cntT d k) 0 t.kids (fun k hk => by
      obtain ⟨i, hi, ek⟩ := List.mem_iff_getElem.1 hk
      have := hb.2.2 i hi
      rw [List.getD_eq_getElem?_getD, List.getElem?_eq_getElem hi, Option.getD_some, ek] at this
      exact wrt_len d e k this (hkids (by omega) k hk))
    simp only [List.length_append, List.length_cons, List.length_nil]
    omega
theorem wrt_fit {e : Nat} {t : Tr} (hb : brief e t) (hr : rgt 64 t = true) (hc : cntT 64 t ≤ 4096) : (wrt 64 t).length ≤ 140737488355328 := by
  have := wrt_len 64 e t hb hr
  omega
end Go.Proofs.YteokhnielbmifaaGreatDoor.Flw
