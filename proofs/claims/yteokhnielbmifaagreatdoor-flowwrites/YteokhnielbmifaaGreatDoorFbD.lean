/- Several texts as one: FlowModel4, FlowModel5. -/
import Derived.Test.YteokhnielbmifaaGreatDoorFbC
section
/- Blanks behind a whole text turn nothing. -/
namespace Go.Proofs.YteokhnielbmifaaGreatDoor.Flw
open Utf Rws Pln
set_option linter.unusedSimpArgs false
set_option linter.unusedVariables false

/-! ### quoted texts: what stands behind turns nothing -/
theorem hexR_app (b : Ln) : ∀ (k : Nat) (l : Ln) (acc : Int), (Quo.hexR k l acc).2 = 0 → Quo.hexR k (l ++ b) acc = Quo.hexR k l acc
  | 0, l, acc, h => rfl
  | k + 1, [], acc, h => by cases h
  | k + 1, c :: r, acc, h => by
    rw [List.cons_append, Quo.hexR, Quo.hexR]
    rw [Quo.hexR] at h
    by_cases e : Quo.dig c < 0
    · rw [if_pos e] at h; cases h
    · rw [if_neg e] at h ⊢; rw [if_neg e]; exact hexR_app b k r _ h
theorem escH_app (b l : Ln) (k : Nat) (hl : 2 ≤ l.length) (h : (Quo.escH l k).2.2 = 0) : Quo.escH (l ++ b) k = Quo.escH l k := by
  unfold Quo.escH at h ⊢
  have ed : (l ++ b).drop 2 = l.drop 2 ++ b := List.drop_append_of_le_length hl
  by_cases c : (Quo.hexR k (l.drop 2) 0).2 = 0
  · rw [ed, hexR_app b k _ _ c]
  · rw [if_neg c] at h; exact absurd h c
theorem escR_app (b l : Ln) (h : (Quo.escR l).2.2 = 0) : Quo.escR (l ++ b) = Quo.escR l := by
  unfold Quo.escR at h
  by_cases c : l.length < 2
  · rw [if_pos c] at h; cases h
  · rw [if_neg c] at h
    have eg : (l ++ b).getD 1 0 = l.getD 1 0 := getD_app_left l b 1 (by omega)
    have h2 : 2 ≤ l.length := by omega
    unfold Quo.escR
    rw [if_neg c, if_neg (by rw [List.length_append]; omega), eg]
    by_cases c34 : l.getD 1 0 = 34
    · rw [if_pos c34, if_pos c34]
    rw [if_neg c34] at h ⊢
    rw [if_neg c34]
    by_cases c92 : l.getD 1 0 = 92
    · rw [if_pos c92, if_pos c92]
    rw [if_neg c92] at h ⊢
    rw [if_neg c92]
    by_cases c110 : l.getD 1 0 = 110
    · rw [if_pos c110, if_pos c110]
    rw [if_neg c110] at h ⊢
    rw [if_neg c110]
    by_cases c116 : l.getD 1 0 = 116
    · rw [if_pos c116, if_pos c116]
    rw [if_neg c116] at h ⊢
    rw [if_neg c116]
    by_cases c114 : l.getD 1 0 = 114
    · rw [if_pos c114, if_pos c114]
    rw [if_neg c114] at h ⊢
    rw [if_neg c114]
    by_cases c48 : l.getD 1 0 = 48
    · rw [if_pos c48, if_pos c48]
    rw [if_neg c48] at h ⊢
    rw [if_neg c48]
    by_cases c120 : l.getD 1 0 = 120
    · rw [if_pos c120] at h ⊢
      rw [if_pos c120]
      exact escH_app b l _ h2 h
    rw [if_neg c120] at h ⊢
    rw [if_neg c120]
    by_cases c117 : l.getD 1 0 = 117
    · rw [if_pos c117] at h ⊢
      rw [if_pos c117]
      exact escH_app b l _ h2 h
    rw [if_neg c117] at h ⊢
    rw [if_neg c117]
    by_cases c85 : l.getD 1 0 = 85
    · rw [if_pos c85] at h ⊢
      rw [if_pos c85]
      exact escH_app b l _ h2 h
    rw [if_neg c85] at h ⊢
    rw [if_neg c85]
theorem fst_app (l b : Ln) (h : 0 ≤ (fst l).1) : fst (l ++ b) = fst l ∧ fk (l ++ b) = fk l := by
  obtain ⟨s1, s2, s3⟩ := fst_sound l h
  have e : fst (l ++ b) = fst l := by
    have e1 : l ++ b = u8s (byt (fst l).1) ++ (l.drop (byt (fst l).1).length ++ b) := by
      rw [← List.append_assoc]
      exact congrArg (· ++ b) s3
    rw [e1, fst_enc s1]
    exact Prod.ext rfl s2.symm
  exact ⟨e, by unfold fk; rw [e]⟩
theorem stp_app (q : UInt8) (l b : Ln) (hb : b.getD 0 0 ≠ 39) (h : (Quo.stp q l).1 = 0 ∨ (Quo.stp q l).1 = 1) : Quo.stp q (l ++ b) = Quo.stp q l := by
  unfold Quo.stp at h
  by_cases h1 : l = []
  · rw [if_pos h1] at h; rcases h with h | h <;> cases h
  rw [if_neg h1] at h
  have hp : 0 < l.length := List.length_pos_iff.2 h1
  have eg : (l ++ b).getD 0 0 = l.getD 0 0 := getD_app_left l b 0 hp
  unfold Quo.stp
  rw [if_neg h1, if_neg (fun x => h1 (List.append_eq_nil_iff.1 x).1), eg]
  by_cases h2 : l.getD 0 0 = q
  · rw [if_pos h2, if_pos h2]
    by_cases hl : 1 < l.length
    · rw [getD_app_left l b 1 hl]
      have : (q = 39 ∧ 1 < (l ++ b).length ∧ l.getD 1 0 = 39) ↔ (q = 39 ∧ 1 < l.length ∧ l.getD 1 0 = 39) := by
        rw [List.length_append]
        constructor
        · exact fun x => ⟨x.1, hl, x.2.2⟩
        · exact fun x => ⟨x.1, by omega, x.2.2⟩
      simp only [this]
    · have hl1 : l.length = 1 := by omega
      have e1 : (l ++ b).getD 1 0 = b.getD 0 0 := by
        have := getD_app_right l b 0
        rwa [hl1] at this
      rw [if_neg (fun x => hb (e1 ▸ x.2.2)), if_neg (fun x => hl x.2.1)]
  rw [if_neg h2] at h ⊢
  rw [if_neg h2]
  by_cases h4 : q = 34 ∧ l.getD 0 0 = 92
  · rw [if_pos h4] at h ⊢
    rw [if_pos h4]
    by_cases h5 : (Quo.escR l).2.2 = 0
    · rw [escR_app b l h5]
    · rw [if_neg h5] at h
      rcases h with h | h
      · exact absurd h h5
      · exact absurd h (Quo.escR_ne l)
  rw [if_neg h4] at h ⊢
  rw [if_neg h4]
  by_cases h6 : Quo.may (fst l).1 = true
  · have h0 := Quo.may_fst h6
    obtain ⟨e1, e2⟩ := fst_app l b h0
    have hk := fk_pos l h1
    rw [e1, e2, if_pos h6, if_pos h6, List.take_append_of_le_length hk.2.1]
  · rw [if_neg h6] at h
    rcases h with h | h <;> cases h
theorem rdF_app (q : UInt8) (b : Ln) (hb : b.getD 0 0 ≠ 39) : ∀ (f : Nat) (l : Ln) (at_ : Nat) (out : Ln), (Quo.rdF q f l at_ out).2.2.1 = 0 → ∀ f', f ≤ f' → Quo.rdF q f' (l ++ b) at_ out = Quo.rdF q f l at_ out
  | 0, l, at_, out, h, f', hf => by cases h
  | f + 1, l, at_, out, h, f', hf => by
    obtain ⟨g, rfl⟩ : ∃ g, f' = g + 1 := ⟨f' - 1, by omega⟩
    rw [Quo.rdF] at h
    rw [Quo.rdF, Quo.rdF]
    by_cases h1 : (Quo.stp q l).1 = 0
    · rw [stp_app q l b hb (.inl h1), if_pos h1, if_pos h1]
    · rw [if_neg h1] at h
      by_cases h2 : (Quo.stp q l).1 = 1
      · rw [if_pos h2] at h
        obtain ⟨n, _, _, k1, k2⟩ := Quo.stp_out h2
        rw [stp_app q l b hb (.inr h2), if_neg h1, if_pos h2, if_neg h1, if_pos h2, List.drop_append_of_le_length k2]
        exact rdF_app q b hb f _ _ _ h g (by omega)
      · rw [if_neg h2] at h
        split at h
        · cases h
        · exact absurd h h1
theorem rd_app (l b : Ln) (hb : b.getD 0 0 ≠ 39) (h : (Quo.rd l).2.2.1 = 0) : Quo.rd (l ++ b) = Quo.rd l := by
  unfold Quo.rd at h
  by_cases h1 : l = []
  · rw [if_pos h1] at h; cases h
  rw [if_neg h1] at h
  have hp : 0 < l.length := List.length_pos_iff.2 h1
  have eg : (l ++ b).getD 0 0 = l.getD 0 0 := getD_app_left l b 0 hp
  unfold Quo.rd
  rw [if_neg h1, if_neg (fun x => h1 (List.append_eq_nil_iff.1 x).1), eg]
  by_cases h2 : l.getD 0 0 = 39 ∨ l.getD 0 0 = 34
  · rw [if_pos h2] at h
    rw [if_pos h2, if_pos h2, List.drop_append_of_le_length hp]
    exact rdF_app _ b hb _ _ _ _ h _ (by rw [List.length_append]; omega)
  · rw [if_neg h2] at h; cases h

/-! ### blanks -/
abbrev bl (n : Nat) : Ln := List.replicate n 32
/-- blanks more -/
def E (r r' : Ln) : Prop := ∃ n, r' = r ++ bl n
/-- blanks more, but not of nothing -/
def E1 (r r' : Ln) : Prop := E r r' ∧ (r = [] → r' = [])
theorem bl_hd (n : Nat) : (bl n).getD 0 0 = 0 ∨ (bl n).getD 0 0 = 32 := by
  cases n with
  | zero => exact .inl rfl
  | succ n => exact .inr rfl
theorem E.drop {r r' : Ln} (h : E r r') (k : Nat) (hk : k ≤ r.length) : E (r.drop k) (r'.drop k) := by
  obtain ⟨n, rfl⟩ := h
  exact ⟨n, List.drop_append_of_le_length hk⟩
theorem E.drop1 {r r' : Ln} (h : E r r') (hr : r ≠ []) : E (r.drop 1) (r'.drop 1) := h.drop 1 (List.length_pos_iff.2 hr)
theorem gaps_bl (n : Nat) : gaps (bl n) = [] := by
  have := gaps_rep n []
  rwa [List.append_nil] at this
theorem gaps_app (l b : Ln) (h : gaps l ≠ []) : gaps (l ++ b) = gaps l ++ b := by
  induction l with
  | nil => exact absurd rfl h
  | cons c r ih =>
    by_cases e : c = 32
    · subst e
      rw [gaps_32] at h ⊢
      rw [List.cons_append, gaps_32]
      exact ih h
    · rw [gaps_cons r e, List.cons_append, gaps_cons _ e]
theorem gaps_app0 (l b : Ln) (h : gaps l = []) : gaps (l ++ b) = gaps b := by
  induction l with
  | nil => rfl
  | cons c r ih =>
    by_cases e : c = 32
    · subst e
      rw [gaps_32] at h
      rw [List.cons_append, gaps_32]
      exact ih h
    · rw [gaps_cons r e] at h; cases h
theorem E.gaps {r r' : Ln} (h : E r r') : E1 (gaps r) (gaps r') := by
  obtain ⟨n, rfl⟩ := h
  by_cases e : Flw.gaps r = []
  · rw [gaps_app0 r _ e, gaps_bl, e]
    exact ⟨⟨0, rfl⟩, fun _ => rfl⟩
  · rw [gaps_app r _ e]
    exact ⟨⟨n, rfl⟩, fun x => absurd x e⟩
theorem E1.hd {r r' : Ln} (h : E1 r r') : hd r' = hd r := by
  by_cases e : r = []
  · rw [h.2 e, e]
  · obtain ⟨n, rfl⟩ := h.1
    exact hd_app _ e
theorem E.hd {r r' : Ln} (h : E r r') (hr : r ≠ []) : hd r' = hd r := by
  obtain ⟨n, rfl⟩ := h
  exact hd_app _ hr
theorem tw_bl (p : UInt8 → Bool) (hp : p 32 = false) (l : Ln) (n : Nat) : (l ++ bl n).takeWhile p = l.takeWhile p := by
  induction l with
  | nil =>
    cases n with
    | zero => rfl
    | succ n =>
      show List.takeWhile p (32 :: bl n) = []
      rw [List.takeWhile_cons_of_neg (by rw [hp]; decide)]
  | cons b r ih =>
    by_cases h : p b = true
    · rw [List.cons_append, List.takeWhile_cons_of_pos h, List.takeWhile_cons_of_pos h, ih]
    · rw [List.cons_append, List.takeWhile_cons_of_neg h, List.takeWhile_cons_of_neg h]
theorem nam_E {r r' : Ln} (h : E r r') {x : Ln × Ln} (hx : nam r = .ok x) : ∃ q, nam r' = .ok (x.1, q) ∧ E x.2 q := by
  obtain ⟨n, rfl⟩ := h
  have hlen := (nam_inv hx).2
  unfold nam at hx ⊢
  obtain ⟨hn, e⟩ := ite_inv hx
  cases e
  rw [tw_bl letter (by decide) r n]
  have hk : ((r.takeWhile letter).take 32).length ≤ r.length := by
    have := tw_len letter r
    rw [List.length_take]; omega
  have hE : E (r.drop ((r.takeWhile letter).take 32).length) ((r ++ bl n).drop ((r.takeWhile letter).take 32).length) := E.drop ⟨n, rfl⟩ _ hk
  rw [if_neg]
  · exact ⟨_, rfl, hE⟩
  · rintro (h1 | h1)
    · exact hn (.inl h1)
    · by_cases e : r.drop ((r.takeWhile letter).take 32).length = []
      · obtain ⟨m, em⟩ := hE
        rw [em, e, List.nil_append] at h1
        rcases bl_hd m with e2 | e2
        · rw [show Flw.hd (bl m) = 0 from e2] at h1; revert h1; decide
        · rw [show Flw.hd (bl m) = 32 from e2] at h1; revert h1; decide
      · rw [hE.hd e] at h1
        exact hn (.inr h1)
theorem tag_E {r r' : Ln} (h : E r r') {x : Int × Ln} (hx : tag r = .ok x) : ∃ q, tag r' = .ok (x.1, q) ∧ E x.2 q := by
  obtain ⟨n, rfl⟩ := h
  unfold tag at hx ⊢
  obtain ⟨hn, e⟩ := ite_inv hx
  cases e
  rw [tw_bl letter (by decide) r n, if_neg hn]
  exact ⟨_, rfl, E.drop ⟨n, rfl⟩ _ (tw_len letter r)⟩
theorem gap_E {f : Bool} {r r' : Ln} (h : E r r') {x : Ln} (hx : gap f r = .ok x) : ∃ q, gap f r' = .ok q ∧ E1 x q := by
  unfold gap at hx ⊢
  obtain ⟨hn, e⟩ := ite_inv hx
  cases e
  rw [if_neg]
  · exact ⟨_, rfl, h.gaps⟩
  · rintro ⟨h1, h2, h3⟩
    by_cases e : r = []
    · obtain ⟨n, rfl⟩ := h
      rw [e, List.nil_append] at h1 h2
      cases n with
      | zero => exact h1 rfl
      | succ n => exact h2 rfl
    · rw [h.hd e] at h2 h3
      exact hn ⟨e, h2, h3⟩
/-- properties that are the same but for the tag's place -/
def PE (p p' : Pr) : Prop := p'.anc = p.anc ∧ p'.tag = p.tag ∧ p'.some = p.some
theorem prp_E (f : Bool) : ∀ (n : Nat) (p p' : Pr) (r r' : Ln) (x : Pr × Ln), PE p p' → E1 r r' → prp f n p r = .ok x → ∃ y q, prp f n p' r' = .ok (y, q) ∧ PE x.1 y ∧ E1 x.2 q
  | 0, p, p', r, r', x, hp, h, hx => by cases hx; exact ⟨p', r', rfl, hp, h⟩
  | n + 1, p, p', r, r', x, hp, h, hx => by
    unfold prp at hx ⊢
    rw [h.hd, hp.1, hp.2.1]
    by_cases c1 : hd r = 38 ∧ p.anc = []
    · rw [if_pos c1] at hx ⊢
      have hr := (hd_ne (l := r) (by rw [c1.1]; decide)).1
      obtain ⟨a, ha, hx⟩ := bnd_inv hx
      obtain ⟨b, hb, hx⟩ := bnd_inv hx
      obtain ⟨q1, e1, E1_⟩ := nam_E (h.1.drop1 hr) ha
      obtain ⟨q2, e2, E2_⟩ := gap_E E1_ hb
      rw [e1, bnd_ok]
      show ∃ y q, bnd (gap f q1) _ = _ ∧ _
      rw [e2, bnd_ok]
      exact prp_E f n ⟨a.1, p.tag, p.at_, true⟩ _ _ _ x ⟨rfl, rfl, rfl⟩ E2_ hx
    · rw [if_neg c1] at hx ⊢
      by_cases c2 : hd r = 33 ∧ hd (r.drop 1) = 33 ∧ p.tag = 0
      · have hr := (hd_ne (l := r) (by rw [c2.1]; decide)).1
        have hr1 := (hd_ne (l := r.drop 1) (by rw [c2.2.1]; decide)).1
        have hE1 := h.1.drop1 hr
        rw [if_pos c2] at hx
        rw [if_pos (by rw [hE1.hd hr1]; exact c2)]
        have hE2 : E (r.drop 2) (r'.drop 2) := by
          have := hE1.drop1 hr1
          rwa [List.drop_drop, List.drop_drop] at this
        obtain ⟨a, ha, hx⟩ := bnd_inv hx
        obtain ⟨b, hb, hx⟩ := bnd_inv hx
        obtain ⟨q1, e1, E1_⟩ := tag_E hE2 ha
        obtain ⟨q2, e2, E2_⟩ := gap_E E1_ hb
        rw [e1, bnd_ok]
        show ∃ y q, bnd (gap f q1) _ = _ ∧ _
        rw [e2, bnd_ok]
        exact prp_E f n ⟨p.anc, a.1, r.length, true⟩ _ _ _ x ⟨rfl, rfl, rfl⟩ E2_ hx
      · rw [if_neg c2] at hx
        have c2' : ¬ (hd r = 33 ∧ hd (r'.drop 1) = 33 ∧ p.tag = 0) := by
          rintro ⟨a1, a2, a3⟩
          have hr := (hd_ne (l := r) (by rw [a1]; decide)).1
          have hE1 := h.1.drop1 hr
          by_cases e : r.drop 1 = []
          · obtain ⟨m, em⟩ := hE1
            rw [em, e, List.nil_append] at a2
            rcases bl_hd m with e2 | e2
            · rw [show Flw.hd (bl m) = 0 from e2] at a2; revert a2; decide
            · rw [show Flw.hd (bl m) = 32 from e2] at a2; revert a2; decide
          · rw [hE1.hd e] at a2
            exact c2 ⟨a1, a2, a3⟩
        rw [if_neg c2']
        cases hx
        exact ⟨p', r', rfl, hp, h⟩
theorem quoted_E {r r' : Ln} (h : E r r') {x : Ln × Ln} (hx : quoted r = .ok x) : ∃ q, quoted r' = .ok (x.1, q) ∧ E x.2 q := by
  obtain ⟨n, rfl⟩ := h
  unfold quoted at hx ⊢
  obtain ⟨hn, e⟩ := ite_inv hx
  cases e
  have h0 : (Quo.rd r).2.2.1 = 0 := by omega
  have hm := Quo.rd_means r h0
  rw [rd_app r (bl n) (by rcases bl_hd n with e | e <;> · rw [e]; decide) h0, if_neg hn]
  exact ⟨_, rfl, E.drop ⟨n, rfl⟩ _ hm.2.2⟩
theorem trR_bl (l : Ln) (n : Nat) : trR is32 (l ++ bl n) = trR is32 l := by
  induction n with
  | zero => rw [show bl 0 = [] from rfl, List.append_nil]
  | succ n ih => rw [show bl (n + 1) = bl n ++ [32] from List.replicate_succ', ← List.append_assoc, trR_snoc, if_pos (by decide), ih]
theorem cut_bl (l : Ln) (n : Nat) (f : Bool) : cutT (l ++ bl n) f = cutT l f := by
  cases n with
  | zero => rw [show bl 0 = [] from rfl, List.append_nil]
  | succ n =>
    have hb : (bl (n + 1)).getD 0 0 = 32 := rfl
    have same : ∀ j, j < l.length → en (l ++ bl (n + 1)) f j = en l f j := by
      intro j hj
      unfold en
      rw [getD_app_left l _ j hj, getD_app_left l _ (j - 1) (by omega)]
      by_cases e : j + 1 = l.length
      · have e1 : (l ++ bl (n + 1)).getD (j + 1) 0 = 32 := by rw [e]; exact getD_app_right l (bl (n + 1)) 0
        rw [e1]
        simp [e]
      · rw [getD_app_left l _ (j + 1) (by omega)]
        have e1 : (j + 1 == (l ++ bl (n + 1)).length) = false := by simp; omega
        have e2 : (j + 1 == l.length) = false := by simpa using e
        rw [e1, e2]
    have no : ∀ j, l.length ≤ j → j < l.length + (n + 1) → en (l ++ bl (n + 1)) f j = false := by
      intro j h1 h2
      have e1 : (l ++ bl (n + 1)).getD j 0 = 32 := by
        obtain ⟨k, rfl⟩ : ∃ k, j = l.length + k := ⟨j - l.length, by omega⟩
        rw [getD_app_right]
        rw [List.getD_eq_getElem?_getD, List.getElem?_replicate, if_pos (by omega)]
        rfl
      unfold en
      rw [e1]
      simp [fl_32]
    unfold cutT
    by_cases c : fin l f < l.length
    · have : fin (l ++ bl (n + 1)) f = fin l f := by
        refine fin_uniq _ _ _ (by rw [List.length_append]; omega) (fun j hj => ?_) (.inr ?_)
        · rw [same j (by omega)]; exact fin_no l f j hj
        · rw [same _ c]; exact fin_at l f c
      rw [this, List.take_append_of_le_length (by omega)]
    · have e0 := fin_le l f
      have e : fin l f = l.length := by omega
      have : fin (l ++ bl (n + 1)) f = (l ++ bl (n + 1)).length := by
        refine fin_uniq _ _ _ (Nat.le_refl _) (fun j hj => ?_) (.inl rfl)
        rw [List.length_append, List.length_replicate] at hj
        by_cases hl : j < l.length
        · rw [same j hl]; exact fin_no l f j (by omega)
        · exact no j (by omega) hj
      rw [this, List.take_length, e, List.take_length]
      exact trR_bl l (n + 1)
theorem plain_E {f : Bool} {r r' : Ln} (h : E r r') {x : Ln × Ln} (hx : plain f r = .ok x) : ∃ q, plain f r' = .ok (x.1, q) ∧ E x.2 q := by
  obtain ⟨n, rfl⟩ := h
  unfold plain at hx ⊢
  obtain ⟨hn, e⟩ := ite_inv hx
  cases e
  rw [cut_bl, if_neg hn]
  have h1 := cutT_len r f
  have h2 := fin_le r f
  exact ⟨_, rfl, E.drop ⟨n, rfl⟩ _ (by omega)⟩
theorem fits_E {s : Ln} {q : Bool} {p p' : Pr} (hp : PE p p') {t : Tr} (h : fits s q p = .ok t) : fits s q p' = .ok t := by
  unfold fits at h ⊢
  rw [hp.1, hp.2.1]
  by_cases c4 : p.tag = 4
  · rw [if_pos c4] at h ⊢; exact h
  · rw [if_neg c4] at h ⊢
    by_cases c0 : p.tag ≠ 0
    · rw [if_pos c0] at h ⊢
      obtain ⟨e, h⟩ := ite_inv h
      rw [if_neg e]; exact h
    · rw [if_neg c0] at h ⊢; exact h
theorem key_E {r r' : Ln} (h : E1 r r') {x : Tr × Ln} (hx : key r = .ok x) : ∃ q, key r' = .ok (x.1, q) ∧ E x.2 q := by
  unfold key at hx ⊢
  rw [h.hd]
  by_cases c : hd r = 39 ∨ hd r = 34
  · rw [if_pos c] at hx ⊢
    obtain ⟨y, hy, hx⟩ := bnd_inv hx
    obtain ⟨q, e, hE⟩ := quoted_E h.1 hy
    cases hx
    rw [e, bnd_ok]
    exact ⟨q, rfl, hE⟩
  · rw [if_neg c] at hx ⊢
    obtain ⟨y, hy, hx⟩ := bnd_inv hx
    obtain ⟨q, e, hE⟩ := plain_E h.1 hy
    obtain ⟨hn, hx⟩ := ite_inv hx
    cases hx
    rw [e, bnd_ok]
    show ∃ q_1, (if y.1 = [] then _ else _) = _ ∧ _
    rw [if_neg hn]
    exact ⟨q, rfl, hE⟩
theorem colon_E {r r' : Ln} (h : E1 r r') (hc : colon r = true) : colon r' = true := by
  unfold colon at hc ⊢
  rw [h.hd]
  simp only [Bool.and_eq_true, Bool.or_eq_true, beq_iff_eq, decide_eq_true_eq] at hc ⊢
  refine ⟨hc.1, ?_⟩
  have hr := (hd_ne (l := r) (by rw [hc.1]; decide)).1
  have hE := h.1.drop1 hr
  by_cases e : r.drop 1 = []
  · obtain ⟨n, en⟩ := hE
    rw [en, e, List.nil_append]
    cases n with
    | zero =>
      left; left
      have h0 : (r'.drop 1).length = 0 := by rw [en, e]; rfl
      rw [List.length_drop] at h0
      omega
    | succ n => left; right; rfl
  · rw [hE.hd e]
    rcases hc.2 with (h1 | h1) | h1
    · exfalso
      apply e
      apply List.length_eq_zero_iff.1
      rw [List.length_drop]; omega
    · exact .inl (.inr h1)
    · exact .inr h1
/-- a reader that blanks behind do not turn -/
def VE (v v' : Ln → Ot (Tr × Ln)) : Prop := ∀ r r' x, E r r' → v r = .ok x → ∃ q, v' r' = .ok (x.1, q) ∧ E x.2 q
theorem part_E {v v' : Ln → Ot (Tr × Ln)} (hv : VE v v') {map : Bool} {r r' : Ln} (h : E1 r r') {x : List Tr × Ln} (hx : part v map r = .ok x) : ∃ q, part v' map r' = .ok (x.1, q) ∧ E x.2 q := by
  unfold part at hx ⊢
  cases map
  · rw [if_neg (by decide)] at hx ⊢
    obtain ⟨hn, hx⟩ := ite_inv hx
    obtain ⟨y, hy, hx⟩ := bnd_inv hx
    obtain ⟨q, e, hE⟩ := hv _ _ _ h.1 hy
    cases hx
    rw [if_neg, e, bnd_ok]
    · exact ⟨q, rfl, hE⟩
    · rintro (e | e)
      · apply hn
        left
        obtain ⟨n, en⟩ := h.1
        rw [e] at en
        exact (List.append_eq_nil_iff.1 en.symm).1
      · rw [h.hd] at e
        exact hn (.inr e)
  · rw [if_pos rfl] at hx ⊢
    obtain ⟨k, hk, hx⟩ := bnd_inv hx
    obtain ⟨hc, hx⟩ := ite_inv hx
    obtain ⟨y, hy, hx⟩ := bnd_inv hx
    cases hx
    obtain ⟨q, e, hE⟩ := key_E h hk
    rw [e, bnd_ok]
    have hE2 := hE.gaps
    have hct : colon (gaps k.2) = true := by simpa using hc
    have hc2 := colon_E hE2 hct
    show ∃ q_1, (if colon (gaps q) = false then _ else bnd (v' ((gaps q).drop 1)) _) = _ ∧ _
    have hne : gaps k.2 ≠ [] := by
      intro e0
      rw [e0] at hct
      revert hct; decide
    obtain ⟨q2, e2, hE3⟩ := hv _ _ _ (hE2.1.drop1 hne) hy
    rw [if_neg (by rw [hc2]; decide), e2, bnd_ok]
    exact ⟨q2, rfl, hE3⟩
theorem lst_E {v v' : Ln → Ot (Tr × Ln)} (hv : VE v v') (map : Bool) : ∀ (n : Nat) (r r' : Ln) (x : List Tr × Ln), E r r' → lst v map n r = .ok x → ∀ n', n ≤ n' → ∃ q, lst v' map n' r' = .ok (x.1, q) ∧ E x.2 q
  | 0, r, r', x, h, hx, n', hn => by cases hx
  | n + 1, r, r', x, h, hx, n', hn => by
    obtain ⟨m, rfl⟩ : ∃ m, n' = m + 1 := ⟨n' - 1, by omega⟩
    have e0 : endOf map ≠ 0 := by cases map <;> decide
    have hg := h.gaps
    unfold lst at hx ⊢
    rw [hg.hd]
    by_cases c : hd (gaps r) = endOf map
    · rw [if_pos c] at hx ⊢
      cases hx
      exact ⟨_, rfl, hg.1.drop1 (hd_ne (l := gaps r) (by rw [c]; exact e0)).1⟩
    · rw [if_neg c] at hx ⊢
      obtain ⟨y, hy, hx⟩ := bnd_inv hx
      obtain ⟨q, e, hE⟩ := part_E hv hg hy
      rw [e, bnd_ok]
      have hg2 := hE.gaps
      show ∃ q_1, (if hd (gaps q) = 44 then bnd (lst v' map m ((gaps q).drop 1)) _ else if hd (gaps q) = endOf map then _ else _) = _ ∧ _
      rw [hg2.hd]
      by_cases c2 : hd (gaps y.2) = 44
      · rw [if_pos c2] at hx ⊢
        obtain ⟨z, hz, hx⟩ := bnd_inv hx
        cases hx
        obtain ⟨q2, e2, hE2⟩ := lst_E hv map n _ _ _ (hg2.1.drop1 (hd_ne (l := gaps y.2) (by rw [c2]; decide)).1) hz m (by omega)
        rw [e2, bnd_ok]
        exact ⟨q2, rfl, hE2⟩
      · rw [if_neg c2] at hx ⊢
        by_cases c3 : hd (gaps y.2) = endOf map
        · rw [if_pos c3] at hx ⊢
          cases hx
          exact ⟨_, rfl, hg2.1.drop1 (hd_ne (l := gaps y.2) (by rw [c3]; exact e0)).1⟩
        · rw [if_neg c3] at hx; cases hx
theorem body_E {inner inner' : Option (Ln → Ot (Tr × Ln))} (hi : ∀ v, inner = some v → ∃ v', inner' = some v' ∧ VE v v') {f : Bool} {p p' : Pr} (hp : PE p p') {r r' : Ln} (h : E1 r r') {x : Tr × Ln} (hx : body inner f p r = .ok x) :
    ∃ q, body inner' f p' r' = .ok (x.1, q) ∧ E x.2 q := by
  unfold body at hx ⊢
  rw [h.hd, hp.1, hp.2.1, hp.2.2]
  by_cases c1 : hd r = 42
  · rw [if_pos c1] at hx ⊢
    obtain ⟨hn, hx⟩ := ite_inv hx
    obtain ⟨y, hy, hx⟩ := bnd_inv hx
    cases hx
    obtain ⟨q, e, hE⟩ := nam_E (h.1.drop1 (hd_ne (l := r) (by rw [c1]; decide)).1) hy
    rw [if_neg hn, e, bnd_ok]
    exact ⟨q, rfl, hE⟩
  · rw [if_neg c1] at hx ⊢
    by_cases c2 : hd r = 91 ∨ hd r = 123
    · rw [if_pos c2] at hx ⊢
      cases inner with
      | none => cases hx
      | some v =>
        obtain ⟨v', rfl, hv⟩ := hi v rfl
        obtain ⟨y, hy, hx⟩ := bnd_inv hx
        obtain ⟨hn, hx⟩ := ite_inv hx
        cases hx
        have hr : r ≠ [] := (hd_ne (l := r) (by rcases c2 with e | e <;> · rw [e]; decide)).1
        have hlen : r.length ≤ r'.length := by
          obtain ⟨n, rfl⟩ := h.1
          rw [List.length_append]; omega
        obtain ⟨q, e, hE⟩ := lst_E hv _ _ _ _ _ (h.1.drop1 hr) hy r'.length hlen
        show ∃ q, bnd (lst v' (hd r == 123) r'.length (r'.drop 1)) _ = _ ∧ _
        rw [e, bnd_ok, if_neg hn]
        exact ⟨q, rfl, hE⟩
    · rw [if_neg c2] at hx ⊢
      by_cases c3 : hd r = 39 ∨ hd r = 34
      · rw [if_pos c3] at hx ⊢
        obtain ⟨y, hy, hx⟩ := bnd_inv hx
        obtain ⟨t, ht, hx⟩ := bnd_inv hx
        cases hx
        obtain ⟨q, e, hE⟩ := quoted_E h.1 hy
        rw [e, bnd_ok]
        show ∃ q_1, bnd (fits y.1 true p') _ = _ ∧ _
        rw [fits_E hp ht, bnd_ok]
        exact ⟨q, rfl, hE⟩
      · rw [if_neg c3] at hx ⊢
        obtain ⟨y, hy, hx⟩ := bnd_inv hx
        obtain ⟨t, ht, hx⟩ := bnd_inv hx
        cases hx
        obtain ⟨q, e, hE⟩ := plain_E h.1 hy
        rw [e, bnd_ok]
        show ∃ q_1, bnd (fits y.1 false p') _ = _ ∧ _
        rw [fits_E hp ht, bnd_ok]
        exact ⟨q, rfl, hE⟩
theorem vstep_E {inner inner' : Option (Ln → Ot (Tr × Ln))} (hi : ∀ v, inner = some v → ∃ v', inner' = some v' ∧ VE v v') {f : Bool} {r r' : Ln} (h : E r r') {x : Tr × Ln} (hx : vstep inner f r = .ok x) :
    ∃ q, vstep inner' f r' = .ok (x.1, q) ∧ E x.2 q := by
  unfold vstep at hx ⊢
  obtain ⟨y, hy, hx⟩ := bnd_inv hx
  obtain ⟨p', q, e, hp, hE⟩ := prp_E f 3 p0 p0 _ _ _ ⟨rfl, rfl, rfl⟩ h.gaps hy
  rw [e, bnd_ok]
  exact body_E hi hp hE hx
theorem val_E (f : Bool) : ∀ (d : Nat), VE (val d f) (val d f)
  | 0 => fun r r' x h hx => vstep_E (inner := none) (inner' := none) (fun v hv => by cases hv) h hx
  | d + 1 => fun r r' x h hx => vstep_E (inner := some fun m => val d true m) (inner' := some fun m => val d true m) (fun v hv => by cases hv; exact ⟨_, rfl, val_E true d⟩) h hx
/-- P9.6, behind -/
theorem whole_behind (l : Ln) (n : Nat) (hl : l.length + n ≤ 65536) (h : (whole l).2.1 = 0) : whole (l ++ bl n) = whole l := by
  obtain ⟨_, r, hv, hg, he⟩ := whole_inv h
  obtain ⟨q, e, m, rfl⟩ := val_E false 64 l (l ++ bl n) _ ⟨n, rfl⟩ hv
  rw [he]
  unfold whole
  rw [if_neg (by rw [List.length_append, List.length_replicate]; omega), e]
  simp only
  rw [if_pos (by rw [gaps_app0 r _ hg, gaps_bl])]
  unfold whole at he
  exact congrArg (fun z => (z, 0, 0)) rfl
/-! ### where faults lie -/
def Low {α : Type} (m : Nat) (x : Ot α) : Prop := ∀ e, x = .error e → e.2 ≤ m
theorem Low.ok {α : Type} {m : Nat} (a : α) : Low m (.ok a : Ot α) := fun e h => by cases h
theorem Low.err {α : Type} {m : Nat} {e : Fa} (h : e.2 ≤ m) : Low m (.error e : Ot α) := fun e2 h2 => by cases h2; exact h
theorem Low.bnd {α β : Type} {m : Nat} {x : Ot α} {f : α → Ot β} (h : Low m x) (hf : ∀ a, x = .ok a → Low m (f a)) : Low m (bnd x f) := by
  cases x with
  | ok a => exact hf a rfl
  | error e => intro e2 h2; cases h2; exact h e rfl
theorem Low.ite {α : Type} {m : Nat} {p : Prop} [Decidable p] {x y : Ot α} (hx : Low m x) (hy : Low m y) : Low m (if p then x else y) := by split <;> assumption
theorem stands_le (l : Ln) : (stands l).2 ≤ l.length := by
  unfold stands
  split
  · exact Nat.zero_le _
  · exact Nat.le_refl _
theorem drop_le (l : Ln) (k : Nat) : (l.drop k).length ≤ l.length := by rw [List.length_drop]; omega
theorem nam_low {l : Ln} {m : Nat} (h : l.length ≤ m) : Low m (nam l) := .ite (.err (Nat.le_trans (stands_le _) (Nat.le_trans (drop_le _ _) h))) (.ok _)
theorem tag_low {l : Ln} {m : Nat} (h : l.length ≤ m) : Low m (tag l) := .ite (.err (Nat.le_trans (stands_le _) h)) (.ok _)
theorem gap_low {f : Bool} {l : Ln} {m : Nat} (h : l.length ≤ m) : Low m (gap f l) := .ite (.err h) (.ok _)
theorem prp_low (f : Bool) (m : Nat) : ∀ (n : Nat) (p : Pr) (l : Ln), l.length ≤ m → p.at_ ≤ m → Low m (prp f n p l) ∧ ∀ x, prp f n p l = .ok x → x.1.at_ ≤ m ∧ x.2.length ≤ m
  | 0, p, l, h, hp => ⟨.ok _, fun x hx => by cases hx; exact ⟨hp, h⟩⟩
  | n + 1, p, l, h, hp => by
    unfold prp
    have hd1 := drop_le l 1
    have hd2 := drop_le l 2
    by_cases c1 : hd l = 38 ∧ p.anc = []
    · rw [if_pos c1]
      constructor
      · refine .bnd (nam_low (by omega)) fun a ha => .bnd (gap_low (by have := (nam_inv ha).2; omega)) fun r hr => ?_
        exact (prp_low f m n ⟨a.1, p.tag, p.at_, true⟩ r (by have := (nam_inv ha).2; have := gap_inv hr; omega) hp).1
      · intro x hx
        obtain ⟨a, ha, hx⟩ := bnd_inv hx
        obtain ⟨r, hr, hx⟩ := bnd_inv hx
        exact (prp_low f m n ⟨a.1, p.tag, p.at_, true⟩ r (by have := (nam_inv ha).2; have := gap_inv hr; omega) hp).2 x hx
    · rw [if_neg c1]
      by_cases c2 : hd l = 33 ∧ hd (l.drop 1) = 33 ∧ p.tag = 0
      · rw [if_pos c2]
        constructor
        · refine .bnd (tag_low (by omega)) fun a ha => .bnd (gap_low (by have := (tag_inv ha).2.2; omega)) fun r hr => ?_
          exact (prp_low f m n ⟨p.anc, a.1, l.length, true⟩ r (by have := (tag_inv ha).2.2; have := gap_inv hr; omega) h).1
        · intro x hx
          obtain ⟨a, ha, hx⟩ := bnd_inv hx
          obtain ⟨r, hr, hx⟩ := bnd_inv hx
          exact (prp_low f m n ⟨p.anc, a.1, l.length, true⟩ r (by have := (tag_inv ha).2.2; have := gap_inv hr; omega) h).2 x hx
      · rw [if_neg c2]
        exact ⟨.ok _, fun x hx => by cases hx; exact ⟨hp, h⟩⟩
theorem quoted_low {l : Ln} {m : Nat} (h : l.length ≤ m) : Low m (quoted l) := .ite (.err (show l.length - _ ≤ m by omega)) (.ok _)
theorem plain_low {f : Bool} {l : Ln} {m : Nat} (h : l.length ≤ m) : Low m (plain f l) := .ite (.err h) (.ok _)
theorem fits_low {s : Ln} {q : Bool} {p : Pr} {m : Nat} (h : p.at_ ≤ m) : Low m (fits s q p) := .ite (.ok _) (.ite (.ite (.err h) (.ok _)) (.ok _))
theorem key_low {l : Ln} {m : Nat} (h : l.length ≤ m) : Low m (key l) := .ite (.bnd (quoted_low h) fun _ _ => .ok _) (.bnd (plain_low h) fun _ _ => .ite (.err (Nat.le_trans (stands_le _) h)) (.ok _))
theorem part_low {v : Ln → Ot (Tr × Ln)} {m : Nat} (hv : ∀ l, l.length ≤ m → Low m (v l)) {map : Bool} {l : Ln} (h : l.length ≤ m) : Low m (part v map l) := by
  refine .ite (.bnd (key_low h) fun k hk => ?_) (.ite (.err (Nat.le_trans (stands_le _) h)) (.bnd (hv _ h) fun _ _ => .ok _))
  have h1 := (key_inv hk).2.2
  have h2 := gaps_len k.2
  have h3 := drop_le (gaps k.2) 1
  exact .ite (.err (Nat.le_trans (stands_le _) (by omega))) (.bnd (hv _ (by omega)) fun _ _ => .ok _)
theorem lst_low {v : Ln → Ot (Tr × Ln)} {m d : Nat} (hv : ∀ l, l.length ≤ m → Low m (v l)) (hi : ∀ l x, v l = .ok x → rgt d x.1 = true ∧ x.2.length + cntT d x.1 ≤ l.length + 1) (hc : ∀ t, 1 ≤ cntT d t) (map : Bool) : ∀ (n : Nat) (l : Ln), l.length ≤ m → Low m (lst v map n l)
  | 0, l, h => .err (Nat.le_trans (stands_le _) h)
  | n + 1, l, h => by
    unfold lst
    have hg := gaps_len l
    refine .ite (.ok _) (.bnd (part_low hv (by omega)) fun x hx => ?_)
    have hx2 : x.2.length ≤ m := by
      have h1 := (part_inv hi hx).2.1
      unfold part at hx
      cases map
      · rw [if_neg (by decide)] at hx
        obtain ⟨_, hx⟩ := ite_inv hx
        obtain ⟨y, hy, hx⟩ := bnd_inv hx
        cases hx
        have := (hi _ _ hy).2
        have := hc y.1
        show y.2.length ≤ m
        omega
      · rw [if_pos rfl] at hx
        obtain ⟨k, hk, hx⟩ := bnd_inv hx
        obtain ⟨_, hx⟩ := ite_inv hx
        obtain ⟨y, hy, hx⟩ := bnd_inv hx
        cases hx
        have := (hi _ _ hy).2
        have := hc y.1
        have h1 := (key_inv hk).2.2
        have h2 := gaps_len k.2
        have h3 := drop_le (gaps k.2) 1
        show y.2.length ≤ m
        omega
    have hg2 := gaps_len x.2
    have hd2 := drop_le (gaps x.2) 1
    exact .ite (.bnd (lst_low hv hi hc map n _ (by omega)) fun _ _ => .ok _) (.ite (.ok _) (.err (Nat.le_trans (stands_le _) (by omega))))
theorem cnt_pos (d : Nat) (t : Tr) : 1 ≤ cntT d t := by
  cases d with
  | zero => exact Nat.le_refl _
  | succ d => unfold cntT; omega
theorem vstep_low {inner : Option (Ln → Ot (Tr × Ln))} {m : Nat} (hv : ∀ v, inner = some v → (∀ l, l.length ≤ m → Low m (v l)) ∧ ∃ d, ∀ l x, v l = .ok x → rgt d x.1 = true ∧ x.2.length + cntT d x.1 ≤ l.length + 1) (f : Bool) (l : Ln) (h : l.length ≤ m) : Low m (vstep inner f l) := by
  unfold vstep
  have hg := gaps_len l
  have hp := prp_low f m 3 p0 (gaps l) (by omega) (Nat.zero_le _)
  refine .bnd hp.1 fun x hx => ?_
  obtain ⟨h1, h2⟩ := hp.2 x hx
  have h3 := drop_le x.2 1
  unfold body
  refine .ite (.ite (.err (Nat.le_trans (stands_le _) h2)) (.bnd (nam_low (by omega)) fun _ _ => .ok _)) (.ite ?_ (.ite (.bnd (quoted_low h2) fun _ _ => .bnd (fits_low h1) fun _ _ => .ok _) (.bnd (plain_low h2) fun _ _ => .bnd (fits_low h1) fun _ _ => .ok _)))
  cases inner with
  | none => exact .err h2
  | some v =>
    obtain ⟨hv1, d, hv2⟩ := hv v rfl
    exact .bnd (lst_low hv1 hv2 (cnt_pos d) _ _ _ (by omega)) fun _ _ => .ite (.err h1) (.ok _)
theorem val_low : ∀ (d : Nat) (f : Bool) (m : Nat) (l : Ln), l.length ≤ m → Low m (val d f l)
  | 0, f, m, l, h => vstep_low (inner := none) (fun v h => by cases h) f l h
  | d + 1, f, m, l, h => vstep_low (inner := some fun x => val d true x) (fun v hv => by cases hv; exact ⟨fun r hr => val_low d true m r hr, d, fun r x hx => val_inv d true r x hx⟩) f l h
/-- P9.6, ahead -/
theorem whole_ahead (l : Ln) (n : Nat) (hl : l.length + n ≤ 65536) : (whole (bl n ++ l)).1 = (whole l).1 ∧ (whole (bl n ++ l)).2.1 = (whole l).2.1 ∧ ((whole l).2.1 ≠ 0 → (whole (bl n ++ l)).2.2 = (whole l).2.2 + n) := by
  have elen : (bl n ++ l).length = n + l.length := by rw [List.length_append, List.length_replicate]
  have hr : ∀ x, val 64 false l = .ok x → (gaps x.2).length ≤ l.length := by
    intro x hx
    have h1 := (val_inv 64 false l x hx).2
    have h2 := cnt_pos 64 x.1
    have h3 := gaps_len x.2
    omega
  have hlow := val_low 64 false l.length l (Nat.le_refl _)
  unfold whole
  rw [if_neg (show ¬ (bl n ++ l).length > 65536 by omega), if_neg (show ¬ l.length > 65536 by omega), val_ahead, elen]
  cases e : val 64 false l with
  | ok x =>
    have := hr x e
    simp only
    by_cases c : gaps x.2 = []
    · rw [if_pos c, if_pos c]
      exact ⟨rfl, rfl, fun h => absurd rfl h⟩
    · rw [if_neg c, if_neg c]
      exact ⟨rfl, rfl, fun _ => by show n + l.length - _ = l.length - _ + n; omega⟩
  | error e2 =>
    have := hlow e2 e
    exact ⟨rfl, rfl, fun _ => by show n + l.length - _ = l.length - _ + n; omega⟩
end Go.Proofs.YteokhnielbmifaaGreatDoor.Flw
end

section
/- Seqs and Maps within one another, as far as they may be deep. -/
namespace Go.Proofs.YteokhnielbmifaaGreatDoor.Flw
open Utf Rws Pln
set_option linter.unusedSimpArgs false
set_option linter.unusedVariables false

def op (map : Bool) : Ln := if map then [123, 97, 58, 32] else [91]
def opens (map : Bool) : Nat → Ln
  | 0 => []
  | n + 1 => op map ++ opens map n
abbrev closs (map : Bool) (n : Nat) : Ln := List.replicate n (endOf map)
theorem opens_snoc (map : Bool) (n : Nat) : opens map (n + 1) = opens map n ++ op map := by
  induction n with
  | zero => show op map ++ [] = [] ++ op map; simp
  | succ n ih =>
    show op map ++ opens map (n + 1) = (op map ++ opens map n) ++ op map
    rw [List.append_assoc, ← ih]
theorem opens_add (map : Bool) (k n : Nat) : opens map (k + n) = opens map k ++ opens map n := by
  induction k with
  | zero => rw [Nat.zero_add]; rfl
  | succ k ih => rw [show k + 1 + n = (k + n) + 1 by omega, show opens map (k + n + 1) = op map ++ opens map (k + n) from rfl, ih, show opens map (k + 1) = op map ++ opens map k from rfl, List.append_assoc]
theorem opens_len (map : Bool) (n : Nat) : (opens map n).length = n * (if map then 4 else 1) := by
  induction n with
  | zero => simp [opens]
  | succ n ih =>
    rw [show opens map (n + 1) = op map ++ opens map n from rfl, List.length_append, ih]
    cases map <;> simp [op] <;> omega
def nul : Tr := ⟨1, [], [], []⟩
def keyA : Tr := ⟨4, [97], [], []⟩
/-- n of them within one another -/
def nest (map : Bool) : Nat → Tr
  | 0 => nul
  | n + 1 => ⟨kindOf map, [], [], if map then [keyA, nest map n] else if n = 0 then [] else [nest map n]⟩

theorem key_a (l : Ln) : key (97 :: 58 :: 32 :: l) = .ok (keyA, 58 :: 32 :: l) := by
  have := key_scl (k := 4) (s := [97]) (by decide) (by decide) (by decide +kernel) l
  rw [show scl true 4 [97] = [97] by decide +kernel] at this
  exact this
theorem prp_none (f : Bool) (m : Ln) (h2 : hd m ≠ 38) (h3 : hd m ≠ 33) (n : Nat) (p : Pr) : prp f n p m = .ok (p, m) := by
  cases n with
  | zero => rfl
  | succ n =>
    unfold prp
    rw [if_neg (fun h => h2 h.1), if_neg (fun h => h3 h.1)]
/-- a value that is a bracket, one deep -/
theorem val_open (d : Nat) (f map : Bool) (l : Ln) : val (d + 1) f ((if map then 123 else 91) :: l) =
    bnd (lst (fun m => val d true m) map (l.length + 1) l) fun x => .ok (⟨kindOf map, [], [], x.1⟩, x.2) := by
  show vstep _ f _ = _
  unfold vstep
  have h32 : (if map then 123 else 91 : UInt8) ≠ 32 := by cases map <;> decide
  rw [gaps_cons l h32, prp_none f _ (by cases map <;> · rw [hd_cons]; decide) (by cases map <;> · rw [hd_cons]; decide), bnd_ok]
  unfold body
  cases map
  · rfl
  · rfl
theorem val_open0 (f map : Bool) (l : Ln) : val 0 f ((if map then 123 else 91) :: l) = .error (10, l.length + 1) := by
  show vstep _ f _ = _
  unfold vstep
  have h32 : (if map then 123 else 91 : UInt8) ≠ 32 := by cases map <;> decide
  rw [gaps_cons l h32, prp_none f _ (by cases map <;> · rw [hd_cons]; decide) (by cases map <;> · rw [hd_cons]; decide), bnd_ok]
  unfold body
  cases map
  · rfl
  · rfl
theorem cut_none (c : UInt8) (l : Ln) (hc : fl c = true) : cutT (c :: l) true = [] := by
  have : fin (c :: l) true = 0 := by
    refine fin_uniq _ _ _ (Nat.zero_le _) (fun j hj => absurd hj (by omega)) (.inr ?_)
    unfold en
    show (if (c == 58) = true then _ else _) = true
    rcases fl_cases hc with rfl | rfl | rfl | rfl | rfl <;> simp [fl, has, flows]
  unfold cutT
  rw [this]
  rfl
/-- nothing, ahead of a bracket's end -/
theorem val_nothing (d : Nat) (l : Ln) : val d true (125 :: l) = .ok (nul, 125 :: l) := by
  obtain ⟨inner, e, _⟩ := val_step d true (125 :: l)
  rw [e]
  unfold vstep
  rw [gaps_cons l (by decide), prp_none true _ (by rw [hd_cons]; decide) (by rw [hd_cons]; decide), bnd_ok]
  unfold body
  rw [hd_cons, if_neg (by decide), if_neg (by decide), if_neg (by decide)]
  unfold plain
  rw [cut_none 125 l (by decide), if_neg (fun h => h.1 rfl), bnd_ok]
  rfl
/-- one bracket more, round a value -/
theorem lst_one (v : Ln → Ot (Tr × Ln)) (hv : ∀ l, v (32 :: l) = v l) (map : Bool) (n : Nat) (m : Ln) (h1 : m ≠ []) (h2 : hd m ≠ 32) (h3 : map = true ∨ (hd m ≠ 44 ∧ hd m ≠ 93)) :
    lst v map (n + 1) ((op map).drop 1 ++ m) = bnd (v m) fun x => if hd (gaps x.2) = 44 then bnd (lst v map n ((gaps x.2).drop 1)) fun y => .ok ((if map then [keyA, x.1] else [x.1]) ++ y.1, y.2)
      else if hd (gaps x.2) = endOf map then .ok (if map then [keyA, x.1] else [x.1], (gaps x.2).drop 1) else .error (stands (gaps x.2)) := by
  cases map
  · have h4 := h3.resolve_left (by decide)
    rw [show (op false).drop 1 ++ m = m from rfl, lst]
    rw [gaps_of h2, if_neg (by exact h4.2)]
    unfold part
    rw [if_neg (by decide), if_neg (fun h => h.elim h1 h4.1)]
    cases v m with
    | ok x => rfl
    | error e => rfl
  · rw [show (op true).drop 1 ++ m = 97 :: 58 :: 32 :: m from rfl, lst]
    rw [gaps_cons _ (by decide), if_neg (by rw [hd_cons]; decide)]
    unfold part
    show bnd (if true = true then bnd (key (97 :: 58 :: 32 :: m)) _ else _) _ = _
    rw [if_pos rfl, key_a, bnd_ok]
    show bnd (if colon (gaps (58 :: 32 :: m)) = false then _ else bnd (v ((gaps (58 :: 32 :: m)).drop 1)) _) _ = _
    rw [gaps_cons _ (by decide), if_neg (by unfold colon; simp [hd])]
    show bnd (bnd (v (32 :: m)) _) _ = _
    rw [hv]
    cases v m with
    | ok x => rfl
    | error e => rfl
theorem op_eq (map : Bool) : op map = (if map then 123 else 91) :: (op map).drop 1 := by cases map <;> rfl
/-- as deep as may be -/
theorem deep_ok (map : Bool) : ∀ (n d : Nat) (f : Bool) (l : Ln), n < d → val d f (opens map (n + 1) ++ (closs map (n + 1) ++ l)) = .ok (nest map (n + 1), l)
  | 0, d, f, l, hd_ => by
    obtain ⟨d, rfl⟩ : ∃ k, d = k + 1 := ⟨d - 1, by omega⟩
    have e : opens map 1 ++ (closs map 1 ++ l) = (if map then 123 else 91) :: ((op map).drop 1 ++ endOf map :: l) := by cases map <;> rfl
    rw [e, val_open]
    cases map
    · show bnd (lst _ false _ (93 :: l)) _ = _
      rw [lst, gaps_cons l (by decide), if_pos (by rfl), bnd_ok]
      rfl
    · rw [show endOf true = 125 from rfl, lst_one (fun m => val d true m) (fun m => val_32 d true m) true _ (125 :: l) (by simp) (by rw [hd_cons]; decide) (.inl rfl)]
      show bnd (bnd (val d true (125 :: l)) _) _ = _
      rw [val_nothing, bnd_ok]
      show bnd (if hd (gaps (125 :: l)) = 44 then _ else if hd (gaps (125 :: l)) = endOf true then _ else _) _ = _
      rw [gaps_cons l (by decide), if_neg (by rw [hd_cons]; decide), if_pos (by rfl), bnd_ok]
      rfl
  | n + 1, d, f, l, hd_ => by
    obtain ⟨d, rfl⟩ : ∃ k, d = k + 1 := ⟨d - 1, by omega⟩
    have ih := deep_ok map n d true (endOf map :: l) (by omega)
    have e : opens map (n + 1 + 1) ++ (closs map (n + 1 + 1) ++ l) = (if map then 123 else 91) :: ((op map).drop 1 ++ (opens map (n + 1) ++ (closs map (n + 1) ++ endOf map :: l))) := by
      rw [show opens map (n + 1 + 1) = op map ++ opens map (n + 1) from rfl, show closs map (n + 1 + 1) = closs map (n + 1) ++ [endOf map] from List.replicate_succ']
      conv => lhs; rw [op_eq]
      simp
    rw [e, val_open]
    have hh : hd (opens map (n + 1) ++ (closs map (n + 1) ++ endOf map :: l)) = if map then 123 else 91 := by cases map <;> rfl
    have hne : opens map (n + 1) ++ (closs map (n + 1) ++ endOf map :: l) ≠ [] := by cases map <;> simp [opens, op]
    rw [lst_one (fun m => val d true m) (fun m => val_32 d true m) map _ _ hne (by rw [hh]; cases map <;> decide) (by rw [hh]; cases map <;> decide), ih, bnd_ok]
    have he : endOf map ≠ 32 := by cases map <;> decide
    have he2 : endOf map ≠ 44 := by cases map <;> decide
    show bnd (if hd (gaps (endOf map :: l)) = 44 then _ else if hd (gaps (endOf map :: l)) = endOf map then _ else _) _ = _
    rw [gaps_cons l he, if_neg (by rw [hd_cons]; exact he2), if_pos (by rfl), bnd_ok]
    show (Except.ok ((⟨kindOf map, [], [], if map then [keyA, nest map (n + 1)] else [nest map (n + 1)]⟩ : Tr), l) : Ot (Tr × Ln)) = .ok ((⟨kindOf map, [], [], if map then [keyA, nest map (n + 1)] else if n + 1 = 0 then [] else [nest map (n + 1)]⟩ : Tr), l)
    rw [if_neg (show ¬ n + 1 = 0 by omega)]
/-- too deep -/
theorem deep_err (map : Bool) : ∀ (d n : Nat) (f : Bool) (l : Ln), val d f (opens map (d + (n + 1)) ++ l) = .error (10, (opens map (n + 1) ++ l).length)
  | 0, n, f, l => by
    have e : opens map (0 + (n + 1)) ++ l = (if map then 123 else 91) :: ((op map).drop 1 ++ (opens map n ++ l)) := by
      rw [Nat.zero_add, show opens map (n + 1) = op map ++ opens map n from rfl]
      conv => lhs; rw [op_eq]
      simp
    have e2 : opens map (n + 1) ++ l = (if map then 123 else 91) :: ((op map).drop 1 ++ (opens map n ++ l)) := by rw [← e, Nat.zero_add]
    rw [e, e2, val_open0, List.length_cons]
  | d + 1, n, f, l => by
    have ih := deep_err map d n true l
    have e : opens map (d + 1 + (n + 1)) ++ l = (if map then 123 else 91) :: ((op map).drop 1 ++ (opens map (d + (n + 1)) ++ l)) := by
      rw [show d + 1 + (n + 1) = (d + (n + 1)) + 1 by omega, show opens map (d + (n + 1) + 1) = op map ++ opens map (d + (n + 1)) from rfl]
      conv => lhs; rw [op_eq]
      simp
    rw [e, val_open]
    have hh : hd (opens map (d + (n + 1)) ++ l) = if map then 123 else 91 := by
      rw [show d + (n + 1) = (d + n) + 1 by omega]
      cases map <;> rfl
    have hne : opens map (d + (n + 1)) ++ l ≠ [] := by
      rw [show d + (n + 1) = (d + n) + 1 by omega]
      cases map <;> simp [opens, op]
    rw [lst_one (fun m => val d true m) (fun m => val_32 d true m) map _ _ hne (by rw [hh]; cases map <;> decide) (by rw [hh]; cases map <;> decide), ih]
    rfl
/-- P9.1: as far as they may be deep, and no farther -/
theorem whole_deep (map : Bool) (n : Nat) (hn : n < 80) : whole (opens map (n + 1) ++ closs map (n + 1)) =
    if n < 64 then (nest map (n + 1), 0, 0) else (tr0, 10, if map then 256 else 64) := by
  have hl : (opens map (n + 1) ++ closs map (n + 1)).length ≤ 65536 := by
    rw [List.length_append, opens_len, List.length_replicate]
    cases map <;> simp <;> omega
  unfold whole
  rw [if_neg (show ¬ (opens map (n + 1) ++ closs map (n + 1)).length > 65536 by omega)]
  by_cases c : n < 64
  · have := deep_ok map n 64 false [] c
    rw [List.append_nil] at this
    rw [this, if_pos c]
    rfl
  · obtain ⟨k, rfl⟩ : ∃ k, n = 64 + k := ⟨n - 64, by omega⟩
    have := deep_err map 64 k false (closs map (64 + k + 1))
    rw [show 64 + k + 1 = 64 + (k + 1) by omega] at this ⊢
    rw [this, if_neg c]
    simp only
    rw [List.length_append, List.length_append, opens_len, opens_len]
    cases map <;> simp <;> omega
end Go.Proofs.YteokhnielbmifaaGreatDoor.Flw
end
