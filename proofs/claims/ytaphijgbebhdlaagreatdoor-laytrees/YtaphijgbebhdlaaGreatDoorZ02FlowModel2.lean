/- Several texts as one: FlowModel2, FlowModel3. -/
import Derived.Test.YtaphijgbebhdlaaGreatDoorZ01RowsPlain
section
/- What is written is read. -/
namespace Go.Proofs.YtaphijgbebhdlaaGreatDoor.Flw
open Utf Rws Pln
set_option linter.unusedSimpArgs false
set_option linter.unusedVariables false

/-- what may stand behind a value -/
def Stop (f : Bool) (l : Ln) : Prop := l = [] ∨ (f = true ∧ fl (hd l) = true)

theorem fl_cases {c : UInt8} (h : fl c = true) : c = 44 ∨ c = 91 ∨ c = 93 ∨ c = 123 ∨ c = 125 := by
  unfold fl has flows at h
  simp only [List.any_cons, List.any_nil, Bool.or_false, Bool.or_eq_true, beq_iff_eq] at h
  rcases h with h | h | h | h | h <;> simp [h]
theorem fl_letter {c : UInt8} (h : fl c = true) : letter c = false := by
  rcases fl_cases h with rfl | rfl | rfl | rfl | rfl <;> decide
theorem Stop.letter {f : Bool} {l : Ln} (h : Stop f l) : letter (hd l) = false := by
  rcases h with rfl | ⟨_, h⟩
  · decide
  · exact fl_letter h
/-- a plain text ends ahead of these -/
theorem cut_stop (t s : Ln) (c : UInt8) (h : isP t true = true) (hc : fl c = true) : cutT (t ++ c :: s) true = t := by
  have hfin : fin (t ++ c :: s) true = t.length := by
    have hf := isP_fin h
    have g0 : (t ++ c :: s).getD t.length 0 = c := getD_app_right t (c :: s) 0
    refine fin_uniq _ _ _ (by simp) (fun j hj => ?_) (.inr ?_)
    · have hno : en t true j = false := fin_no t true j (by omega)
      have g2 : (t ++ c :: s).getD j 0 = t.getD j 0 := getD_app_left _ _ _ hj
      have g3 : (t ++ c :: s).getD (j - 1) 0 = t.getD (j - 1) 0 := getD_app_left _ _ _ (by omega)
      unfold en at hno ⊢
      rw [g2, g3]
      by_cases c1 : (t.getD j 0 == 58) = true
      · rw [if_pos c1] at hno ⊢
        simp only [Bool.or_eq_false_iff, Bool.and_eq_false_iff] at hno
        have hj1 : j + 1 < t.length := by
          have := hno.1.1
          simp at this; omega
        have g4 : (t ++ c :: s).getD (j + 1) 0 = t.getD (j + 1) 0 := getD_app_left _ _ _ hj1
        have e1 : (j + 1 == (t ++ c :: s).length) = false := by simp; omega
        rw [g4, e1, hno.1.2]
        simp
        rcases hno.2 with h2 | h2
        · simp at h2
        · simp at h2; simp [h2]
      · rw [if_neg c1] at hno ⊢
        exact hno
    · unfold en
      rw [g0]
      rcases fl_cases hc with rfl | rfl | rfl | rfl | rfl <;> simp [fl, has, flows]
  unfold cutT
  rw [hfin, List.take_append_of_le_length (Nat.le_refl _), List.take_length]
  exact trR_keep is32 t (isP_ne h) (isP_last h)
theorem cut_Stop {t l : Ln} {f : Bool} (h : isP t true = true) (hs : Stop f l) : cutT (t ++ l) f = t ∧ isP t f = true := by
  have hf : isP t f = true := by
    cases f
    · exact isP_flow t h
    · exact h
  refine ⟨?_, hf⟩
  rcases hs with rfl | ⟨rfl, hc⟩
  · rw [List.append_nil]; exact cutT_whole hf
  · cases l with
    | nil => exact absurd hc (by decide)
    | cons c s => exact cut_stop t s c h hc
/-- a plain text's first byte -/
theorem isP_hd {t : Ln} {f : Bool} (h : isP t f = true) : mrk (hd t) = false ∧ hd t ≠ 32 := by
  unfold isP bg at h
  simp only [Bool.and_eq_true, Bool.not_eq_true'] at h
  refine ⟨h.1.1.2.1.2, ?_⟩
  have := h.1.1.2.1.1.2
  intro e
  rw [show t.getD 0 0 = hd t from rfl, e] at this
  exact absurd this (by decide)
theorem hd_app {t : Ln} (l : Ln) (h : t ≠ []) : hd (t ++ l) = hd t := by
  cases t with
  | nil => exact absurd rfl h
  | cons b r => rfl
theorem mrk_ne {c : UInt8} (h : mrk c = false) : c ≠ 42 ∧ c ≠ 91 ∧ c ≠ 123 ∧ c ≠ 39 ∧ c ≠ 34 ∧ c ≠ 38 ∧ c ≠ 33 ∧ c ≠ 44 ∧ c ≠ 93 ∧ c ≠ 125 ∧ c ≠ 58 := by
  refine ⟨?_, ?_, ?_, ?_, ?_, ?_, ?_, ?_, ?_, ?_, ?_⟩ <;> · rintro rfl; revert h; decide

theorem takeWhile_app (p : UInt8 → Bool) (a l : Ln) (ha : a.all p = true) (hl : p (hd l) = false ∨ l = []) : (a ++ l).takeWhile p = a := by
  induction a with
  | nil =>
    cases l with
    | nil => rfl
    | cons b r =>
      rcases hl with hl | hl
      · have : p b = false := hl
        simp [List.takeWhile, this]
      · cases hl
  | cons b r ih =>
    simp only [List.all_cons, Bool.and_eq_true] at ha
    rw [List.cons_append, List.takeWhile_cons_of_pos ha.1, ih ha.2]
theorem nam_app (a l : Ln) (h : isName a = true) (hl : letter (hd l) = false) : nam (a ++ l) = .ok (a, l) := by
  unfold isName at h
  simp only [Bool.and_eq_true, decide_eq_true_eq] at h
  have e : ((a ++ l).takeWhile letter).take 32 = a := by
    rw [takeWhile_app letter a l h.1.1 (.inl hl), List.take_of_length_le h.2]
  unfold nam
  rw [e, List.drop_left, if_neg]
  rintro (h1 | h1)
  · omega
  · rw [hl] at h1; cases h1
theorem gaps_hd {m : Ln} (h : hd m ≠ 32) : gaps m = m := gaps_of h
/-- the properties that are written -/
theorem prp_ancW (f : Bool) (a m : Ln) (ha : a = [] ∨ isName a = true) (h1 : hd m ≠ 32) (h2 : hd m ≠ 38) (h3 : hd m ≠ 33) :
    prp f 3 p0 (gaps (ancW a ++ m)) = .ok (⟨a, 0, 0, !(a == [])⟩, m) := by
  have none_ : ∀ (n : Nat) (p : Pr), prp f (n + 1) p m = .ok (p, m) := by
    intro n p
    unfold prp
    rw [if_neg (fun h => h2 h.1), if_neg (fun h => h3 h.1)]
  by_cases e : a = []
  · subst e
    have : ancW [] ++ m = m := rfl
    rw [this, gaps_of h1, none_]
    rfl
  · have hn : isName a = true := ha.resolve_left e
    have e1 : ancW a ++ m = 38 :: (a ++ 32 :: m) := by unfold ancW; rw [if_neg e]; simp
    have e2 : (a == []) = false := by simpa using e
    rw [e1, gaps_cons _ (by decide), e2]
    unfold prp
    rw [if_pos ⟨rfl, rfl⟩]
    show bnd (nam (a ++ 32 :: m)) _ = _
    rw [nam_app a (32 :: m) hn (show letter 32 = false by decide), bnd_ok]
    have eg : gap f (32 :: m) = .ok m := by
      unfold gap
      rw [if_neg (fun h => h.2.1 rfl), gaps_32, gaps_of h1]
    show bnd (gap f (32 :: m)) _ = _
    rw [eg, bnd_ok, none_]
    rfl

/-- a scalar's text: plain, and of that kind; or doubly quoted -/
theorem scl_cases {k : Int} {s : Ln} (h1 : 1 ≤ k) (h4 : k ≤ 4) (ht : txt k s = true) :
    (isP (scl true k s) true = true ∧ ∀ a, leaf (knd (scl true k s)) (scl true k s) a = ⟨k, s, a, []⟩) ∨ (k = 4 ∧ scl true k s = Quo.dbl s ∧ (dec s).2 = none) := by
  have hk : k = 1 ∨ k = 2 ∨ k = 3 ∨ k = 4 := by omega
  rcases hk with rfl | rfl | rfl | rfl
  · left
    have hs : s = [] := by simpa [txt] using ht
    subst hs
    exact ⟨by decide +kernel, fun a => rfl⟩
  · left
    have hs : s = [116, 114, 117, 101] ∨ s = [102, 97, 108, 115, 101] := by simpa [txt] using ht
    rcases hs with rfl | rfl
    · exact ⟨by decide +kernel, fun a => rfl⟩
    · exact ⟨by decide +kernel, fun a => rfl⟩
  · left
    have hs : knd s = 3 := by simpa [txt] using ht
    have e : scl true 3 s = s := rfl
    rw [e, hs]
    refine ⟨?_, fun a => rfl⟩
    have hn : numB s = true := by
      unfold knd at hs
      split at hs
      · cases hs
      · split at hs
        · cases hs
        · split at hs
          · assumption
          · cases hs
    unfold numB at hn
    cases e2 : numA s with
    | none => rw [e2] at hn; cases hn
    | some v =>
      have := (numA_some e2).1
      rw [← this]
      exact itoa_isP v true
  · have hs : (dec s).2 = none := by simpa [txt] using ht
    by_cases c : isP s true = true ∧ knd s = 4
    · left
      have e : scl true 4 s = s := by unfold scl; simp [c]
      rw [e, c.2]
      exact ⟨c.1, fun a => rfl⟩
    · right
      refine ⟨rfl, ?_, hs⟩
      unfold scl
      simp [c, hs]
theorem dbl_hd (s : Ln) : ∃ r, Quo.dbl s = 34 :: r := ⟨_, rfl⟩
theorem quoted_dbl (s l : Ln) (h : (dec s).2 = none) : quoted (Quo.dbl s ++ l) = .ok (s, l) := by
  unfold quoted
  rw [Quo.rd_double s l h]
  simp
/-- a scalar that is written is read -/
theorem body_scl {k : Int} {s : Ln} (h1 : 1 ≤ k) (h4 : k ≤ 4) (ht : txt k s = true) (inner : Option (Ln → Ot (Tr × Ln))) (f : Bool) (p : Pr) (hp : p.tag = 0) (l : Ln) (hs : Stop f l) :
    body inner f p (scl true k s ++ l) = .ok (⟨k, s, p.anc, []⟩, l) := by
  rcases scl_cases h1 h4 ht with ⟨hP, hL⟩ | ⟨rfl, hd_, hdec⟩
  · have hh := isP_hd hP
    have hne := mrk_ne hh.1
    have hc := cut_Stop hP hs
    have h0 := isP_ne hP
    unfold body
    rw [hd_app l h0, if_neg hne.1, if_neg (fun h => h.elim hne.2.1 hne.2.2.1), if_neg (fun h => h.elim hne.2.2.2.1 hne.2.2.2.2.1)]
    unfold plain
    rw [hc.1, if_neg (fun h => by rw [hc.2] at h; exact absurd h.2 (by decide)), List.drop_left, bnd_ok]
    unfold fits
    simp only [hp]
    rw [if_neg (by decide), if_neg (by simp)]
    show bnd (Except.ok (leaf (knd (scl true k s)) (scl true k s) p.anc)) _ = _
    rw [hL, bnd_ok]
  · rw [hd_]
    unfold body
    obtain ⟨r, er⟩ := dbl_hd s
    have eh : hd (Quo.dbl s ++ l) = 34 := by rw [er]; rfl
    rw [eh, if_neg (by decide), if_neg (by decide), if_pos (.inr rfl), quoted_dbl s l hdec, bnd_ok]
    unfold fits
    simp only [hp]
    rw [if_neg (by decide), if_neg (by simp), bnd_ok]
    rfl
theorem key_scl {k : Int} {s : Ln} (h1 : 1 ≤ k) (h4 : k ≤ 4) (ht : txt k s = true) (l : Ln) :
    key (scl true k s ++ 58 :: 32 :: l) = .ok (⟨k, s, [], []⟩, 58 :: 32 :: l) := by
  rcases scl_cases h1 h4 ht with ⟨hP, hL⟩ | ⟨rfl, hd_, hdec⟩
  · have hh := isP_hd hP
    have hne := mrk_ne hh.1
    have h0 := isP_ne hP
    have hc : cutT (scl true k s ++ 58 :: 32 :: l) true = scl true k s := by
      have := (cut_ahead (scl true k s) l true hP).2
      rw [List.append_assoc] at this
      exact this
    unfold key
    rw [hd_app _ h0, if_neg (fun h => h.elim hne.2.2.2.1 hne.2.2.2.2.1)]
    unfold plain
    rw [hc, if_neg (fun h => by rw [hP] at h; exact absurd h.2 (by decide)), List.drop_left, bnd_ok]
    show (if scl true k s = [] then _ else _) = _
    rw [if_neg h0, hL]
  · rw [hd_]
    unfold key
    obtain ⟨r, er⟩ := dbl_hd s
    have eh : hd (Quo.dbl s ++ 58 :: 32 :: l) = 34 := by rw [er]; rfl
    rw [eh, if_pos (.inr rfl), quoted_dbl s _ hdec, bnd_ok]
/-- how a scalar's text begins -/
theorem scl_hd {k : Int} {s : Ln} (h1 : 1 ≤ k) (h4 : k ≤ 4) (ht : txt k s = true) :
    scl true k s ≠ [] ∧ hd (scl true k s) ≠ 32 ∧ hd (scl true k s) ≠ 38 ∧ hd (scl true k s) ≠ 33 ∧ hd (scl true k s) ≠ 44 ∧ hd (scl true k s) ≠ 93 ∧ hd (scl true k s) ≠ 125 := by
  rcases scl_cases h1 h4 ht with ⟨hP, _⟩ | ⟨rfl, hd_, hdec⟩
  · have hh := isP_hd hP
    have hne := mrk_ne hh.1
    exact ⟨isP_ne hP, hh.2, hne.2.2.2.2.2.1, hne.2.2.2.2.2.2.1, hne.2.2.2.2.2.2.2.1, hne.2.2.2.2.2.2.2.2.1, hne.2.2.2.2.2.2.2.2.2.1⟩
  · rw [hd_]
    obtain ⟨r, er⟩ := dbl_hd s
    rw [er]
    simp only [hd_cons]
    exact ⟨by simp, by decide, by decide, by decide, by decide, by decide, by decide⟩

theorem sep_two (map : Bool) (i : Nat) : sep map (i + 1 + 2) = sep map (i + 1) := by
  unfold sep
  rw [if_neg (show ¬ i + 1 + 2 = 0 by omega), if_neg (show ¬ i + 1 = 0 by omega)]
  have : (i + 1 + 2) % 2 = (i + 1) % 2 := by omega
  rw [this]
theorem jn_two (map : Bool) (ks : List Ln) : ∀ i, jn map (i + 1 + 2) ks = jn map (i + 1) ks := by
  induction ks with
  | nil => intro i; rfl
  | cons k ks ih =>
    intro i
    unfold jn
    rw [sep_two, show i + 1 + 2 + 1 = (i + 1) + 1 + 2 from by omega, ih (i + 1)]
theorem jn_seq (ks : List Ln) : ∀ i, jn false (i + 1) ks = jn false 1 ks := by
  induction ks with
  | nil => intro i; rfl
  | cons k ks ih =>
    intro i
    unfold jn
    rw [ih (i + 1), ih 1]
    rfl
theorem lst_32 (v : Ln → Ot (Tr × Ln)) (map : Bool) (n : Nat) (l : Ln) : lst v map (n + 1) (32 :: l) = lst v map (n + 1) l := by
  unfold lst
  rw [gaps_32]
/-- what a value's text must be, to be read within a bracket -/
structure Good (v : Ln → Ot (Tr × Ln)) (w : Ln) (t : Tr) : Prop where
  ne : w ≠ []
  h32 : hd w ≠ 32
  h44 : hd w ≠ 44
  h93 : hd w ≠ 93
  h125 : hd w ≠ 125
  reads : ∀ l, Stop true l → v (w ++ l) = .ok (t, l)
theorem lst_seq (v : Ln → Ot (Tr × Ln)) (w : Tr → Ln) : ∀ (ks : List Tr), (∀ k ∈ ks, Good v (w k) k) → ∀ (n : Nat) (l : Ln), (jn false 0 (ks.map w)).length + 1 ≤ n →
    lst v false n (jn false 0 (ks.map w) ++ 93 :: l) = .ok (ks, l)
  | [], _, n, l, hn => by
    obtain ⟨n, rfl⟩ : ∃ m, n = m + 1 := ⟨n - 1, by omega⟩
    show lst v false (n + 1) (93 :: l) = _
    unfold lst
    rw [gaps_cons l (by decide), if_pos (by rfl)]
    rfl
  | [k], hg, n, l, hn => by
    obtain ⟨n, rfl⟩ : ∃ m, n = m + 1 := ⟨n - 1, by omega⟩
    have g := hg k (by simp)
    have e : jn false 0 ([k].map w) ++ 93 :: l = w k ++ 93 :: l := by simp [jn, sep]
    rw [e]
    unfold lst
    have e1 : hd (w k ++ 93 :: l) = hd (w k) := hd_app _ g.ne
    rw [gaps_of (by rw [e1]; exact g.h32), if_neg (by rw [e1]; exact g.h93)]
    have e2 : part v false (w k ++ 93 :: l) = .ok ([k], 93 :: l) := by
      unfold part
      rw [if_neg (by decide), if_neg, g.reads (93 :: l) (.inr ⟨rfl, (show fl 93 = true by decide)⟩), bnd_ok]
      rintro (h | h)
      · exact g.ne (List.append_eq_nil_iff.1 h).1
      · rw [e1] at h; exact g.h44 h
    rw [e2, bnd_ok]
    show (if hd (gaps (93 :: l)) = 44 then _ else _) = _
    rw [gaps_cons l (by decide), if_neg (show ¬ hd (93 :: l) = 44 from (by decide : (93 : UInt8) ≠ 44)), if_pos (by rfl)]
    rfl
  | k :: k2 :: ks, hg, n, l, hn => by
    obtain ⟨n, rfl⟩ : ∃ m, n = m + 1 := ⟨n - 1, by omega⟩
    have g := hg k (by simp)
    have ej : jn false 0 ((k :: k2 :: ks).map w) = w k ++ 44 :: 32 :: jn false 0 ((k2 :: ks).map w) := by
      simp only [List.map_cons, jn, sep]
      rw [jn_seq _ 1]
      simp
    rw [ej] at hn
    simp only [List.length_append, List.length_cons] at hn
    obtain ⟨n, rfl⟩ : ∃ m, n = m + 1 := ⟨n - 1, by omega⟩
    have ih := lst_seq v w (k2 :: ks) (fun x hx => hg x (by simp at hx ⊢; exact .inr hx)) (n + 1) l (by omega)
    rw [ej, List.append_assoc, List.cons_append, List.cons_append]
    generalize jn false 0 ((k2 :: ks).map w) ++ 93 :: l = m at ih ⊢
    rw [lst]
    have e1 : hd (w k ++ 44 :: 32 :: m) = hd (w k) := hd_app _ g.ne
    rw [gaps_of (by rw [e1]; exact g.h32), if_neg (by rw [e1]; exact g.h93)]
    have e2 : part v false (w k ++ 44 :: 32 :: m) = .ok ([k], 44 :: 32 :: m) := by
      unfold part
      rw [if_neg (by decide), if_neg, g.reads (44 :: 32 :: m) (.inr ⟨rfl, (show fl 44 = true by decide)⟩), bnd_ok]
      rintro (h | h)
      · exact g.ne (List.append_eq_nil_iff.1 h).1
      · rw [e1] at h; exact g.h44 h
    rw [e2, bnd_ok]
    show (if hd (gaps (44 :: 32 :: m)) = 44 then bnd (lst v false (n + 1) ((gaps (44 :: 32 :: m)).drop 1)) _ else _) = _
    rw [gaps_cons _ (by decide), if_pos (by rfl)]
    show bnd (lst v false (n + 1) (32 :: m)) _ = _
    rw [lst_32, ih, bnd_ok]
    rfl
/-- what a key's text must be -/
structure GoodK (w : Ln) (t : Tr) : Prop where
  ne : w ≠ []
  h32 : hd w ≠ 32
  h125 : hd w ≠ 125
  reads : ∀ l, key (w ++ 58 :: 32 :: l) = .ok (t, 58 :: 32 :: l)
/-- an entry that is written is read -/
theorem part_map (v : Ln → Ot (Tr × Ln)) (a b : Ln) (k x : Tr) (hv : ∀ l, v (32 :: l) = v l) (hk : GoodK a k) (hx : Good v b x) (l : Ln) (hl : Stop true l) :
    part v true (a ++ 58 :: 32 :: (b ++ l)) = .ok ([k, x], l) := by
  unfold part
  rw [if_pos rfl, hk.reads, bnd_ok]
  show (if colon (gaps (58 :: 32 :: (b ++ l))) = false then _ else bnd (v ((gaps (58 :: 32 :: (b ++ l))).drop 1)) _) = _
  rw [gaps_cons _ (by decide), if_neg]
  · show bnd (v (32 :: (b ++ l))) _ = _
    rw [hv, hx.reads l hl, bnd_ok]
  · unfold colon
    simp [hd]
theorem lst_map (v : Ln → Ot (Tr × Ln)) (w : Tr → Ln) (hv : ∀ l, v (32 :: l) = v l) : ∀ (ks : List Tr), ks.length % 2 = 0 → (∀ k ∈ ks, Good v (w k) k) → keysOk 0 ks = true → (∀ k ∈ ks, isKey k = true → GoodK (w k) k) →
    ∀ (n : Nat) (l : Ln), (jn true 0 (ks.map w)).length + 1 ≤ n → lst v true n (jn true 0 (ks.map w) ++ 125 :: l) = .ok (ks, l)
  | [], _, _, _, _, n, l, hn => by
    obtain ⟨n, rfl⟩ : ∃ m, n = m + 1 := ⟨n - 1, by omega⟩
    show lst v true (n + 1) (125 :: l) = _
    unfold lst
    rw [gaps_cons l (by decide), if_pos (by rfl)]
    rfl
  | [k], h2, _, _, _, n, l, hn => by simp at h2
  | [k, x], h2, hg, hk, hK, n, l, hn => by
    obtain ⟨n, rfl⟩ : ∃ m, n = m + 1 := ⟨n - 1, by omega⟩
    have g := hg x (by simp)
    have gk := hK k (by simp) (by simp [keysOk] at hk; exact hk)
    have e : jn true 0 ([k, x].map w) ++ 125 :: l = w k ++ 58 :: 32 :: (w x ++ 125 :: l) := by simp [jn, sep]
    rw [e]
    unfold lst
    have e1 : hd (w k ++ 58 :: 32 :: (w x ++ 125 :: l)) = hd (w k) := hd_app _ gk.ne
    rw [gaps_of (by rw [e1]; exact gk.h32), if_neg (by rw [e1]; exact gk.h125)]
    rw [part_map v (w k) (w x) k x hv gk g (125 :: l) (.inr ⟨rfl, (show fl 125 = true by decide)⟩), bnd_ok]
    show (if hd (gaps (125 :: l)) = 44 then _ else _) = _
    rw [gaps_cons l (by decide), if_neg (show ¬ hd (125 :: l) = 44 from (by decide : (125 : UInt8) ≠ 44)), if_pos (by rfl)]
    rfl
  | k :: x :: k2 :: ks, h2, hg, hk, hK, n, l, hn => by
    obtain ⟨n, rfl⟩ : ∃ m, n = m + 1 := ⟨n - 1, by omega⟩
    have g := hg x (by simp)
    have gk := hK k (by simp) (by simp [keysOk] at hk; exact hk.1)
    have hk2 : keysOk 0 (k2 :: ks) = true := by
      have e2 : ∀ (q : List Tr) (i : Nat), keysOk (i + 2) q = keysOk i q := by
        intro q
        induction q with
        | nil => intro i; rfl
        | cons y ys ih => intro i; unfold keysOk; rw [show i + 2 + 1 = i + 1 + 2 from by omega, ih (i + 1), Nat.add_mod_right]
      have := hk
      rw [keysOk, keysOk] at this
      simp only [Bool.and_eq_true] at this
      rw [← e2]
      exact this.2.2
    have ej : jn true 0 ((k :: x :: k2 :: ks).map w) = w k ++ 58 :: 32 :: (w x ++ 44 :: 32 :: jn true 0 ((k2 :: ks).map w)) := by
      simp only [List.map_cons, jn, sep]
      rw [show jn true (0 + 1 + 1 + 1) (ks.map w) = jn true (0 + 1) (ks.map w) from jn_two true _ 0]
      simp
    rw [ej] at hn
    simp only [List.length_append, List.length_cons] at hn
    obtain ⟨n, rfl⟩ : ∃ m, n = m + 1 := ⟨n - 1, by omega⟩
    have ih := lst_map v w hv (k2 :: ks) (by simp only [List.length_cons] at h2 ⊢; omega) (fun y hy => hg y (by simp at hy ⊢; exact .inr (.inr hy))) hk2 (fun y hy => hK y (by simp at hy ⊢; exact .inr (.inr hy))) (n + 1) l (by omega)
    rw [ej, List.append_assoc, List.cons_append, List.cons_append, List.append_assoc, List.cons_append, List.cons_append]
    generalize jn true 0 ((k2 :: ks).map w) ++ 125 :: l = m at ih ⊢
    rw [lst]
    have e1 : hd (w k ++ 58 :: 32 :: (w x ++ 44 :: 32 :: m)) = hd (w k) := hd_app _ gk.ne
    rw [gaps_of (by rw [e1]; exact gk.h32), if_neg (by rw [e1]; exact gk.h125)]
    rw [part_map v (w k) (w x) k x hv gk g (44 :: 32 :: m) (.inr ⟨rfl, (show fl 44 = true by decide)⟩), bnd_ok]
    show (if hd (gaps (44 :: 32 :: m)) = 44 then bnd (lst v true (n + 1) ((gaps (44 :: 32 :: m)).drop 1)) _ else _) = _
    rw [gaps_cons _ (by decide), if_pos (by rfl)]
    show bnd (lst v true (n + 1) (32 :: m)) _ = _
    rw [lst_32, ih, bnd_ok]
    rfl

theorem ancW_app {a m : Ln} (h : a ≠ []) : ancW a ++ m = 38 :: (a ++ 32 :: m) := by unfold ancW; rw [if_neg h]; simp
/-- what a tree that may be is, field by field -/
theorem rstep_inv {inner : Option (Tr → Bool)} {t : Tr} (h : rstep inner t = true) :
    1 ≤ t.kind ∧ t.kind ≤ 7 ∧ (t.anc = [] ∧ t.kind ≠ 7 ∨ isName t.anc = true) ∧ txt t.kind t.text = true ∧ ((t.kind ≠ 5 ∧ t.kind ≠ 6) → t.kids = []) ∧
      ((t.kind = 5 ∨ t.kind = 6) → ∃ v, inner = some v ∧ (t.kind = 6 → t.kids.length % 2 = 0 ∧ keysOk 0 t.kids = true) ∧ ∀ k ∈ t.kids, v k = true) := by
  unfold rstep at h
  simp only [Bool.and_eq_true, decide_eq_true_eq] at h
  obtain ⟨⟨⟨⟨h1, h7⟩, ha⟩, ht⟩, hk⟩ := h
  refine ⟨h1, h7, ?_, ht, ?_, ?_⟩
  · simpa using ha
  · intro hn
    rw [if_pos hn] at hk
    simpa using hk
  · intro hy
    rw [if_neg (by omega)] at hk
    cases inner with
    | none => cases hk
    | some v =>
      simp only [Bool.and_eq_true, List.all_eq_true] at hk
      refine ⟨v, rfl, fun h6 => ?_, hk.2⟩
      have := hk.1
      simpa [h6] using this
theorem isName_hd {a : Ln} (h : isName a = true) : a ≠ [] := by
  rintro rfl
  revert h; decide
theorem val_step (d : Nat) (f : Bool) (l : Ln) : ∃ inner, val d f l = vstep inner f l ∧ (∀ m, d = m + 1 → inner = some fun x => val m true x) := by
  cases d with
  | zero => exact ⟨none, rfl, fun m h => by cases h⟩
  | succ d => exact ⟨_, rfl, fun m h => by cases h; rfl⟩
/-- a scalar, or an Alias -/
theorem val_leaf {inner : Option (Tr → Bool)} {iv : Option (Ln → Ot (Tr × Ln))} {iw : Tr → Ln} {t : Tr} (h : rstep inner t = true) (hk : t.kind ≠ 5 ∧ t.kind ≠ 6) (f : Bool) (l : Ln) (hl : Stop f l) :
    vstep iv f (wstep iw t ++ l) = .ok (t, l) := by
  obtain ⟨h1, h7, ha, ht, h0, _⟩ := rstep_inv h
  have hkids := h0 hk
  cases t with
  | mk k s a ks =>
  simp only at h1 h7 ha ht hk hkids
  subst hkids
  by_cases e : k = 7
  · subst e
    have hn : isName a = true := ha.resolve_left (fun x => x.2 rfl)
    have hs : s = [] := by simpa [txt] using ht
    subst hs
    have ew : wstep iw ⟨7, [], a, []⟩ ++ l = 42 :: (a ++ l) := by unfold wstep; simp
    rw [ew]
    unfold vstep
    rw [gaps_cons _ (by decide)]
    have ep : prp f 3 p0 (42 :: (a ++ l)) = .ok (p0, 42 :: (a ++ l)) := by
      unfold prp
      rw [if_neg (fun x => absurd x.1 (show (42 : UInt8) ≠ 38 by decide)), if_neg (fun x => absurd x.1 (show (42 : UInt8) ≠ 33 by decide))]
    rw [ep, bnd_ok]
    unfold body
    rw [if_pos (by rfl), if_neg (show ¬ p0.some = true by decide)]
    show bnd (nam (a ++ l)) _ = _
    rw [nam_app a l hn hl.letter, bnd_ok]
  · have h4 : k ≤ 4 := by omega
    have hh := scl_hd h1 h4 ht
    have ew : wstep iw ⟨k, s, a, []⟩ ++ l = ancW a ++ (scl true k s ++ l) := by
      unfold wstep
      rw [if_neg e, if_pos ⟨h1, h4⟩, List.append_assoc]
    rw [ew]
    unfold vstep
    have eh := hd_app l hh.1
    rw [prp_ancW f a _ (ha.elim (fun x => .inl x.1) .inr) (by rw [eh]; exact hh.2.1) (by rw [eh]; exact hh.2.2.1) (by rw [eh]; exact hh.2.2.2.1), bnd_ok]
    exact body_scl h1 h4 ht iv f _ rfl l hl
/-- how any tree's text begins -/
theorem wstep_hd {inner : Option (Tr → Bool)} {iw : Tr → Ln} {t : Tr} (h : rstep inner t = true) :
    wstep iw t ≠ [] ∧ hd (wstep iw t) ≠ 32 ∧ hd (wstep iw t) ≠ 44 ∧ hd (wstep iw t) ≠ 93 ∧ hd (wstep iw t) ≠ 125 := by
  obtain ⟨h1, h7, ha, ht, h0, _⟩ := rstep_inv h
  have amp : ∀ m : Ln, t.anc ≠ [] → hd (ancW t.anc ++ m) = 38 ∧ ancW t.anc ++ m ≠ [] := by
    intro m hm
    rw [ancW_app hm]
    exact ⟨rfl, by simp⟩
  unfold wstep
  by_cases e : t.kind = 7
  · rw [if_pos e]
    simp only [hd_cons]
    exact ⟨by simp, by decide, by decide, by decide, by decide⟩
  · rw [if_neg e]
    by_cases e4 : 1 ≤ t.kind ∧ t.kind ≤ 4
    · rw [if_pos e4]
      have hh := scl_hd e4.1 e4.2 ht
      by_cases ea : t.anc = []
      · rw [ea]
        show scl true t.kind t.text ≠ [] ∧ hd (scl true t.kind t.text) ≠ 32 ∧ _
        exact ⟨hh.1, hh.2.1, hh.2.2.2.2⟩
      · have := amp (scl true t.kind t.text) ea
        rw [this.1]
        exact ⟨this.2, by decide, by decide, by decide, by decide⟩
    · rw [if_neg e4]
      by_cases ea : t.anc = []
      · rw [ea]
        have en : ∀ m : Ln, ancW [] ++ m = m := fun m => rfl
        rw [en, hd_cons]
        split <;> exact ⟨by simp, by decide, by decide, by decide, by decide⟩
      · rw [(amp _ ea).1]
        exact ⟨(amp _ ea).2, by decide, by decide, by decide, by decide⟩
theorem wrt_step (d : Nat) (t : Tr) : ∃ iw, wrt d t = wstep iw t := by
  cases d with
  | zero => exact ⟨_, rfl⟩
  | succ d => exact ⟨_, rfl⟩
theorem rgt_step {d : Nat} {t : Tr} (h : rgt d t = true) : ∃ inner, rstep inner t = true := by
  cases d with
  | zero => exact ⟨_, h⟩
  | succ d => exact ⟨_, h⟩
theorem val_32 (d : Nat) (f : Bool) (l : Ln) : val d f (32 :: l) = val d f l := by
  cases d <;> · unfold val vstep; rw [gaps_32]
theorem key_good {d : Nat} {t : Tr} (h : rgt d t = true) (hk : isKey t = true) : GoodK (wrt d t) t := by
  obtain ⟨inner, hr⟩ := rgt_step h
  obtain ⟨iw, ew⟩ := wrt_step d t
  obtain ⟨h1, h7, ha, ht, h0, _⟩ := rstep_inv hr
  unfold isKey at hk
  simp only [Bool.and_eq_true, decide_eq_true_eq, beq_iff_eq] at hk
  have hkids := h0 ⟨by omega, by omega⟩
  rw [ew]
  cases t with
  | mk k s a ks =>
  simp only at hk h1 ht hkids
  obtain ⟨⟨_, h4⟩, rfl⟩ := hk
  subst hkids
  have e : wstep iw ⟨k, s, [], []⟩ = scl true k s := by
    unfold wstep
    simp only
    rw [if_neg (by omega), if_pos ⟨h1, h4⟩]
    rfl
  rw [e]
  have hh := scl_hd h1 h4 ht
  exact ⟨hh.1, hh.2.1, hh.2.2.2.2.2.2, fun l => key_scl h1 h4 ht l⟩
/-- P9.4, for any place in which a value may stand -/
theorem val_wrt : ∀ (d : Nat) (t : Tr), rgt d t = true → ∀ (f : Bool) (l : Ln), Stop f l → val d f (wrt d t ++ l) = .ok (t, l)
  | 0, t, h, f, l, hl => by
    have hk : t.kind ≠ 5 ∧ t.kind ≠ 6 := by
      obtain ⟨_, _, _, _, _, h5⟩ := rstep_inv (inner := none) h
      constructor <;> · intro e; obtain ⟨v, hv, _⟩ := h5 (by omega); cases hv
    exact val_leaf (inner := none) h hk f l hl
  | d + 1, t, h, f, l, hl => by
    by_cases hk : t.kind ≠ 5 ∧ t.kind ≠ 6
    · exact val_leaf (inner := some fun k => rgt d k) h hk f l hl
    · obtain ⟨h1, h7, ha, ht, _, h5⟩ := rstep_inv (inner := some fun k => rgt d k) h
      obtain ⟨v, hv, hm, hkk⟩ := h5 (by omega)
      cases hv
      have good : ∀ k ∈ t.kids, Good (fun m => val d true m) (wrt d k) k := by
        intro k hkm
        have hr := hkk k hkm
        obtain ⟨inner, hs⟩ := rgt_step hr
        obtain ⟨iw, ew⟩ := wrt_step d k
        have hh := wstep_hd (iw := iw) hs
        rw [← ew] at hh
        exact ⟨hh.1, hh.2.1, hh.2.2.1, hh.2.2.2.1, hh.2.2.2.2, fun m hm => val_wrt d k hr true m hm⟩
      cases t with
      | mk k s a ks =>
      simp only at h1 h7 ha ht hk hm hkk good
      have hs : s = [] := by
        unfold txt at ht
        rw [if_neg (by omega), if_neg (by omega), if_neg (by omega)] at ht
        simpa using ht
      subst hs
      have hk2 : k = 5 ∨ k = 6 := by omega
      rcases hk2 with rfl | rfl
      · have ew : wrt (d + 1) ⟨5, [], a, ks⟩ ++ l = ancW a ++ (91 :: (jn false 0 (ks.map fun k => wrt d k) ++ 93 :: l)) := by
          show wstep _ _ ++ l = _
          unfold wstep
          simp
        rw [ew]
        show vstep _ f _ = _
        unfold vstep
        rw [prp_ancW f a _ (ha.elim (fun x => .inl x.1) .inr) (by rw [hd_cons]; decide) (by rw [hd_cons]; decide) (by rw [hd_cons]; decide), bnd_ok]
        unfold body
        rw [hd_cons, if_neg (by decide), if_pos (.inl rfl)]
        show bnd (lst (fun m => val d true m) false _ (jn false 0 (ks.map fun k => wrt d k) ++ 93 :: l)) _ = _
        rw [lst_seq (fun m => val d true m) (fun k => wrt d k) ks good _ l (by simp only [List.length_cons, List.length_append]; omega), bnd_ok]
        rfl
      · have ew : wrt (d + 1) ⟨6, [], a, ks⟩ ++ l = ancW a ++ (123 :: (jn true 0 (ks.map fun k => wrt d k) ++ 125 :: l)) := by
          show wstep _ _ ++ l = _
          unfold wstep
          simp
        rw [ew]
        show vstep _ f _ = _
        unfold vstep
        rw [prp_ancW f a _ (ha.elim (fun x => .inl x.1) .inr) (by rw [hd_cons]; decide) (by rw [hd_cons]; decide) (by rw [hd_cons]; decide), bnd_ok]
        unfold body
        rw [hd_cons, if_neg (by decide), if_pos (.inr rfl)]
        show bnd (lst (fun m => val d true m) true _ (jn true 0 (ks.map fun k => wrt d k) ++ 125 :: l)) _ = _
        rw [lst_map (fun m => val d true m) (fun k => wrt d k) (fun m => val_32 d true m) ks (hm rfl).1 good (hm rfl).2 (fun y hy hyk => key_good (hkk y hy) hyk) _ l (by simp only [List.length_cons, List.length_append]; omega), bnd_ok]
        rfl
/-- P9.4: what is written is read -/
theorem whole_wrt (t : Tr) (h : rgt 64 t = true) (hl : (wrt 64 t).length ≤ 65536) : whole (wrt 64 t) = (t, 0, 0) := by
  have e := val_wrt 64 t h false [] (.inl rfl)
  rw [List.append_nil] at e
  unfold whole
  rw [if_neg (by omega), e]
  rfl
end Go.Proofs.YtaphijgbebhdlaaGreatDoor.Flw
end

section
/- What is read may be. -/
namespace Go.Proofs.YtaphijgbebhdlaaGreatDoor.Flw
open Utf Rws Pln
set_option linter.unusedSimpArgs false
set_option linter.unusedVariables false

theorem prn_neg {n : Int} (h : n < 0) : prn n = false := by
  cases e : prn n
  · rfl
  · exfalso
    unfold prn inR at e
    simp only [Bool.or_eq_true, Bool.and_eq_true, decide_eq_true_eq, beq_iff_eq] at e
    omega
theorem chk_dec : ∀ (m : Nat) (l : Ln), l.length ≤ m → chk l = none → (dec l).2 = none
  | 0, l, hm, h => by
    have : l = [] := List.length_eq_zero_iff.1 (by omega)
    subst this
    rfl
  | m + 1, l, hm, h => by
    by_cases e : l = []
    · subst e; rfl
    · rw [chk_next l e] at h
      by_cases hp : prn (fst l).1 = true
      · rw [if_pos hp] at h
        have hn : ¬ (fst l).1 < 0 := by
          intro hlt
          rw [prn_neg hlt] at hp
          cases hp
        have hk := fk_pos l e
        have hc : chk (l.drop (fk l)) = none := by
          cases e2 : chk (l.drop (fk l)) with
          | none => rfl
          | some x => rw [e2] at h; cases h
        rw [dec_next l e hn, chk_dec m (l.drop (fk l)) (by rw [List.length_drop]; omega) hc]
        rfl
      · rw [if_neg hp] at h
        cases h
theorem isP_dec {s : Ln} {f : Bool} (h : isP s f = true) : (dec s).2 = none := by
  unfold isP pri at h
  simp only [Bool.and_eq_true] at h
  exact chk_dec s.length s (Nat.le_refl _) (by simpa using h.1.1.1.1)

theorem hd_ne {l : Ln} (h : hd l ≠ 0) : l ≠ [] ∧ (l.drop 1).length + 1 = l.length := by
  cases l with
  | nil => exact absurd rfl h
  | cons b r => exact ⟨by simp, by simp⟩
theorem tw_all (p : UInt8 → Bool) (l : Ln) : (l.takeWhile p).all p = true := by
  induction l with
  | nil => rfl
  | cons b r ih =>
    by_cases h : p b = true
    · rw [List.takeWhile_cons_of_pos h]; simp [h, ih]
    · rw [List.takeWhile_cons_of_neg h]; rfl
theorem tw_len (p : UInt8 → Bool) (l : Ln) : (l.takeWhile p).length ≤ l.length := by
  induction l with
  | nil => exact Nat.le_refl _
  | cons b r ih =>
    by_cases h : p b = true
    · rw [List.takeWhile_cons_of_pos h]; simp; exact ih
    · rw [List.takeWhile_cons_of_neg h]; simp
theorem nam_inv {l : Ln} {x : Ln × Ln} (h : nam l = .ok x) : isName x.1 = true ∧ x.1.length + x.2.length = l.length := by
  unfold nam at h
  obtain ⟨hn, e⟩ := ite_inv h
  cases e
  have h1 := tw_all letter l
  have h2 := tw_len letter l
  have h3 : ((l.takeWhile letter).take 32).length ≤ (l.takeWhile letter).length := by rw [List.length_take]; omega
  refine ⟨?_, by show ((l.takeWhile letter).take 32).length + (l.drop _).length = _; rw [List.length_drop]; omega⟩
  unfold isName
  simp only [Bool.and_eq_true, decide_eq_true_eq]
  refine ⟨⟨?_, ?_⟩, ?_⟩
  · rw [List.all_eq_true] at h1 ⊢
    intro b hb
    exact h1 b (List.mem_of_mem_take hb)
  · rcases Nat.eq_zero_or_pos ((l.takeWhile letter).take 32).length with h0 | h0
    · exact absurd (.inl h0) hn
    · exact h0
  · rw [List.length_take]; omega
theorem gap_inv {f : Bool} {l r : Ln} (h : gap f l = .ok r) : r.length ≤ l.length := by
  unfold gap at h
  obtain ⟨_, e⟩ := ite_inv h
  cases e
  exact gaps_len l
theorem word_bd (l : Ln) : 0 ≤ word l ∧ word l ≤ 6 := by
  unfold word
  repeat' split
  all_goals exact ⟨by decide, by decide⟩
theorem tag_inv {l : Ln} {x : Int × Ln} (h : tag l = .ok x) : 1 ≤ x.1 ∧ x.1 ≤ 6 ∧ x.2.length ≤ l.length := by
  unfold tag at h
  obtain ⟨hn, e⟩ := ite_inv h
  cases e
  have := word_bd (l.takeWhile letter)
  refine ⟨by omega, by omega, ?_⟩
  show (l.drop _).length ≤ _
  rw [List.length_drop]; omega
def PrOk (p : Pr) : Prop := (p.anc = [] ∨ isName p.anc = true) ∧ 0 ≤ p.tag ∧ p.tag ≤ 6
theorem prp_inv (f : Bool) : ∀ (n : Nat) (p : Pr) (l : Ln) (x : Pr × Ln), PrOk p → prp f n p l = .ok x → PrOk x.1 ∧ x.2.length ≤ l.length
  | 0, p, l, x, hp, h => by cases h; exact ⟨hp, Nat.le_refl _⟩
  | n + 1, p, l, x, hp, h => by
    unfold prp at h
    by_cases c1 : hd l = 38 ∧ p.anc = []
    · rw [if_pos c1] at h
      obtain ⟨y, hy, h⟩ := bnd_inv h
      obtain ⟨r, hr, h⟩ := bnd_inv h
      have h1 := nam_inv hy
      have h2 := gap_inv hr
      have h3 := prp_inv f n _ r x (show PrOk ⟨y.1, p.tag, p.at_, true⟩ from ⟨.inr h1.1, hp.2⟩) h
      have h4 := hd_ne (l := l) (by rw [c1.1]; decide)
      exact ⟨h3.1, by omega⟩
    · rw [if_neg c1] at h
      by_cases c2 : hd l = 33 ∧ hd (l.drop 1) = 33 ∧ p.tag = 0
      · rw [if_pos c2] at h
        obtain ⟨y, hy, h⟩ := bnd_inv h
        obtain ⟨r, hr, h⟩ := bnd_inv h
        have h1 := tag_inv hy
        have h2 := gap_inv hr
        have h3 := prp_inv f n _ r x (show PrOk ⟨p.anc, y.1, l.length, true⟩ from ⟨hp.1, by show (0 : Int) ≤ y.1; omega, h1.2.1⟩) h
        have h4 : (l.drop 2).length ≤ l.length := by rw [List.length_drop]; omega
        exact ⟨h3.1, by omega⟩
      · rw [if_neg c2] at h
        cases h
        exact ⟨hp, Nat.le_refl _⟩
theorem quoted_inv {l : Ln} {x : Ln × Ln} (h : quoted l = .ok x) : (dec x.1).2 = none ∧ x.2.length + 2 ≤ l.length := by
  unfold quoted at h
  obtain ⟨hn, e⟩ := ite_inv h
  cases e
  have := Quo.rd_means l (by omega)
  refine ⟨this.1, ?_⟩
  show (l.drop _).length + 2 ≤ _
  rw [List.length_drop]; omega
theorem plain_inv {f : Bool} {l : Ln} {x : Ln × Ln} (h : plain f l = .ok x) : (dec x.1).2 = none ∧ x.1.length + x.2.length = l.length := by
  unfold plain at h
  obtain ⟨hn, e⟩ := ite_inv h
  cases e
  constructor
  · show (dec (cutT l f)).2 = none
    by_cases e : cutT l f = []
    · rw [e]; rfl
    · cases hP : isP (cutT l f) f
      · exact absurd ⟨e, hP⟩ hn
      · exact isP_dec hP
  · have h1 := cutT_len l f
    have h2 := fin_le l f
    show (cutT l f).length + (l.drop _).length = _
    rw [List.length_drop]; omega
theorem knd_bd (s : Ln) : 1 ≤ knd s ∧ knd s ≤ 4 := by
  unfold knd
  repeat' split
  all_goals exact ⟨by decide, by decide⟩
theorem knd_txt (s : Ln) (h : (dec s).2 = none) : txt (knd s) (if knd s = 1 then [] else s) = true := by
  have hb := knd_bd s
  have hk : knd s = 1 ∨ knd s = 2 ∨ knd s = 3 ∨ knd s = 4 := by omega
  rcases hk with e | e | e | e
  · rw [e, if_pos rfl]; rfl
  · rw [e, if_neg (by decide)]
    unfold knd at e
    split at e
    · cases e
    · split at e
      · rename_i hh
        simpa [txt] using hh
      · split at e <;> cases e
  · rw [e, if_neg (by decide)]; simp [txt, e]
  · rw [e, if_neg (by decide)]; simp [txt, h]
/-- a leaf that may be, at every depth -/
def LeafOk (t : Tr) : Prop := 1 ≤ t.kind ∧ t.kind ≤ 7 ∧ t.kind ≠ 5 ∧ t.kind ≠ 6 ∧ (t.anc = [] ∧ t.kind ≠ 7 ∨ isName t.anc = true) ∧ txt t.kind t.text = true ∧ t.kids = []
theorem LeafOk.rgt {t : Tr} (h : LeafOk t) (d : Nat) : rgt d t = true ∧ cntT d t = 1 := by
  obtain ⟨h1, h7, h5, h6, ha, ht, hk⟩ := h
  have hr : ∀ inner, rstep inner t = true := by
    intro inner
    unfold rstep
    simp only [Bool.and_eq_true, decide_eq_true_eq]
    refine ⟨⟨⟨⟨h1, h7⟩, ?_⟩, ht⟩, ?_⟩
    · simpa using ha
    · rw [if_pos ⟨h5, h6⟩, hk]; rfl
  cases d with
  | zero => exact ⟨hr _, rfl⟩
  | succ d => exact ⟨hr _, by unfold cntT; rw [hk]; rfl⟩
theorem leaf_ok {s a : Ln} (h : (dec s).2 = none) (ha : a = [] ∨ isName a = true) : LeafOk (leaf (knd s) s a) ∧ LeafOk (leaf 4 s a) := by
  have hb := knd_bd s
  constructor
  · exact ⟨hb.1, by show knd s ≤ 7; omega, by show knd s ≠ 5; omega, by show knd s ≠ 6; omega, ha.elim (fun x => .inl ⟨x, by show knd s ≠ 7; omega⟩) .inr, knd_txt s h, rfl⟩
  · refine ⟨(by decide : (1 : Int) ≤ 4), (by decide : (4 : Int) ≤ 7), (by decide : (4 : Int) ≠ 5), (by decide : (4 : Int) ≠ 6), ha.elim (fun x => .inl ⟨x, (by decide : (4 : Int) ≠ 7)⟩) .inr, ?_, rfl⟩
    show txt 4 s = true
    simp [txt, h]
theorem fits_inv {s : Ln} {q : Bool} {p : Pr} {t : Tr} (hp : PrOk p) (hd_ : (dec s).2 = none) (h : fits s q p = .ok t) : LeafOk t := by
  have hl := leaf_ok hd_ hp.1
  unfold fits at h
  by_cases c4 : p.tag = 4
  · rw [if_pos c4] at h; cases h; exact hl.2
  · rw [if_neg c4] at h
    by_cases c0 : p.tag ≠ 0
    · rw [if_pos c0] at h
      obtain ⟨e, h⟩ := ite_inv h
      cases h
      have e2 : knd s = p.tag := by omega
      rw [← e2]
      exact hl.1
    · rw [if_neg c0] at h
      cases h
      cases q
      · exact hl.1
      · exact hl.2
theorem key_inv {l : Ln} {x : Tr × Ln} (h : key l = .ok x) : LeafOk x.1 ∧ isKey x.1 = true ∧ x.2.length + 1 ≤ l.length := by
  unfold key at h
  by_cases c : hd l = 39 ∨ hd l = 34
  · rw [if_pos c] at h
    obtain ⟨y, hy, h⟩ := bnd_inv h
    cases h
    have hq := quoted_inv hy
    have := (leaf_ok hq.1 (.inl rfl : ([] : Ln) = [] ∨ _)).2
    refine ⟨this, rfl, ?_⟩
    show y.2.length + 1 ≤ _
    omega
  · rw [if_neg c] at h
    obtain ⟨y, hy, h⟩ := bnd_inv h
    obtain ⟨hn, h⟩ := ite_inv h
    cases h
    have hq := plain_inv hy
    have := (leaf_ok hq.1 (.inl rfl : ([] : Ln) = [] ∨ _)).1
    have hb := knd_bd y.1
    refine ⟨this, ?_, ?_⟩
    · unfold isKey leaf
      simp [hb.1, hb.2]
    · have : 0 < y.1.length := List.length_pos_iff.2 hn
      show y.2.length + 1 ≤ _
      omega
theorem keysOk_two (q : List Tr) : ∀ i, keysOk (i + 2) q = keysOk i q := by
  induction q with
  | nil => intro i; rfl
  | cons y ys ih => intro i; unfold keysOk; rw [show i + 2 + 1 = i + 1 + 2 from by omega, ih (i + 1), Nat.add_mod_right]
theorem part_inv {v : Ln → Ot (Tr × Ln)} {d : Nat} (hv : ∀ l x, v l = .ok x → rgt d x.1 = true ∧ x.2.length + cntT d x.1 ≤ l.length + 1) {map : Bool} {l : Ln} {x : List Tr × Ln} (h : part v map l = .ok x) :
    (∀ k ∈ x.1, rgt d k = true) ∧ x.2.length + (x.1.map fun k => cntT d k).sum ≤ l.length + 1 ∧ (map = true → ∃ k y, x.1 = [k, y] ∧ isKey k = true) := by
  unfold part at h
  cases map
  · rw [if_neg (by decide)] at h
    obtain ⟨_, h⟩ := ite_inv h
    obtain ⟨y, hy, h⟩ := bnd_inv h
    cases h
    have := hv _ _ hy
    refine ⟨fun k hk => ?_, ?_, fun h => by cases h⟩
    · simp at hk; rw [hk]; exact this.1
    · simpa using this.2
  · rw [if_pos rfl] at h
    obtain ⟨k, hk, h⟩ := bnd_inv h
    obtain ⟨hc, h⟩ := ite_inv h
    obtain ⟨y, hy, h⟩ := bnd_inv h
    cases h
    have h1 := key_inv hk
    have h2 := hv _ _ hy
    have h3 := gaps_len k.2
    have hc2 : hd (gaps k.2) = 58 := by
      unfold colon at hc
      simp only [Bool.not_eq_false, Bool.and_eq_true, beq_iff_eq] at hc
      exact hc.1
    have h4 := hd_ne (l := gaps k.2) (by rw [hc2]; decide)
    have h5 := h1.1.rgt d
    refine ⟨fun z hz => ?_, ?_, fun _ => ⟨k.1, y.1, rfl, h1.2.1⟩⟩
    · simp at hz
      rcases hz with rfl | rfl
      · exact h5.1
      · exact h2.1
    · simp [h5.2]
      omega
theorem lst_inv {v : Ln → Ot (Tr × Ln)} {d : Nat} (hv : ∀ l x, v l = .ok x → rgt d x.1 = true ∧ x.2.length + cntT d x.1 ≤ l.length + 1) (map : Bool) : ∀ (n : Nat) (l : Ln) (x : List Tr × Ln), lst v map n l = .ok x →
    (∀ k ∈ x.1, rgt d k = true) ∧ x.2.length + (x.1.map fun k => cntT d k).sum ≤ l.length ∧ (map = true → x.1.length % 2 = 0 ∧ keysOk 0 x.1 = true)
  | 0, l, x, h => by cases h
  | n + 1, l, x, h => by
    have hg := gaps_len l
    have e0 : endOf map ≠ 0 := by cases map <;> decide
    unfold lst at h
    by_cases c : hd (gaps l) = endOf map
    · rw [if_pos c] at h
      cases h
      have := hd_ne (l := gaps l) (by rw [c]; exact e0)
      refine ⟨fun k hk => (by cases hk), ?_, fun _ => ⟨rfl, rfl⟩⟩
      show ((gaps l).drop 1).length + 0 ≤ _
      omega
    · rw [if_neg c] at h
      obtain ⟨y, hy, h⟩ := bnd_inv h
      have hp := part_inv hv hy
      have hg2 := gaps_len y.2
      by_cases c2 : hd (gaps y.2) = 44
      · rw [if_pos c2] at h
        obtain ⟨z, hz, h⟩ := bnd_inv h
        cases h
        have h4 := hd_ne (l := gaps y.2) (by rw [c2]; decide)
        have ih := lst_inv hv map n _ _ hz
        refine ⟨fun k hk => ?_, ?_, fun hm => ?_⟩
        · simp at hk
          rcases hk with hk | hk
          · exact hp.1 k hk
          · exact ih.1 k hk
        · have e1 := hp.2.1
          have e2 := ih.2.1
          simp only [List.map_append, List.sum_append]
          omega
        · obtain ⟨k, q, e, hk⟩ := hp.2.2 hm
          have h2 := ih.2.2 hm
          show (y.1 ++ z.1).length % 2 = 0 ∧ keysOk 0 (y.1 ++ z.1) = true
          rw [e]
          constructor
          · simp only [List.cons_append, List.nil_append, List.length_cons]; omega
          · show keysOk 0 (k :: q :: z.1) = true
            rw [keysOk, keysOk, keysOk_two, h2.2, hk]
            rfl
      · rw [if_neg c2] at h
        by_cases c3 : hd (gaps y.2) = endOf map
        · rw [if_pos c3] at h
          cases h
          have h4 := hd_ne (l := gaps y.2) (by rw [c3]; exact e0)
          refine ⟨hp.1, ?_, fun hm => ?_⟩
          · have e1 := hp.2.1
            show ((gaps y.2).drop 1).length + (y.1.map fun k => cntT d k).sum ≤ _
            omega
          · obtain ⟨k, q, e, hk⟩ := hp.2.2 hm
            show y.1.length % 2 = 0 ∧ keysOk 0 y.1 = true
            rw [e]
            refine ⟨by simp, ?_⟩
            rw [keysOk, keysOk, hk]
            rfl
        · rw [if_neg c3] at h; cases h
theorem body_inv {inner : Option (Ln → Ot (Tr × Ln))} {f : Bool} {p : Pr} {l : Ln} {x : Tr × Ln} (hp : PrOk p) (h : body inner f p l = .ok x) :
    (LeafOk x.1 ∧ x.2.length ≤ l.length) ∨
    (∃ v map y, inner = some v ∧ lst v map l.length (l.drop 1) = .ok y ∧ x = (⟨kindOf map, [], p.anc, y.1⟩, y.2) ∧ (l.drop 1).length + 1 = l.length) := by
  unfold body at h
  by_cases c1 : hd l = 42
  · rw [if_pos c1] at h
    obtain ⟨_, h⟩ := ite_inv h
    obtain ⟨y, hy, h⟩ := bnd_inv h
    cases h
    have hn := nam_inv hy
    have h4 := hd_ne (l := l) (by rw [c1]; decide)
    left
    refine ⟨⟨(by decide : (1 : Int) ≤ 7), (by decide : (7 : Int) ≤ 7), (by decide : (7 : Int) ≠ 5), (by decide : (7 : Int) ≠ 6), .inr hn.1, rfl, rfl⟩, ?_⟩
    show y.2.length ≤ _
    omega
  · rw [if_neg c1] at h
    by_cases c2 : hd l = 91 ∨ hd l = 123
    · rw [if_pos c2] at h
      cases inner with
      | none => cases h
      | some v =>
        obtain ⟨y, hy, h⟩ := bnd_inv h
        obtain ⟨_, h⟩ := ite_inv h
        cases h
        right
        refine ⟨v, _, y, rfl, hy, rfl, (hd_ne (l := l) ?_).2⟩
        rcases c2 with e | e <;> · rw [e]; decide
    · rw [if_neg c2] at h
      left
      by_cases c3 : hd l = 39 ∨ hd l = 34
      · rw [if_pos c3] at h
        obtain ⟨y, hy, h⟩ := bnd_inv h
        obtain ⟨t, ht, h⟩ := bnd_inv h
        cases h
        have hq := quoted_inv hy
        exact ⟨fits_inv hp hq.1 ht, by show y.2.length ≤ _; omega⟩
      · rw [if_neg c3] at h
        obtain ⟨y, hy, h⟩ := bnd_inv h
        obtain ⟨t, ht, h⟩ := bnd_inv h
        cases h
        have hq := plain_inv hy
        exact ⟨fits_inv hp hq.1 ht, by show y.2.length ≤ _; omega⟩
theorem p0_ok : PrOk p0 := ⟨.inl rfl, by decide, by decide⟩
/-- P9.5: what is read may be, and has not more trees than bytes and one -/
theorem val_inv : ∀ (d : Nat) (f : Bool) (l : Ln) (x : Tr × Ln), val d f l = .ok x → rgt d x.1 = true ∧ x.2.length + cntT d x.1 ≤ l.length + 1
  | 0, f, l, x, h => by
    obtain ⟨y, hy, h⟩ := bnd_inv (show bnd _ _ = _ from h)
    have h1 := prp_inv f 3 p0 _ _ p0_ok hy
    have h2 := gaps_len l
    rcases body_inv h1.1 h with ⟨hl, hle⟩ | ⟨v, map, z, hv, _⟩
    · have := hl.rgt 0
      exact ⟨this.1, by rw [this.2]; omega⟩
    · cases hv
  | d + 1, f, l, x, h => by
    obtain ⟨y, hy, h⟩ := bnd_inv (show bnd _ _ = _ from h)
    have h1 := prp_inv f 3 p0 _ _ p0_ok hy
    have h2 := gaps_len l
    rcases body_inv h1.1 h with ⟨hl, hle⟩ | ⟨v, map, z, hv, hz, rfl, hlen⟩
    · have := hl.rgt (d + 1)
      exact ⟨this.1, by rw [this.2]; omega⟩
    · cases hv
      have hz2 := lst_inv (fun l x hx => val_inv d true l x hx) map _ _ _ hz
      constructor
      · show rstep _ _ = true
        have hk5 : kindOf map = 5 ∨ kindOf map = 6 := by cases map <;> simp [kindOf]
        have hk6 : kindOf map = 6 → map = true := by cases map <;> simp [kindOf]
        unfold rstep
        simp only [Bool.and_eq_true, decide_eq_true_eq]
        refine ⟨⟨⟨⟨by omega, by omega⟩, ?_⟩, ?_⟩, ?_⟩
        · have : kindOf map ≠ 7 := by omega
          rcases h1.1.1 with e | e
          · simp [e, this]
          · simp [e]
        · unfold txt
          rw [if_neg (by omega), if_neg (by omega), if_neg (by omega)]
          rfl
        · rw [if_neg (by omega)]
          simp only [Bool.and_eq_true, List.all_eq_true]
          refine ⟨?_, hz2.1⟩
          by_cases e : kindOf map = 6
          · have := hz2.2.2 (hk6 e)
            simp [this.1, this.2]
          · simp [e]
      · show z.2.length + (1 + (z.1.map fun k => cntT d k).sum) ≤ _
        have := hz2.2.1
        omega
/-- every fault has a number -/
def Bad {α : Type} (x : Ot α) : Prop := ∀ e, x = .error e → e.1 ≠ 0
theorem Bad.ok {α : Type} (a : α) : Bad (.ok a : Ot α) := fun e h => by cases h
theorem Bad.err {α : Type} {e : Fa} (h : e.1 ≠ 0) : Bad (.error e : Ot α) := fun e2 h2 => by cases h2; exact h
theorem Bad.bnd {α β : Type} {x : Ot α} {f : α → Ot β} (h : Bad x) (hf : ∀ a, Bad (f a)) : Bad (bnd x f) := by
  cases x with
  | ok a => exact hf a
  | error e => intro e2 h2; cases h2; exact h e rfl
theorem Bad.ite {α : Type} {p : Prop} [Decidable p] {x y : Ot α} (hx : Bad x) (hy : Bad y) : Bad (if p then x else y) := by split <;> assumption
theorem stands_ne (l : Ln) : (stands l).1 ≠ 0 := by 
  unfold stands
  split
  · exact (by decide : (4 : Nat) ≠ 0)
  · exact (by decide : (3 : Nat) ≠ 0)
theorem nam_bad (l : Ln) : Bad (nam l) := .ite (.err (stands_ne _)) (.ok _)
theorem tag_bad (l : Ln) : Bad (tag l) := .ite (.err (stands_ne _)) (.ok _)
theorem gap_bad (f : Bool) (l : Ln) : Bad (gap f l) := .ite (.err (show 3 ≠ 0 by decide)) (.ok _)
theorem prp_bad (f : Bool) : ∀ (n : Nat) (p : Pr) (l : Ln), Bad (prp f n p l)
  | 0, p, l => .ok _
  | n + 1, p, l => by
    unfold prp
    exact .ite (.bnd (nam_bad _) fun a => .bnd (gap_bad f _) fun r => prp_bad f n _ r) (.ite (.bnd (tag_bad _) fun a => .bnd (gap_bad f _) fun r => prp_bad f n _ r) (.ok _))
theorem quoted_bad (l : Ln) : Bad (quoted l) := by
  unfold quoted
  by_cases c : (Quo.rd l).2.2.1 ≠ 0
  · rw [if_pos c]; exact .err c
  · rw [if_neg c]; exact .ok _
theorem plain_bad (f : Bool) (l : Ln) : Bad (plain f l) := .ite (.err (show 3 ≠ 0 by decide)) (.ok _)
theorem fits_bad (s : Ln) (q : Bool) (p : Pr) : Bad (fits s q p) := .ite (.ok _) (.ite (.ite (.err (show 12 ≠ 0 by decide)) (.ok _)) (.ok _))
theorem key_bad (l : Ln) : Bad (key l) := .ite (.bnd (quoted_bad l) fun _ => .ok _) (.bnd (plain_bad true l) fun _ => .ite (.err (stands_ne _)) (.ok _))
theorem part_bad {v : Ln → Ot (Tr × Ln)} (hv : ∀ l, Bad (v l)) (map : Bool) (l : Ln) : Bad (part v map l) :=
  .ite (.bnd (key_bad l) fun _ => .ite (.err (stands_ne _)) (.bnd (hv _) fun _ => .ok _)) (.ite (.err (stands_ne _)) (.bnd (hv _) fun _ => .ok _))
theorem lst_bad {v : Ln → Ot (Tr × Ln)} (hv : ∀ l, Bad (v l)) (map : Bool) : ∀ (n : Nat) (l : Ln), Bad (lst v map n l)
  | 0, l => .err (stands_ne _)
  | n + 1, l => by
    unfold lst
    exact .ite (.ok _) (.bnd (part_bad hv map _) fun _ => .ite (.bnd (lst_bad hv map n _) fun _ => .ok _) (.ite (.ok _) (.err (stands_ne _))))
theorem vstep_bad {inner : Option (Ln → Ot (Tr × Ln))} (hv : ∀ v, inner = some v → ∀ l, Bad (v l)) (f : Bool) (l : Ln) : Bad (vstep inner f l) := by
  unfold vstep body
  refine .bnd (prp_bad f _ _ _) fun x => .ite (.ite (.err (stands_ne _)) (.bnd (nam_bad _) fun _ => .ok _)) (.ite ?_ (.ite (.bnd (quoted_bad _) fun _ => .bnd (fits_bad _ _ _) fun _ => .ok _) (.bnd (plain_bad _ _) fun _ => .bnd (fits_bad _ _ _) fun _ => .ok _)))
  cases inner with
  | none => exact .err (show 10 ≠ 0 by decide)
  | some v => exact .bnd (lst_bad (hv v rfl) _ _ _) fun _ => .ite (.err (show 12 ≠ 0 by decide)) (.ok _)
theorem val_bad : ∀ (d : Nat) (f : Bool) (l : Ln), Bad (val d f l)
  | 0, f, l => vstep_bad (inner := none) (fun v h => by cases h) f l
  | d + 1, f, l => vstep_bad (inner := some fun m => val d true m) (fun v h m => by cases h; exact val_bad d true m) f l
/-- Whole, that found no fault -/
theorem whole_inv {l : Ln} (h : (whole l).2.1 = 0) : l.length ≤ 65536 ∧ ∃ r, val 64 false l = .ok ((whole l).1, r) ∧ gaps r = [] ∧ whole l = ((whole l).1, 0, 0) := by
  unfold whole at h ⊢
  by_cases c : l.length > 65536
  · rw [if_pos c] at h; cases h
  · rw [if_neg c] at h ⊢
    refine ⟨by omega, ?_⟩
    cases e : val 64 false l with
    | ok x =>
      rw [e] at h
      by_cases c2 : gaps x.2 = []
      · simp only [if_pos c2]
        exact ⟨x.2, rfl, c2, trivial⟩
      · simp only [if_neg c2] at h
        cases h
    | error e2 =>
      rw [e] at h
      exact absurd h (val_bad 64 false l e2 e)
theorem whole_none {l : Ln} (h : (whole l).2.1 ≠ 0) : (whole l).1 = tr0 := by
  unfold whole at h ⊢
  by_cases c : l.length > 65536
  · rw [if_pos c]
  · rw [if_neg c] at h ⊢
    cases e : val 64 false l with
    | ok x =>
      rw [e] at h
      by_cases c2 : gaps x.2 = []
      · simp only [if_pos c2] at h
        exact absurd rfl h
      · simp only [if_neg c2]
    | error e2 => rfl
/-- P9.5: what is read may be, and has not more trees than bytes and one -/
theorem whole_right {l : Ln} (h : (whole l).2.1 = 0) : rgt 64 (whole l).1 = true ∧ cntT 64 (whole l).1 ≤ l.length + 1 := by
  obtain ⟨_, r, hv, _⟩ := whole_inv h
  have := val_inv 64 false l _ hv
  exact ⟨this.1, by have := this.2; simp only at this; omega⟩
end Go.Proofs.YtaphijgbebhdlaaGreatDoor.Flw
end
