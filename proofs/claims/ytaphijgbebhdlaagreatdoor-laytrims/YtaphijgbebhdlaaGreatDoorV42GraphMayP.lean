/- Several texts as one: GraphMayP, LayTm. -/
import Derived.Test.YtaphijgbebhdlaaGreatDoorV09FlowAllow
import Derived.Test.YtaphijgbebhdlaaGreatDoorV22GraphPlc2
import Derived.Test.YtaphijgbebhdlaaGreatDoorV16GraphTop2I
import Derived.Test.YtaphijgbebhdlaaGreatDoorV23LayLd
section
/- What is composed may be, and lies in its own order: plain facts. -/
namespace Go.Proofs.YtaphijgbebhdlaaGreatDoor.Grp
open Utf Rws Pln Flw
open Go.RowKit
set_option linter.unusedSimpArgs false
set_option linter.unusedVariables false
set_option maxRecDepth 100000
set_option maxHeartbeats 4000000

def anI (s : Cs) : Prop := ∀ q ∈ s.an, q.2 < s.ns.length
def noA (s : Cs) (x : Nat) : Prop := ∀ q ∈ s.an, q.2 ≠ x
/-- a node is as it may be -/
structure NOk (s : Cs) (n : Nd) : Prop where
  al : rAl n.kind n.text = true
  tx : n.text.length ≤ 2147483648
  sc : sca n.kind = true → n.kids = []
  ev : n.kind = 6 → n.kids.length % 2 = 0
  kd : ∀ a ∈ n.kids, isP s.ns.length a = true
  ky : ∀ a ∈ kys n.kind 0 n.kids, sca (s.ns.getD a.toNat nd0).kind = true ∧ noA s a.toNat
  df : ((kys n.kind 0 n.kids).map (kp s.ns)).Nodup
/-- kinds and texts stay -/
structure Lat (s s' : Cs) : Prop where
  le : s.ns.length ≤ s'.ns.length
  kt : ∀ i, i < s.ns.length → (s'.ns.getD i nd0).kind = (s.ns.getD i nd0).kind ∧ (s'.ns.getD i nd0).text = (s.ns.getD i nd0).text
  an : ∀ q ∈ s'.an, q ∈ s.an ∨ s.ns.length ≤ q.2
theorem isP_le {n m : Nat} {a : Int} (h : isP n a = true) (hm : n ≤ m) : isP m a = true := by
  obtain ⟨k, rfl, hk⟩ := isP_nat h
  unfold isP
  rw [decide_eq_true (by omega), decide_eq_true (by omega)]
  rfl
theorem isP_to {n : Nat} {a : Int} (h : isP n a = true) : a.toNat < n := by
  obtain ⟨k, rfl, hk⟩ := isP_nat h
  simpa using hk
theorem NOk.lat {s s' : Cs} {n : Nd} (h : NOk s n) (l : Lat s s') : NOk s' n := by
  have hlt : ∀ a ∈ kys n.kind 0 n.kids, a.toNat < s.ns.length := fun a ha => isP_to (h.kd a (kys_mem _ _ _ a ha))
  refine ⟨h.al, h.tx, h.sc, h.ev, fun a ha => isP_le (h.kd a ha) l.le, fun a ha => ⟨?_, fun q hq => ?_⟩, ?_⟩
  · rw [(l.kt _ (hlt a ha)).1]; exact (h.ky a ha).1
  · rcases l.an q hq with hq | hq
    · exact (h.ky a ha).2 q hq
    · have := hlt a ha; omega
  · have e : (kys n.kind 0 n.kids).map (kp s'.ns) = (kys n.kind 0 n.kids).map (kp s.ns) := List.map_congr_left fun a ha => by
      unfold kp
      rw [(l.kt _ (hlt a ha)).1, (l.kt _ (hlt a ha)).2]
    rw [e]; exact h.df
/-- what came with some places -/
structure Ext (s s' : Cs) (qs : List Nat) (c : Nat) : Prop where
  le : s.ns.length ≤ s'.ns.length
  up : s'.ns.length ≤ s.ns.length + c
  keep : ∀ i, i < s.ns.length → s'.ns[i]? = s.ns[i]?
  an : ∀ q ∈ s'.an, q ∈ s.an ∨ (s.ns.length ≤ q.2 ∧ q.2 < s'.ns.length)
  an2 : ∀ q ∈ s.an, q ∈ s'.an
  ok : ∀ i, s.ns.length ≤ i → i < s'.ns.length → NOk s' (s'.ns.getD i nd0)
  ql : ∀ a ∈ qs, a < s'.ns.length
  ct : ∀ x, noA s' x → qs.count x + ((s'.ns.drop s.ns.length).map fun n => cnt n.kids x).sum ≤ if s.ns.length ≤ x ∧ x < s'.ns.length then 1 else 0
  sk : qs.length + sumK (s'.ns.drop s.ns.length) ≤ c
  wk : ∀ (g : Nat → List Nat) (N : Nat), (∀ a, a < N → ∀ b ∈ g a, b < N) → s'.ns.length ≤ N → (∀ i, s.ns.length ≤ i → i < s'.ns.length → g i = kd s'.ns i) → ∀ dd m, (wks g (ful g N) qs dd (List.range s.ns.length, m)).1 = List.range s'.ns.length
theorem getD_keep {l l' : List Nd} {i : Nat} (h : l'[i]? = l[i]?) : l'.getD i nd0 = l.getD i nd0 := by rw [List.getD_eq_getElem?_getD, List.getD_eq_getElem?_getD, h]
theorem Ext.lat {s s' : Cs} {qs : List Nat} {c : Nat} (h : Ext s s' qs c) : Lat s s' :=
  ⟨h.le, fun i hi => by rw [getD_keep (h.keep i hi)]; exact ⟨rfl, rfl⟩, fun q hq => (h.an q hq).elim .inl (fun a => .inr a.1)⟩
theorem Ext.anK {s s' : Cs} {qs : List Nat} {c : Nat} (h : Ext s s' qs c) (ha : anI s) : anI s' := fun q hq => by
  rcases h.an q hq with q1 | q1
  · exact Nat.lt_of_lt_of_le (ha q q1) h.le
  · exact q1.2
theorem Ext.nil (s : Cs) (c : Nat) : Ext s s [] c :=
  ⟨Nat.le_refl _, Nat.le_add_right _ _, fun _ _ => rfl, fun q hq => .inl hq, fun q hq => hq, fun i h1 h2 => absurd h2 (by omega), fun a ha => absurd ha (by simp), fun x _ => by simp, by simp [sumK], fun g N _ _ _ dd m => rfl⟩
theorem drop_two {l l' : List Nd} {n : Nat} (hk : ∀ i, i < l.length → l'[i]? = l[i]?) (hle : l.length ≤ l'.length) (hn : n ≤ l.length) : l'.drop n = l.drop n ++ l'.drop l.length := by
  have e : l'.take l.length = l := by
    apply List.ext_getElem?
    intro i
    by_cases hi : i < l.length
    · rw [List.getElem?_take_of_lt hi, hk i hi]
    · rw [List.getElem?_eq_none (by rw [List.length_take]; omega), List.getElem?_eq_none (by omega)]
  conv => lhs; rw [← List.take_append_drop l.length l', e]
  rw [List.drop_append_of_le_length hn]
theorem Ext.app {s s1 s2 : Cs} {q : Nat} {qs : List Nat} {c1 c2 : Nat} (h : Ext s s1 [q] c1) (k : Ext s1 s2 qs c2) : Ext s s2 (q :: qs) (c1 + c2) := by
  have hle := h.le
  have kle := k.le
  refine ⟨Nat.le_trans h.le k.le, by have := h.up; have := k.up; omega, fun i hi => (k.keep i (by omega)).trans (h.keep i hi), fun x hx => ?_, fun x hx => k.an2 x (h.an2 x hx), fun i h1 h2 => ?_, fun a ha => ?_, fun x hx => ?_, ?_, fun g N hg hN hi dd m => ?_⟩
  · rcases k.an x hx with hx | hx
    · rcases h.an x hx with hx | hx
      · exact .inl hx
      · exact .inr ⟨hx.1, by omega⟩
    · exact .inr ⟨by omega, hx.2⟩
  · by_cases hi : i < s1.ns.length
    · rw [getD_keep (k.keep i hi)]
      exact (h.ok i h1 hi).lat k.lat
    · exact k.ok i (by omega) h2
  · rcases List.mem_cons.1 ha with rfl | ha
    · exact Nat.lt_of_lt_of_le (h.ql _ (by simp)) k.le
    · exact k.ql a ha
  · have c1 := h.ct x (fun q hq => hx q (k.an2 q hq))
    have c2 := k.ct x hx
    rw [drop_two k.keep k.le h.le, List.map_append, List.sum_append]
    have e : (q :: qs).count x = [q].count x + qs.count x := by rw [← List.singleton_append, List.count_append]
    rw [e]
    by_cases a1 : s.ns.length ≤ x ∧ x < s1.ns.length
    · rw [if_pos a1] at c1
      rw [if_neg (by omega)] at c2
      rw [if_pos (by omega)]
      omega
    · rw [if_neg a1] at c1
      by_cases a2 : s1.ns.length ≤ x ∧ x < s2.ns.length
      · rw [if_pos a2] at c2
        rw [if_pos (by omega)]
        omega
      · rw [if_neg a2] at c2
        omega
  · have c1 := h.sk
    have c2 := k.sk
    rw [drop_two k.keep k.le h.le]
    unfold sumK at c1 c2 ⊢
    rw [List.map_append, List.sum_append]
    simp only [List.length_cons, List.length_nil] at c1 ⊢
    omega
  · have e1 := h.wk g N hg (by omega) (fun i h1 h2 => by
      rw [hi i h1 (by omega)]
      unfold kd
      rw [getD_keep (k.keep i h2)]) dd m
    rw [wks]
    rw [wks, wks] at e1
    have e2 := k.wk g N hg hN (fun i h1 h2 => hi i (by omega) h2) dd (Grp.wk g (ful g N) [(q, dd)] (List.range s.ns.length) m).2
    rw [← e1] at e2
    exact e2
/-- an Alias -/
theorem Ext.als {s : Cs} {a : Nat} {x : Ln} (hI : anI s) (h : look s.an x = some a) {c : Nat} (hc : 1 ≤ c) : Ext s s [a] c := by
  obtain ⟨q, hq, rfl⟩ := look_le _ _ _ h
  refine ⟨Nat.le_refl _, Nat.le_add_right _ _, fun _ _ => rfl, fun q hq => .inl hq, fun q hq => hq, fun i h1 h2 => absurd h2 (by omega), fun a ha => ?_, fun x hx => ?_, by simp [sumK]; omega, fun g N hg hN hi dd m => ?_⟩
  · rw [List.mem_singleton.1 ha]; exact hI q hq
  · have : [q.2].count x = 0 := by rw [List.count_eq_zero]; simp; exact fun e => hx q hq e.symm
    rw [this]; simp
  · rw [wks, wks, wk_old (by unfold ful; omega) (List.mem_range.2 (hI q hq))]
theorem cnt_nat (qs : List Nat) (x : Nat) : cnt (qs.map fun a : Nat => (a : Int)) x = qs.count x := by
  unfold cnt
  rw [List.map_map]
  congr 1
  conv => rhs; rw [← List.map_id qs]
  exact List.map_congr_left fun a _ => by simp
theorem kd_nat (qs : List Nat) : (qs.map fun a : Nat => (a : Int)).map Int.toNat = qs := by
  rw [List.map_map]
  conv => rhs; rw [← List.map_id qs]
  exact List.map_congr_left fun a _ => by simp
/-- a value with its Kids -/
theorem Ext.value {s s1 : Cs} {t : Tr} {qs : List Nat} {c : Nat} (h : Ext (put1 t s) s1 qs c) (hn : NOk s1 ⟨t.kind, t.text, qs.map fun a : Nat => (a : Int)⟩) :
    Ext s ⟨s1.ns.set s.ns.length ⟨t.kind, t.text, qs.map fun a : Nat => (a : Int)⟩, s1.an⟩ [s.ns.length] (1 + c) := by
  have l0 : (put1 t s).ns.length = s.ns.length + 1 := by simp [put1]
  have hle := h.le
  have hup := h.up
  rw [l0] at hle hup
  have hL : s.ns.length < s1.ns.length := by omega
  have h0 : s1.ns[s.ns.length]? = some ⟨t.kind, t.text, []⟩ := by
    rw [h.keep _ (by omega)]
    simp [put1]
  have ka : ∀ q ∈ (put1 t s).an, q ∈ s.an ∨ q.2 = s.ns.length := fun q hq => by
    unfold put1 at hq
    simp only at hq
    split at hq
    · exact .inl hq
    · rcases List.mem_cons.1 hq with rfl | hq
      · exact .inr rfl
      · exact .inl hq
  have kb : ∀ q ∈ s.an, q ∈ (put1 t s).an := fun q hq => by
    unfold put1
    simp only
    split
    · exact hq
    · exact List.mem_cons_of_mem _ hq
  have hlat : Lat s1 ⟨s1.ns.set s.ns.length ⟨t.kind, t.text, qs.map fun a : Nat => (a : Int)⟩, s1.an⟩ := by
    refine ⟨by simp, fun i hi => ?_, fun q hq => .inl hq⟩
    simp only [List.getD_eq_getElem?_getD]
    by_cases e : s.ns.length = i
    · subst e
      rw [List.getElem?_set_self hL, h0]
      exact ⟨rfl, rfl⟩
    · rw [List.getElem?_set_ne e]
      exact ⟨rfl, rfl⟩
  have hdr : (s1.ns.set s.ns.length ⟨t.kind, t.text, qs.map fun a : Nat => (a : Int)⟩).drop s.ns.length = ⟨t.kind, t.text, qs.map fun a : Nat => (a : Int)⟩ :: s1.ns.drop (s.ns.length + 1) := by
    rw [List.drop_eq_getElem_cons (by simpa using hL), List.getElem_set_self]
    congr 1
    rw [List.drop_set_of_lt (by omega)]
  refine ⟨by simp; omega, by simp; omega, fun i hi => ?_, fun q hq => ?_, fun q hq => h.an2 q (kb q hq), fun i h1 h2 => ?_, fun a ha => ?_, fun x hx => ?_, ?_, fun g N hg hN hi dd m => ?_⟩
  · simp only
    rw [List.getElem?_set_ne (by omega), h.keep i (by omega)]
    simp [put1, List.getElem?_append_left hi]
  · rcases h.an q hq with q1 | q1
    · rcases ka q q1 with q1 | q1
      · exact .inl q1
      · exact .inr ⟨by omega, by simp; omega⟩
    · exact .inr ⟨by omega, by simpa using q1.2⟩
  · by_cases e : s.ns.length = i
    · subst e
      simp only [List.getD_eq_getElem?_getD]
      rw [List.getElem?_set_self hL]
      exact hn.lat hlat
    · have e2 : (s1.ns.set s.ns.length ⟨t.kind, t.text, qs.map fun a : Nat => (a : Int)⟩).getD i nd0 = s1.ns.getD i nd0 := by
        simp only [List.getD_eq_getElem?_getD]
        rw [List.getElem?_set_ne e]
      simp only [e2]
      exact (h.ok i (by omega) (by simpa using h2)).lat hlat
  · rw [List.mem_singleton.1 ha]; simpa using hL
  · have c1 := h.ct x hx
    simp only [List.length_set]
    rw [hdr, List.map_cons, List.sum_cons, cnt_nat]
    rw [l0] at c1
    by_cases e : x = s.ns.length
    · subst e
      rw [if_neg (by omega)] at c1
      rw [if_pos (by omega)]
      simp only [List.count_singleton_self]
      omega
    · have : [s.ns.length].count x = 0 := by rw [List.count_eq_zero]; simpa using e
      rw [this]
      by_cases a1 : s.ns.length + 1 ≤ x ∧ x < s1.ns.length
      · rw [if_pos a1] at c1
        rw [if_pos (by omega)]
        omega
      · rw [if_neg a1] at c1
        omega
  · have c1 := h.sk
    rw [l0] at c1
    simp only
    rw [hdr]
    unfold sumK at c1 ⊢
    rw [List.map_cons, List.sum_cons]
    simp only [List.length_cons, List.length_nil, List.length_map]
    omega
  · simp only [List.length_set] at hN hi ⊢
    rw [wks, wks, wk_new hg (by omega) (by simp) (mea_ful _ _ _ _)]
    have e1 : g s.ns.length = qs := by
      rw [hi _ (Nat.le_refl _) hL]
      unfold kd
      rw [List.getD_eq_getElem?_getD, List.getElem?_set_self hL]
      exact kd_nat qs
    rw [e1, show List.range s.ns.length ++ [s.ns.length] = List.range (put1 t s).ns.length by rw [l0, List.range_succ]]
    refine h.wk g N hg hN (fun i h1 h2 => ?_) _ _
    rw [l0] at h1
    rw [hi i (by omega) h2]
    unfold kd
    simp only [List.getD_eq_getElem?_getD]
    rw [List.getElem?_set_ne (by omega)]
/-- the keys' kinds and texts of Kids -/
def kyT (k : Int) : Nat → List Tr → List (Int × Ln)
  | _, [] => []
  | i, t :: ts => if kyP k i = true then (t.kind, t.text) :: kyT k (i + 1) ts else kyT k (i + 1) ts
/-- what one value's composing leaves -/
structure One (t : Tr) (s : Cs) (r : Nat × Nat × Cs) (c : Nat) : Prop where
  ex : Ext s r.2.2 [r.1] c
  hd : t.kind ≠ 7 → (r.2.2.ns.getD r.1 nd0).kind = t.kind ∧ (r.2.2.ns.getD r.1 nd0).text = t.text
  ky : kyl t.kind t.anc = true → noA r.2.2 r.1
/-- what Kids' composing leaves -/
structure Lst (k : Int) (i : Nat) (ts : List Tr) (ks : List (Int × Ln)) (s s' : Cs) (qs : List Nat) (c : Nat) : Prop where
  ln : qs.length = ts.length
  ex : Ext s s' qs c
  kt : (kys k i (qs.map fun a : Nat => (a : Int))).map (kp s'.ns) = kyT k i ts
  sc : ∀ a ∈ kys k i (qs.map fun a : Nat => (a : Int)), sca (s'.ns.getD a.toNat nd0).kind = true ∧ noA s' a.toNat
  nd : ks.Nodup → (ks ++ kyT k i ts).Nodup
theorem kyl_facts {k : Int} {a : Ln} (h : kyl k a = true) : sca k = true ∧ a = [] ∧ k ≠ 7 := by
  unfold kyl at h
  rw [Bool.and_eq_true, Bool.and_eq_true] at h
  have h1 := of_decide_eq_true h.1.1
  have h2 := of_decide_eq_true h.1.2
  refine ⟨by unfold sca; rw [decide_eq_true h1, decide_eq_true h2]; rfl, by simpa using h.2, by omega⟩
theorem pls_ext {f : Tr → Cs → Nat × Nat × Cs} {al : Tr → Nat → Option Nat} {pr : Tr → Prop} (hf : ∀ t s n n', pr t → al t n = some n' → anI s → (f t s).2.1 = 0 → n ≤ n' ∧ One t s (f t s) (n' - n)) (k : Int) :
    ∀ (ts : List Tr) (i : Nat) (ks : List (Int × Ln)) (ps : List Nat) (s : Cs) (n n' : Nat), (∀ t ∈ ts, pr t) → alk al (decide (k = 6)) i ts n = some n' → anI s → (pls f k i ts ks ps s).2.1 = 0 →
      n ≤ n' ∧ ∃ qs, (pls f k i ts ks ps s).1 = ps ++ qs ∧ Lst k i ts ks s (pls f k i ts ks ps s).2.2 qs (n' - n)
  | [], i, ks, ps, s, n, n', _, ha, hI, he => by
    rw [alk] at ha
    cases ha
    exact ⟨Nat.le_refl _, [], by simp [pls], rfl, by rw [pls]; exact Ext.nil _ _, rfl, fun a h => absurd h (by simp [kys]), fun h => by simpa [kyT] using h⟩
  | t :: ts, i, ks, ps, s, n, n', hp, ha, hI, he => by
    rw [alk] at ha
    have hkp : kyP k i = (decide (k = 6) && decide (i % 2 = 0)) := rfl
    rw [← hkp] at ha
    split at ha
    · cases ha
    rename_i hky
    cases hz : al t n with
    | none => rw [hz] at ha; cases ha
    | some n1 =>
      rw [hz] at ha
      rw [pls] at he ⊢
      by_cases hm : kyP k i = true ∧ (t.kind, t.text) ∈ ks
      · rw [if_pos hm] at he; exact absurd he (by simp)
      · rw [if_neg hm] at he ⊢
        by_cases h0 : (f t s).2.1 = 0
        · rw [if_pos h0] at he ⊢
          obtain ⟨l1, o⟩ := hf t s n n1 (hp t (by simp)) hz hI h0
          obtain ⟨ks', hks⟩ : ∃ ks', ks' = (if kyP k i = true then ks ++ [(t.kind, t.text)] else ks) := ⟨_, rfl⟩
          rw [← hks] at he ⊢
          obtain ⟨l2, qs, e1, L⟩ := pls_ext hf k ts (i + 1) _ _ _ n1 n' (fun u hu => hp u (by simp [hu])) ha (o.ex.anK hI) he
          refine ⟨by omega, (f t s).1 :: qs, by rw [e1, List.append_assoc]; rfl, by simp [L.ln], ?_, ?_, ?_, ?_⟩
          · have := o.ex.app L.ex
            rw [show n1 - n + (n' - n1) = n' - n by omega] at this
            exact this
          all_goals
            have hq : (f t s).1 < (f t s).2.2.ns.length := o.ex.ql _ (by simp)
            have hkk := L.ex.keep _ hq
          · rw [List.map_cons, kys, kyT]
            by_cases hk : kyP k i = true
            · rw [if_pos hk, if_pos hk, List.map_cons, L.kt]
              have hkl : kyl t.kind t.anc = true := by
                cases hv : kyl t.kind t.anc
                · exact absurd ⟨hk, hv⟩ hky
                · rfl
              have hh := o.hd (kyl_facts hkl).2.2
              congr 1
              unfold kp
              rw [Int.toNat_natCast, getD_keep hkk, hh.1, hh.2]
            · rw [if_neg hk, if_neg hk]; exact L.kt
          · rw [List.map_cons, kys]
            by_cases hk : kyP k i = true
            · rw [if_pos hk]
              have hkl : kyl t.kind t.anc = true := by
                cases hv : kyl t.kind t.anc
                · exact absurd ⟨hk, hv⟩ hky
                · rfl
              have hh := o.hd (kyl_facts hkl).2.2
              intro a ha2
              rcases List.mem_cons.1 ha2 with rfl | ha2
              · rw [Int.toNat_natCast, getD_keep hkk, hh.1]
                refine ⟨(kyl_facts hkl).1, fun q hq2 => ?_⟩
                rcases L.ex.an q hq2 with q1 | q1
                · exact o.ky hkl q q1
                · omega
              · exact L.sc a ha2
            · rw [if_neg hk]; exact L.sc
          · intro hnd
            rw [kyT]
            by_cases hk : kyP k i = true
            · rw [if_pos hk]
              rw [if_pos hk] at hks
              have h2 := L.nd (by
                rw [hks, List.nodup_append]
                exact ⟨hnd, by simp, fun x hx y hy => by rw [List.mem_singleton.1 hy]; rintro rfl; exact hm ⟨hk, hx⟩⟩)
              rw [hks, List.append_assoc] at h2
              exact h2
            · rw [if_neg hk]
              rw [if_neg hk] at hks
              have h2 := L.nd (by rw [hks]; exact hnd)
              rw [hks] at h2
              exact h2
        · rw [if_neg h0] at he; exact absurd he h0
theorem bri_mem {B d : Nat} {t : Tr} (h : bri B (d + 1) t) : ∀ u ∈ t.kids, bri B d u := fun u hu => by
  obtain ⟨i, hi, rfl⟩ := List.getElem_of_mem hu
  have := h.2.2 i hi
  rw [List.getD_eq_getElem?_getD, List.getElem?_eq_getElem hi] at this
  exact this
theorem plc_ext : ∀ (d : Nat) (deep : Nat) (t : Tr) (s : Cs) (n n' : Nat), bri 2147483648 d t → alw d deep t n = some n' → anI s → (plc d t s).2.1 = 0 → n ≤ n' ∧ One t s (plc d t s) (n' - n)
  | 0, deep, t, s, n, n', hb, ha, hI, he => hb.elim
  | d + 1, deep, t, s, n, n', hb, ha, hI, he => by
    rw [alw] at ha
    by_cases hcond : n + 1 > 4096 ∨ (if isLst t = true then deep + 1 else deep) > 64 ∨ ral t.kind t.text t.anc t.kids.length = false
    · rw [if_pos hcond] at ha; cases ha
    rw [if_neg hcond] at ha
    simp only [not_or] at hcond
    obtain ⟨g1, g2, g3⟩ := hcond
    have hral : ral t.kind t.text t.anc t.kids.length = true := by
      cases hv : ral t.kind t.text t.anc t.kids.length
      · exact absurd hv g3
      · rfl
    have hal := hral
    rw [ral, Bool.and_eq_true, Bool.and_eq_true] at hral
    rw [plc] at he ⊢
    by_cases h7 : t.kind = 7
    · rw [if_pos h7] at he ⊢
      have h0 : t.kids = [] := by
        have := hral.2
        unfold rct at this
        rw [if_neg (by omega), if_neg (by omega)] at this
        exact List.length_eq_zero_iff.1 (of_decide_eq_true this)
      rw [h0, alk] at ha
      cases ha
      refine ⟨by omega, ?_⟩
      cases hl : look s.an t.anc with
      | none => rw [hl] at he; exact absurd he (by simp)
      | some a =>
        refine ⟨Ext.als hI hl (by omega), fun h => absurd h7 h, fun h => absurd h7 (kyl_facts h).2.2⟩
    · rw [if_neg h7] at he ⊢
      have l0 : (put1 t s).ns.length = s.ns.length + 1 := by simp [put1]
      have hI0 : anI (put1 t s) := fun q hq => by
        rw [l0]
        unfold put1 at hq
        simp only at hq
        split at hq
        · have := hI q hq; omega
        · rcases List.mem_cons.1 hq with rfl | hq
          · simp
          · have := hI q hq; omega
      obtain ⟨l1, qs, e1, L⟩ := pls_ext (pr := bri 2147483648 d) (fun u s n n' hu h hI he => plc_ext d _ u s n n' hu h hI he) t.kind t.kids 0 [] [] (put1 t s) (n + 1) n' (bri_mem hb) ha hI0 he
      rw [List.nil_append] at e1
      have hrAl : rAl t.kind t.text = true := by
        unfold rAl rgh
        rw [alw]
        have hr2 : ral t.kind t.text [] 0 = true := by
          have hr : ran t.kind [] = true := by unfold ran; rw [if_pos rfl]; exact decide_eq_true h7
          have hc : rct t.kind 0 = true := by
            unfold rct
            split
            · rfl
            · split <;> rfl
          show (rtx t.kind t.text && ran t.kind [] && rct t.kind 0) = true
          rw [hral.1.1, hr, hc]; rfl
        rw [if_neg]
        · rfl
        · simp only [not_or]
          refine ⟨by omega, ?_, by show ¬ (ral t.kind t.text [] 0 = false); rw [hr2]; decide⟩
          split <;> omega
      have hscn : sca t.kind = true → t.kids = [] := fun h => by
        have h3 := hral.2
        unfold sca at h
        rw [Bool.and_eq_true] at h
        have q1 := of_decide_eq_true h.1
        have q2 := of_decide_eq_true h.2
        unfold rct at h3
        rw [if_neg (by omega), if_neg (by omega)] at h3
        exact List.length_eq_zero_iff.1 (of_decide_eq_true h3)
      have hn : NOk (pls (plc d) t.kind 0 t.kids [] [] (put1 t s)).2.2 ⟨t.kind, t.text, qs.map fun a : Nat => (a : Int)⟩ := by
        refine ⟨hrAl, hb.1, fun h => ?_, fun h6 => ?_, fun a ha => ?_, L.sc, ?_⟩
        · have := L.ln
          rw [hscn h] at this
          rw [List.length_eq_zero_iff.1 this]; rfl
        · have h3 := hral.2
          have h6' : t.kind = 6 := h6
          unfold rct at h3
          rw [if_neg (by omega), if_pos h6'] at h3
          simp only [List.length_map, L.ln]
          exact of_decide_eq_true h3
        · obtain ⟨b, hb, rfl⟩ := List.mem_map.1 ha
          have := L.ex.ql b hb
          unfold isP
          rw [decide_eq_true (by omega), decide_eq_true (by omega)]; rfl
        · have h2 := L.nd List.nodup_nil
          rw [List.nil_append] at h2
          show ((kys t.kind 0 (qs.map fun a : Nat => (a : Int))).map (kp _)).Nodup
          rw [L.kt]; exact h2
      have hE := Ext.value (s := s) L.ex hn
      rw [show 1 + (n' - (n + 1)) = n' - n by omega] at hE
      have hL : s.ns.length < (pls (plc d) t.kind 0 t.kids [] [] (put1 t s)).2.2.ns.length := by have := L.ex.le; omega
      unfold setK
      rw [e1]
      refine ⟨by omega, hE, fun _ => ?_, fun hk q hq => ?_⟩
      · simp only [List.getD_eq_getElem?_getD]
        rw [List.getElem?_set_self hL]
        exact ⟨rfl, rfl⟩
      · obtain ⟨k1, k2, k3⟩ := kyl_facts hk
        rw [hscn k1, pls] at hq
        have h3 : q ∈ s.an := by
          unfold put1 at hq
          simp only [if_pos k2] at hq
          exact hq
        have := hI q h3
        show q.2 ≠ s.ns.length
        omega
/-- what is composed may be, and lies in its own order -/
theorem cm_facts {d : Nat} {t : Tr} (hb : bri 2147483648 d t) (h : cmOk d t = true) : rgG ⟨(cmR d t).2.2.ns, 0⟩ = true ∧ odG (cmR d t).2.2.ns 0 = List.range (cmR d t).2.2.ns.length ∧ cnN (cmR d t).2.2.ns (odG (cmR d t).2.2.ns 0) = (cmR d t).2.2.ns ∧ Sml (cmR d t).2.2.ns := by
  unfold cmOk rgh at h
  rw [Bool.and_eq_true] at h
  obtain ⟨n', hn'⟩ := Option.isSome_iff_exists.1 h.1
  have he := of_decide_eq_true h.2
  have hI : anI ⟨[], []⟩ := fun q hq => absurd hq (by simp)
  obtain ⟨_, o⟩ := plc_ext d 0 t ⟨[], []⟩ 0 n' hb hn' hI he
  have hE : Ext ⟨[], []⟩ (cmR d t).2.2 [(cmR d t).1] (n' - 0) := o.ex
  have hn : n' ≤ 4096 := by
    exact (alw_sound 64 t 0 0 d n' (by omega) hn').2.2
  obtain ⟨S, hS⟩ : ∃ S, S = (cmR d t).2.2 := ⟨_, rfl⟩
  obtain ⟨p, hp⟩ : ∃ p, p = (cmR d t).1 := ⟨_, rfl⟩
  rw [← hS, ← hp] at hE
  rw [← hS]
  have hlen : S.ns.length ≤ 4096 := by have := hE.up; simp at this; omega
  have hpos : 0 < S.ns.length := Nat.lt_of_le_of_lt (Nat.zero_le _) (hE.ql p (by simp))
  have hok : ∀ n ∈ S.ns, NOk S n := fun n hn => by
    obtain ⟨i, hi, rfl⟩ := List.getElem_of_mem hn
    have := hE.ok i (Nat.zero_le _) hi
    rw [List.getD_eq_getElem?_getD, List.getElem?_eq_getElem hi] at this
    exact this
  have hkd : ∀ a, a < S.ns.length → ∀ b ∈ kd S.ns a, b < S.ns.length := kd_lt (fun n hn a ha => (hok n hn).kd a ha) rfl
  have hp0 : p = 0 := by
    cases d with
    | zero => exact hb.elim
    | succ d =>
      rw [hp]
      unfold cmR
      rw [plc]
      split
      · rename_i h7
        exfalso
        unfold cmR at he
        rw [plc, if_pos h7] at he
        exact absurd he (by simp [look])
      · rfl
  subst hp0
  have hod : odG S.ns 0 = List.range S.ns.length := by
    have := hE.wk (kd S.ns) S.ns.length hkd (Nat.le_refl _) (fun i _ _ => rfl) 1 0
    rw [wks, wks] at this
    exact this
  refine ⟨?_, hod, ?_, fun _ => ⟨fun n hn => (hok n hn).tx, ?_⟩⟩
  · unfold rgG
    simp only
    have a1 : al1 S.ns S.ns = true := (al1_iff S.ns S.ns).2 fun n hn => by
      have k := hok n hn
      refine ⟨k.al, ?_⟩
      unfold rKd
      rw [(kdOk_iff S.ns n.kind 0 n.kids).2 ⟨k.kd, fun a ha => (k.ky a ha).1⟩]
      have b1 : (sca n.kind && decide (0 < n.kids.length)) = false := by
        cases hv : sca n.kind
        · rfl
        · rw [k.sc hv]; rfl
      have b2 : (decide (n.kind = 6) && decide (n.kids.length % 2 ≠ 0)) = false := by
        by_cases h6 : n.kind = 6
        · rw [decide_eq_false (p := n.kids.length % 2 ≠ 0) (fun q => q (k.ev h6)), Bool.and_false]
        · rw [decide_eq_false h6]; rfl
      rw [b1, b2]; rfl
    have a2 : al2 S.ns S.ns = true := (al2_iff S.ns S.ns).2 fun n hn => decide_eq_true (hok n hn).df
    have a3 : kNe (timN (bump (fun _ => 0) (0 : Int).toNat) S.ns) S.ns = true := (kNe_iff _ _).2 fun n hn a ha => by
      have k := hok n hn
      have hc := hE.ct a.toNat (k.ky a ha).2
      rw [timN_eq]
      rw [show (S.ns.drop ([] : List Nd).length) = S.ns from rfl] at hc
      have hb1 : bump (fun _ => 0) (0 : Int).toNat a.toNat = [0].count a.toNat := by
        unfold bump
        by_cases e : a.toNat = 0
        · rw [if_pos (by simpa using e), e]; rfl
        · rw [if_neg (by simpa using e), List.count_eq_zero.2 (by simpa using e)]
      rw [hb1]
      refine Nat.le_trans hc ?_
      split <;> omega
    rw [decide_eq_true hlen, a1, a2, a3]
    unfold isP
    rw [decide_eq_true (by omega), decide_eq_true (by omega)]; rfl
  · rw [hod]
    apply List.ext_getElem
    · rw [cnN_len, List.length_range]
    · intro i h1 h2
      have := cnN_at S.ns (List.range S.ns.length) (j := i) (by simpa using h2)
      rw [List.getD_eq_getElem?_getD, List.getElem?_eq_getElem h1, Option.getD_some] at this
      rw [this, List.getElem_range, List.getD_eq_getElem?_getD, List.getElem?_eq_getElem h2, Option.getD_some]
      have e : (S.ns[i].kids.map fun b => (((List.range S.ns.length).idxOf b.toNat : Nat) : Int)) = S.ns[i].kids := by
        conv => rhs; rw [← List.map_id S.ns[i].kids]
        refine List.map_congr_left fun b hb => ?_
        obtain ⟨m, rfl, hm⟩ := isP_nat ((hok _ (List.getElem_mem h2)).kd b hb)
        rw [Int.toNat_natCast, idx_rng hm]; rfl
      rw [e]
  · have := hE.sk
    rw [show (S.ns.drop ([] : List Nd).length) = S.ns from rfl] at this
    omega
end Go.Proofs.YtaphijgbebhdlaaGreatDoor.Grp
end

section
/- Package lay's Trim, by its contract. -/
namespace Go.Proofs.YtaphijgbebhdlaaGreatDoor.Grp
open Utf Rws Pln Flw
open Go.RowKit
set_option linter.unusedSimpArgs false
set_option linter.unusedVariables false
set_option maxRecDepth 100000
set_option maxHeartbeats 4000000

def cmG (d : Nat) (t : Tr) : Gr := ⟨(cmR d t).2.2.ns, 0⟩
def tmE (d : Nat) (t : Tr) : Int := if cmOk d t = true then lyE (cmG d t) else cmEr d t
def tmT (d : Nat) (t : Tr) : Tr := if cmOk d t = true then lyG (cmG d t) else tr0
theorem cmEr_no {d : Nat} {t : Tr} (h : cmOk d t = false) : cmEr d t ≠ 0 := by
  unfold cmOk at h
  unfold cmEr
  split
  · rename_i hr
    rw [hr, Bool.true_and, decide_eq_false_iff_not] at h
    omega
  · decide
/-- the boxes of a tree and an answer -/
structure TqS (w W : World) (K0 KR : Nat) (tc : Array Value) : Prop where
  t : Bx W K0 tc 29
  r : Bx W KR zT 29
  bl : Below w.heap.size w W
theorem TqS.later {w W W' : World} {K0 KR : Nat} {tc : Array Value} (h : TqS w W K0 KR tc) (hb : Below W.heap.size W W') : TqS w W' K0 KR tc := ⟨h.t.later hb, h.r.later hb, h.bl.trans (hb.mono h.bl.size)⟩
theorem TqS.new (w : World) (tc : Array Value) : TqS w ((w.alloc (.cells tc 29)).alloc (.cells #[.int .i64 0, .string ⟨#[]⟩, .string ⟨#[]⟩, .slice none 0 0] 29)) w.heap.size (w.heap.size + 1) tc := by
  have b1 := below_alloc w (.cells tc 29)
  have s1 : (w.alloc (.cells tc 29)).heap.size = w.heap.size + 1 := World.size_alloc _ _
  have b2 := below_alloc (w.alloc (.cells tc 29)) (.cells zT 29)
  have n2 := Bx.new (w.alloc (.cells tc 29)) zT 29
  rw [s1] at n2
  exact ⟨(Bx.new w _ _).later b2, n2, b1.trans (b2.mono b1.size)⟩
theorem TqS.store {w W : World} {K0 KR n : Nat} {tc : Array Value} {rk : Int} {rx ry : ByteArray} {rad : Option Addr} {rl rc : Nat} {t : Tr} (h : TqS w W K0 KR tc) (hk : w.heap.size ≤ KR) (hT : TrP (KR + 1) W n (.agg #[.int .i64 rk, .string rx, .string ry, .slice rad rl rc]) t) :
    Bx ((((W.setCell ⟨KR, 0, none⟩ (.int .i64 rk)).setCell ⟨KR, 1, none⟩ (.string rx)).setCell ⟨KR, 2, none⟩ (.string ry)).setCell ⟨KR, 3, none⟩ (.slice rad rl rc)) KR #[.int .i64 rk, .string rx, .string ry, .slice rad rl rc] 29 ∧
    TrP w.heap.size ((((W.setCell ⟨KR, 0, none⟩ (.int .i64 rk)).setCell ⟨KR, 1, none⟩ (.string rx)).setCell ⟨KR, 2, none⟩ (.string ry)).setCell ⟨KR, 3, none⟩ (.slice rad rl rc)) n (.agg #[.int .i64 rk, .string rx, .string ry, .slice rad rl rc]) t ∧
    Below w.heap.size w ((((W.setCell ⟨KR, 0, none⟩ (.int .i64 rk)).setCell ⟨KR, 1, none⟩ (.string rx)).setCell ⟨KR, 2, none⟩ (.string ry)).setCell ⟨KR, 3, none⟩ (.slice rad rl rc)) := by
  have hK : KR < KR + 1 := Nat.lt_succ_self _
  exact ⟨(((h.r.set 0 _).set 1 _).set 2 _).set 3 _, ((((hT.set hK).set hK).set hK).set hK).mono (by omega), (((h.bl.setCell (p := ⟨KR, 0, none⟩) hk _).setCell (p := ⟨KR, 1, none⟩) hk _).setCell (p := ⟨KR, 2, none⟩) hk _).setCell (p := ⟨KR, 3, none⟩) hk _⟩
theorem trim_core {w : World} {d : Nat} {k : Int} {x a : Ln} {ad : Option Addr} {len cap : Nat} {t : Tr} (hb : bri 2147483648 d t) (hV : TrV w d (tv k x a ad len cap) t) (hT : Tb w) (hz : tsz d t ≤ 1000000) :
    Calls Tryz.prog 13 #[tv k x a ad len cap] w (LTRes w ((cmR d t).2.2.ns.length + 1) (tmE d t) (tmT d t)) := by
  have h0 := TqS.new w #[.int .i64 k, .string (mk x), .string (mk a), .slice ad len cap]
  have HC0 : ∀ W, TqS w W w.heap.size (w.heap.size + 1) #[.int .i64 k, .string (mk x), .string (mk a), .slice ad len cap] → Calls Tryz.prog 22 #[tv k x a ad len cap] W (GRes W (cmOk d t) (cmEr d t) ⟨(cmR d t).2.2.ns, 0⟩) := fun W h => compose_any hb (hV.later h.bl (Nat.le_refl _)) (hT.later h.bl) hz
  obtain ⟨KR, hKR⟩ : ∃ KR, KR = w.heap.size + 1 := ⟨_, rfl⟩
  have hwK : w.heap.size ≤ KR := by omega
  rw [← hKR] at h0 HC0
  have HKR : Hid (w.heap.size + 1 = KR) := hKR.symm
  obtain ⟨K0, hK0⟩ : ∃ K0, K0 = w.heap.size := ⟨_, rfl⟩
  have HK0 : Hid (w.heap.size = K0) := hK0.symm
  have hK0R : K0 < KR := by omega
  rw [← hK0] at h0 HC0
  clear hK0 hKR
  have HTb : Hid (Tb w) := hT
  cases hc : cmOk d t
  case false =>
    have HE : Hid (tmE d t = cmEr d t) := by show _ = _; unfold tmE; rw [if_neg (by rw [hc]; decide)]
    have HG : Hid (tmT d t = tr0) := by show _ = _; unfold tmT; rw [if_neg (by rw [hc]; decide)]
    have he := cmEr_no hc
    rw [HE.out, HG.out]
    generalize (cmR d t).2.2.ns.length = n
    generalize hEr : cmEr d t = Er at *
    have he2 : (Er != 0) = true := by simpa using he
    have HC : Hid (∀ W, Hid (TqS w W K0 KR #[.int .i64 k, .string (mk x), .string (mk a), .slice ad len cap]) → Calls Tryz.prog 22 #[tv k x a ad len cap] W fun e W' => e = .returned (.tuple #[.agg #[.slice none 0 0, .int .i64 0], .int .i64 Er]) ∧ Hid (TqS w W' K0 KR #[.int .i64 k, .string (mk x), .string (mk a), .slice ad len cap])) := fun W h => (HC0 W h.out).mono (fun e W' q => by
      obtain ⟨q1, q2⟩ := q
      rw [hc, if_neg (by decide)] at q1
      exact ⟨q1, h.out.later q2⟩)
    clear HC0 hV hT hc HE HG hb hz hEr HTb he
    go_enter Tryz.func13, Tryz.ntmps13
    go_upto_region 1 with fail
    try rw [HKR.out]
    try rw [HK0.out]
    generalize (w.alloc (.cells #[.int .i64 k, .string (mk x), .string (mk a), .slice ad len cap] 29)).alloc (.cells #[.int .i64 0, .string ⟨#[]⟩, .string ⟨#[]⟩, .slice none 0 0] 29) = W0 at h0 ⊢
    have H0 : Hid (TqS w W0 K0 KR #[.int .i64 k, .string (mk x), .string (mk a), .slice ad len cap]) := h0
    clear h0
    obtain ⟨c0, c1, c2, c3⟩ := H0.out.t.c4
    go_upto_region 3 with (go_at_call 22; refine (HC.out _ H0).mono ?_; rintro e w1 ⟨rfl, H1⟩)
    have H2 : Hid (TqS w (w1.alloc (.cells #[.slice none 0 0, .int .i64 0] 24)) K0 KR #[.int .i64 k, .string (mk x), .string (mk a), .slice ad len cap]) := H1.out.later (below_alloc _ _)
    generalize w1.alloc (.cells #[.slice none 0 0, .int .i64 0] 24) = w2 at H2 ⊢
    clear H0 c0 c1 c2 c3 HC H1
    have HT1 : TrP (KR + 1) w2 (n + 1) (.agg #[.int .i64 0, .string ⟨#[]⟩, .string ⟨#[]⟩, .slice none 0 0]) tr0 := trp_none _ _ _
    obtain ⟨n9, t9, b9⟩ := H2.out.store hwK HT1
    have HN9 : Hid (Bx _ KR _ _) := n9
    have HT9 : Hid (TrP w.heap.size _ _ _ _) := t9
    have HB9 : Hid (Below w.heap.size w _) := b9
    clear n9 t9 b9 HT1
    obtain ⟨r0, r1, r2, r3⟩ := (show Bx w2 KR #[.int .i64 0, .string ⟨#[]⟩, .string ⟨#[]⟩, .slice none 0 0] 29 from H2.out.r).c4
    have z0 := H2.out.r.fz 0
    have z1 := H2.out.r.fz 1
    have z2 := H2.out.r.fz 2
    have z3 := H2.out.r.fz 3
    clear H2
    go_wp2_with fail
    generalize (((w2.setCell ⟨KR, 0, none⟩ (.int .i64 0)).setCell ⟨KR, 1, none⟩ (.string ⟨#[]⟩)).setCell ⟨KR, 2, none⟩ (.string ⟨#[]⟩)).setCell ⟨KR, 3, none⟩ (.slice none 0 0) = W9 at HN9 HT9 HB9 ⊢
    obtain ⟨g0, g1, g2, g3⟩ := HN9.out.c4
    refine bodyPost_ret (v := .tuple #[.agg #[.int .i64 0, .string ⟨#[]⟩, .string ⟨#[]⟩, .slice none 0 0], .int .i64 Er]) (by simp [results, Tryz.results13, go_sem, g0, g1, g2, g3]) rfl ?_
    exact ⟨0, ⟨#[]⟩, ⟨#[]⟩, none, 0, 0, rfl, HT9, HB9⟩
  case true =>
    have HE : Hid (tmE d t = lyE (cmG d t)) := by show _ = _; unfold tmE; rw [if_pos hc]
    have HG : Hid (tmT d t = lyG (cmG d t)) := by show _ = _; unfold tmT; rw [if_pos hc]
    obtain ⟨f1, f2, f3, f4⟩ := cm_facts hb hc
    rw [HE.out, HG.out]
    have HC : Hid (∀ W, Hid (TqS w W K0 KR #[.int .i64 k, .string (mk x), .string (mk a), .slice ad len cap]) → Calls Tryz.prog 22 #[tv k x a ad len cap] W fun e W' => ∃ ga gl gc, e = .returned (.tuple #[.agg #[.slice ga gl gc, .int .i64 0], .int .i64 0]) ∧ Hid (GrV W' (gv ga gl gc 0) (cmG d t)) ∧ Hid (TqS w W' K0 KR #[.int .i64 k, .string (mk x), .string (mk a), .slice ad len cap])) := fun W h => (HC0 W h.out).mono (fun e W' q => by
      obtain ⟨q1, q2⟩ := q
      rw [hc, if_pos rfl] at q1
      obtain ⟨v, rfl, hv⟩ := q1
      have hv2 := hv.v
      obtain ⟨ga, gl, gc, rfl, hr⟩ := hv.v
      exact ⟨ga, gl, gc, rfl, hv2, h.out.later q2⟩)
    have HTr : Hid (∀ W ga gl gc, Hid (TqS w W K0 KR #[.int .i64 k, .string (mk x), .string (mk a), .slice ad len cap]) → GrV W (gv ga gl gc 0) (cmG d t) → Calls Tryz.prog 7 #[gv ga gl gc 0] W fun e W' => ∃ (rk : Int) (rx ry : ByteArray) (rad : Option Addr) (rl rc : Nat), e = .returned (.tuple #[.agg #[.int .i64 rk, .string rx, .string ry, .slice rad rl rc], .int .i64 (lyE (cmG d t))]) ∧ Hid (TrP (KR + 1) W' ((cmG d t).nodes.length + 1) (.agg #[.int .i64 rk, .string rx, .string ry, .slice rad rl rc]) (lyG (cmG d t))) ∧ Hid (TqS w W' K0 KR #[.int .i64 k, .string (mk x), .string (mk a), .slice ad len cap])) := fun W ga gl gc h hg => (ttree_any hg f4 (HTb.out.later h.out.bl)).mono (fun e W' q => by
      obtain ⟨rk, rx, ry, rad, rl, rc, q1, q2, q3⟩ := q
      exact ⟨rk, rx, ry, rad, rl, rc, q1, q2.out.mono (by have := h.out.r.lt; omega), h.out.later q3.out⟩)
    have hn : (cmR d t).2.2.ns.length = (cmG d t).nodes.length := rfl
    rw [hn]
    generalize cmG d t = g at *
    generalize g.nodes.length = n at *
    generalize lyE g = Er at *
    generalize lyG g = T at *
    clear HC0 hV hT hc HE HG hb hz HTb f1 f2 f3 f4 hn
    go_enter Tryz.func13, Tryz.ntmps13
    go_upto_region 1 with fail
    try rw [HKR.out]
    try rw [HK0.out]
    generalize (w.alloc (.cells #[.int .i64 k, .string (mk x), .string (mk a), .slice ad len cap] 29)).alloc (.cells #[.int .i64 0, .string ⟨#[]⟩, .string ⟨#[]⟩, .slice none 0 0] 29) = W0 at h0 ⊢
    have H0 : Hid (TqS w W0 K0 KR #[.int .i64 k, .string (mk x), .string (mk a), .slice ad len cap]) := h0
    clear h0
    obtain ⟨c0, c1, c2, c3⟩ := H0.out.t.c4
    go_upto_region 4 with (go_at_call 22; refine (HC.out _ H0).mono ?_; rintro e w1 ⟨ga, gl, gc, rfl, G1, H1⟩)
    have H2 : Hid (TqS w (w1.alloc (.cells #[.slice ga gl gc, .int .i64 0] 24)) K0 KR #[.int .i64 k, .string (mk x), .string (mk a), .slice ad len cap]) := H1.out.later (below_alloc _ _)
    have G2 : Hid (GrV (w1.alloc (.cells #[.slice ga gl gc, .int .i64 0] 24)) (gv ga gl gc 0) g) := G1.out.later (below_alloc _ _) (Nat.le_refl _)
    have N2 := Bx.new w1 #[.slice ga gl gc, .int .i64 0] 24
    generalize w1.alloc (.cells #[.slice ga gl gc, .int .i64 0] 24) = w2 at H2 G2 N2 ⊢
    generalize w1.heap.size = K4 at N2 ⊢
    obtain ⟨d0, d1⟩ := N2.c2
    clear H0 c0 c1 c2 c3 HC H1 G1 N2
    go_wp2_with (go_at_call 7; refine (HTr.out _ _ _ _ H2 G2.out).mono ?_; rintro r w3 ⟨rk, rx, ry, rad, rl, rc, rfl, HT3, H3⟩; obtain ⟨n9, t9, b9⟩ := H3.out.store hwK HT3.out; have HN9 : Hid (Bx _ KR _ _) := n9; have HT9 : Hid (TrP w.heap.size _ _ _ _) := t9; have HB9 : Hid (Below w.heap.size w _) := b9; clear n9 t9 b9; obtain ⟨r0, r1, r2, r3⟩ := (show Bx w3 KR #[.int .i64 0, .string ⟨#[]⟩, .string ⟨#[]⟩, .slice none 0 0] 29 from H3.out.r).c4; have z0 := H3.out.r.fz 0; have z1 := H3.out.r.fz 1; have z2 := H3.out.r.fz 2; have z3 := H3.out.r.fz 3)
    generalize (((w3.setCell ⟨KR, 0, none⟩ (.int .i64 rk)).setCell ⟨KR, 1, none⟩ (.string rx)).setCell ⟨KR, 2, none⟩ (.string ry)).setCell ⟨KR, 3, none⟩ (.slice rad rl rc) = W9 at HN9 HT9 HB9 ⊢
    obtain ⟨g0, g1, g2, g3⟩ := HN9.out.c4
    refine bodyPost_ret (v := .tuple #[.agg #[.int .i64 rk, .string rx, .string ry, .slice rad rl rc], .int .i64 Er]) (by simp [results, Tryz.results13, go_sem, g0, g1, g2, g3]) rfl ?_
    exact ⟨rk, rx, ry, rad, rl, rc, rfl, HT9, HB9⟩
theorem trim_any {w : World} {d : Nat} {v : Value} {t : Tr} (hb : bri 2147483648 d t) (hV : TrV w d v t) (hT : Tb w) (hz : tsz d t ≤ 1000000) : Calls Tryz.prog 13 #[v] w (LTRes w ((cmR d t).2.2.ns.length + 1) (tmE d t) (tmT d t)) := by
  obtain ⟨ad, len, cap, rfl⟩ := hV.open4
  exact trim_core hb hV hT hz
end Go.Proofs.YtaphijgbebhdlaaGreatDoor.Grp
end
