/- Several texts as one: FlowRgtP. -/
import Derived.Test.YtaflbooofchimaaGreatDoorJ05FlowAllow
import Derived.Test.YtaflbooofchimaaGreatDoorJ02FlowModel2
section
/- what allows tells is what the model says: rgt and cntT. -/
namespace Go.Proofs.YtaflbooofchimaaGreatDoor.Flw
open Utf Rws Pln
open Go.RowKit
set_option linter.unusedSimpArgs false
set_option linter.unusedVariables false

theorem knd_2 (s : Ln) : (decide (knd s = 2)) = (s == [116, 114, 117, 101] || s == [102, 97, 108, 115, 101]) := by
  unfold knd
  split
  · rename_i h
    simp only [Bool.or_eq_true, beq_iff_eq] at h
    rcases h with (h | h) | h <;> subst h <;> decide
  · split
    · rename_i h; rw [h]; rfl
    · rename_i h
      rw [Bool.not_eq_true] at h
      rw [h]
      split <;> rfl
theorem rtx_txt (k : Int) (s : Ln) : rtx k s = (decide (1 ≤ k) && decide (k ≤ 7) && txt k s) := by
  unfold rtx txt
  by_cases h1 : k = 1 ∨ k = 5 ∨ k = 6 ∨ k = 7
  · rw [if_pos h1]
    rcases h1 with rfl | rfl | rfl | rfl <;> simp
  rw [if_neg h1]
  by_cases h2 : k = 2
  · subst h2; rw [if_pos (.inl rfl), if_pos rfl, knd_2]; rfl
  by_cases h3 : k = 3
  · subst h3; rw [if_pos (.inr rfl), if_neg h2, if_pos rfl]; rfl
  by_cases h4 : k = 4
  · subst h4; rw [if_neg (by omega), if_pos rfl, if_neg h2, if_neg h3, if_pos rfl]; rfl
  rw [if_neg (by omega), if_neg h4]
  by_cases h5 : 1 ≤ k
  · rw [decide_eq_false (show ¬ k ≤ 7 by omega), Bool.and_false, Bool.false_and]
  · rw [decide_eq_false h5, Bool.false_and, Bool.false_and]
theorem ran_eq (k : Int) (a : Ln) : ran k a = ((a == [] && !decide (k = 7)) || isName a) := by
  unfold ran
  by_cases h : a = []
  · subst h; rw [if_pos rfl]; simp [isName]
  · rw [if_neg h]; simp [h]
theorem rstep_ral (inner : Option (Tr → Bool)) (t : Tr) : rstep inner t = true ↔ ral t.kind t.text t.anc t.kids.length = true ∧ (isLst t = true → ∃ v, inner = some v ∧ (t.kind = 6 → keysOk 0 t.kids = true) ∧ ∀ k ∈ t.kids, v k = true) := by
  constructor
  · intro h
    obtain ⟨h1, h2, h3, h4, h5, h6⟩ := rstep_inv h
    constructor
    · unfold ral
      rw [rtx_txt, ran_eq, decide_eq_true h1, decide_eq_true h2, h4]
      have e1 : ((t.anc == [] && !decide (t.kind = 7)) || isName t.anc) = true := by
        rcases h3 with ⟨e, f⟩ | e
        · rw [e]; simp [f]
        · rw [e, Bool.or_true]
      have e2 : rct t.kind t.kids.length = true := by
        unfold rct
        by_cases c5 : t.kind = 5
        · rw [if_pos c5]
        by_cases c6 : t.kind = 6
        · rw [if_neg c5, if_pos c6]
          obtain ⟨v, _, hm, _⟩ := h6 (.inr c6)
          simpa using (hm c6).1
        · rw [if_neg c5, if_neg c6, h5 ⟨c5, c6⟩]; rfl
      rw [e1, e2]; rfl
    · intro hl
      unfold isLst at hl
      simp only [Bool.or_eq_true, decide_eq_true_eq] at hl
      obtain ⟨v, e, hm, hk⟩ := h6 hl
      exact ⟨v, e, fun c => (hm c).2, hk⟩
  · rintro ⟨h1, h2⟩
    unfold ral at h1
    rw [rtx_txt, ran_eq] at h1
    simp only [Bool.and_eq_true, decide_eq_true_eq] at h1
    obtain ⟨⟨⟨⟨a1, a2⟩, a3⟩, a4⟩, a5⟩ := h1
    unfold rstep
    rw [decide_eq_true a1, decide_eq_true a2, a3, a4]
    unfold rct at a5
    unfold isLst at h2
    by_cases c : t.kind ≠ 5 ∧ t.kind ≠ 6
    · rw [if_neg c.1, if_neg c.2] at a5
      rw [if_pos c]
      have : t.kids = [] := by simpa using a5
      rw [this]; rfl
    · rw [if_neg c]
      obtain ⟨v, e, hm, hk⟩ := h2 (by simp only [Bool.or_eq_true, decide_eq_true_eq]; omega)
      subst e
      have hall : t.kids.all v = true := List.all_eq_true.2 hk
      simp only [hall, Bool.true_and, Bool.and_true]
      by_cases c6 : t.kind = 6
      · rw [if_neg (by omega), if_pos c6] at a5
        have a6 : t.kids.length % 2 = 0 := by simpa using a5
        rw [hm c6, a6]; simp
      · simp [c6]
theorem alk_sound {f : Tr → Nat → Option Nat} {mp : Bool} {c : Tr → Nat} {v : Tr → Bool} : ∀ (ks : List Tr) (i n n' : Nat), (∀ k ∈ ks, ∀ m m', f k m = some m' → v k = true ∧ m' = m + c k ∧ m' ≤ 4096) → n ≤ 4096 → alk f mp i ks n = some n' →
    (mp = true → keysOk i ks = true) ∧ (∀ k ∈ ks, v k = true) ∧ n' = n + (ks.map c).sum ∧ n' ≤ 4096
  | [], i, n, n', _, hn, h => by
    cases h
    exact ⟨fun _ => rfl, fun k h => (nomatch h), by simp, hn⟩
  | k :: ks, i, n, n', hf, hn, h => by
    unfold alk at h
    by_cases hc : (mp && decide (i % 2 = 0)) = true ∧ kyl k.kind k.anc = false
    · rw [if_pos hc] at h; cases h
    rw [if_neg hc] at h
    cases e : f k n with
    | none => rw [e] at h; cases h
    | some m =>
      rw [e] at h
      obtain ⟨v1, v2, v3⟩ := hf k (List.mem_cons_self ..) n m e
      obtain ⟨w1, w2, w3, w4⟩ := alk_sound ks (i + 1) m n' (fun k' hk => hf k' (List.mem_cons_of_mem _ hk)) v3 h
      refine ⟨fun hm => ?_, ?_, ?_, w4⟩
      · unfold keysOk
        rw [w1 hm, Bool.and_true]
        by_cases h2 : i % 2 = 0
        · have : isKey k = true := by
            cases h3 : isKey k
            · exact absurd ⟨by rw [hm, decide_eq_true h2]; rfl, h3⟩ hc
            · rfl
          rw [this, Bool.or_true]
        · simp [h2]
      · intro k' hk
        rcases List.mem_cons.1 hk with e | hk
        · subst e; exact v1
        · exact w2 k' hk
      · rw [w3, v2, List.map_cons, List.sum_cons]; omega
theorem alk_full {f : Tr → Nat → Option Nat} {mp : Bool} {c : Tr → Nat} : ∀ (ks : List Tr) (i n : Nat), (∀ k ∈ ks, ∀ m, m + c k ≤ 4096 → f k m = some (m + c k)) → (mp = true → keysOk i ks = true) → n + (ks.map c).sum ≤ 4096 → alk f mp i ks n = some (n + (ks.map c).sum)
  | [], i, n, _, _, _ => by simp [alk]
  | k :: ks, i, n, hf, hk, hn => by
    rw [List.map_cons, List.sum_cons] at hn ⊢
    have hc : ¬ ((mp && decide (i % 2 = 0)) = true ∧ kyl k.kind k.anc = false) := by
      rintro ⟨h1, h2⟩
      simp only [Bool.and_eq_true, decide_eq_true_eq] at h1
      have := hk h1.1
      unfold keysOk at this
      rw [show isKey k = false from h2] at this
      simp [h1.2] at this
    unfold alk
    rw [if_neg hc, hf k (List.mem_cons_self ..) n (by omega)]
    have := alk_full (f := f) (mp := mp) (c := c) ks (i + 1) (n + c k) (fun k' hk => hf k' (List.mem_cons_of_mem _ hk)) (fun hm => by have := hk hm; unfold keysOk at this; simp only [Bool.and_eq_true] at this; exact this.2) (by omega)
    show alk f mp (i + 1) ks (n + c k) = _
    rw [this]
    congr 1
    omega
theorem kids_nil {t : Tr} (h : ral t.kind t.text t.anc t.kids.length = true) (hl : ¬ isLst t = true) : t.kids = [] := by
  unfold ral rct at h
  unfold isLst at hl
  simp only [Bool.or_eq_true, decide_eq_true_eq, not_or] at hl
  rw [if_neg hl.1, if_neg hl.2] at h
  simp only [Bool.and_eq_true, decide_eq_true_eq] at h
  exact List.length_eq_zero_iff.1 h.2
theorem cnt_one (m : Nat) (t : Tr) (h : t.kids = []) : cntT m t = 1 := by
  cases m with
  | zero => rfl
  | succ m => unfold cntT; rw [h]; rfl
theorem rgt_of {m : Nat} {t : Tr} {inner : Option (Tr → Bool)} (e : rgt m t = rstep inner t) (h : rstep inner t = true) : rgt m t = true := e.trans h
theorem alw_sound : ∀ (m : Nat) (t : Tr) (deep n d n' : Nat), deep + m = 64 → alw d deep t n = some n' → rgt m t = true ∧ n' = n + cntT m t ∧ n' ≤ 4096 := by
  intro m
  induction m with
  | zero =>
    intro t deep n d n' hd h
    cases d with
    | zero => cases h
    | succ d =>
      unfold alw at h
      by_cases hc : n + 1 > 4096 ∨ (if isLst t = true then deep + 1 else deep) > 64 ∨ ral t.kind t.text t.anc t.kids.length = false
      · rw [if_pos hc] at h; cases h
      rw [if_neg hc] at h
      simp only [not_or, Bool.not_eq_false] at hc
      have hl : ¬ isLst t = true := fun e => by rw [if_pos e] at hc; omega
      have hk := kids_nil hc.2.2 hl
      rw [hk] at h
      cases h
      exact ⟨(rstep_ral none t).2 ⟨hc.2.2, fun e => absurd e hl⟩, by rw [cnt_one _ _ hk], by omega⟩
  | succ m ih =>
    intro t deep n d n' hd h
    cases d with
    | zero => cases h
    | succ d =>
      unfold alw at h
      by_cases hc : n + 1 > 4096 ∨ (if isLst t = true then deep + 1 else deep) > 64 ∨ ral t.kind t.text t.anc t.kids.length = false
      · rw [if_pos hc] at h; cases h
      rw [if_neg hc] at h
      simp only [not_or, Bool.not_eq_false] at hc
      by_cases hl : isLst t = true
      · rw [if_pos hl] at h
        obtain ⟨a1, a2, a3, a4⟩ := alk_sound (c := fun k => cntT m k) (v := fun k => rgt m k) t.kids 0 (n + 1) n' (fun k hk x x' hx => ih k (deep + 1) x d x' (by omega) hx) (by omega) h
        refine ⟨(rstep_ral _ t).2 ⟨hc.2.2, fun _ => ⟨_, rfl, fun c => a1 (decide_eq_true c), a2⟩⟩, ?_, a4⟩
        rw [a3]; show _ = n + (1 + _); omega
      · have hk := kids_nil hc.2.2 hl
        rw [hk] at h
        cases h
        exact ⟨(rstep_ral _ t).2 ⟨hc.2.2, fun e => absurd e hl⟩, by rw [cnt_one _ _ hk], by omega⟩
theorem alw_full : ∀ (m : Nat) (t : Tr) (deep n d : Nat), deep + m = 64 → rgt m t = true → n + cntT m t ≤ 4096 → m < d → alw d deep t n = some (n + cntT m t) := by
  intro m
  induction m with
  | zero =>
    intro t deep n d hd h hn hm
    obtain ⟨d, rfl⟩ : ∃ e, d = e + 1 := ⟨d - 1, by omega⟩
    obtain ⟨h1, h2⟩ := (rstep_ral none t).1 h
    have hl : ¬ isLst t = true := fun e => by obtain ⟨v, e, _⟩ := h2 e; cases e
    have hk := kids_nil h1 hl
    rw [cnt_one _ _ hk] at hn ⊢
    unfold alw
    rw [if_neg (by rw [if_neg hl, h1]; intro h; rcases h with h | h | h <;> first | omega | exact Bool.noConfusion h), hk]
    rfl
  | succ m ih =>
    intro t deep n d hd h hn hm
    obtain ⟨d, rfl⟩ : ∃ e, d = e + 1 := ⟨d - 1, by omega⟩
    obtain ⟨h1, h2⟩ := (rstep_ral _ t).1 h
    by_cases hl : isLst t = true
    · obtain ⟨v, e, hm6, hv⟩ := h2 hl
      cases e
      have e1 : cntT (m + 1) t = 1 + (t.kids.map fun k => cntT m k).sum := rfl
      rw [e1] at hn ⊢
      unfold alw
      rw [if_neg (by rw [if_pos hl, h1]; intro h; rcases h with h | h | h <;> first | omega | exact Bool.noConfusion h), if_pos hl]
      have := alk_full (f := fun k x => alw d (deep + 1) k x) (mp := decide (t.kind = 6)) (c := fun k => cntT m k) t.kids 0 (n + 1) (fun k hk x hx => ih k (deep + 1) x d (by omega) (hv k hk) hx (by omega)) (fun c => hm6 (of_decide_eq_true c)) (by omega)
      rw [this]
      congr 1
      omega
    · have hk := kids_nil h1 hl
      rw [cnt_one _ _ hk] at hn ⊢
      unfold alw
      rw [if_neg (by rw [if_neg hl, h1]; intro h; rcases h with h | h | h <;> first | omega | exact Bool.noConfusion h), hk]
      rfl
theorem rgh_iff {d : Nat} (hd : 64 < d) (t : Tr) : rgh d t = (rgt 64 t && decide (cntT 64 t ≤ 4096)) := by
  unfold rgh
  cases e : alw d 0 t 0 with
  | some n =>
    obtain ⟨h1, h2, h3⟩ := alw_sound 64 t 0 0 d n (by omega) e
    rw [h1, decide_eq_true (by omega)]; rfl
  | none =>
    cases h1 : rgt 64 t
    · rfl
    by_cases h2 : cntT 64 t ≤ 4096
    · rw [alw_full 64 t 0 0 d (by omega) h1 (by omega) hd] at e; cases e
    · rw [decide_eq_false h2]; rfl
end Go.Proofs.YtaflbooofchimaaGreatDoor.Flw
end
