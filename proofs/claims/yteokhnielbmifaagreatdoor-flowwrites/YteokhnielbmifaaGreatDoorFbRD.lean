/- Several texts as one: FlowRcnt, FlowRsca. -/
import Derived.Test.YteokhnielbmifaaGreatDoorFlowRright
import Derived.Test.YteokhnielbmifaaGreatDoorFlowRmany
import Derived.Test.YteokhnielbmifaaGreatDoorFbQ
import Derived.Test.YteokhnielbmifaaGreatDoorFlowRtext
import Derived.Test.YteokhnielbmifaaGreatDoorFbS
section
/- The document's Right. -/
namespace Go.Proofs.YteokhnielbmifaaGreatDoor.Flw
open Utf Rws Pln
open Go.RowKit
set_option linter.unusedSimpArgs false
set_option linter.unusedVariables false
set_option maxRecDepth 100000
set_option maxHeartbeats 2000000

theorem manyL_two (f c : Tr → Nat) : ∀ (ks : List Tr) (n : Nat), (∀ k ∈ ks, (c k ≤ 4096 → f k = c k) ∧ (4096 < c k → 4096 < f k)) →
    (n + (ks.map c).sum ≤ 4096 → manyL f ks n = n + (ks.map c).sum) ∧ (4096 < n + (ks.map c).sum → 4096 < manyL f ks n)
  | [], n, h => ⟨fun _ => rfl, fun h => h⟩
  | k :: ks, n, h => by
    have hk := h k (by simp)
    simp only [List.map_cons, List.sum_cons]
    rw [manyL]
    constructor
    · intro hs
      have e := hk.1 (by omega)
      have ih := (manyL_two f c ks (n + f k) (fun z hz => h z (by simp [hz]))).1
      rw [if_pos (by omega), ih (by omega)]
      omega
    · intro hs
      by_cases hn : n ≤ 4096
      · rw [if_pos hn]
        refine (manyL_two f c ks (n + f k) (fun z hz => h z (by simp [hz]))).2 ?_
        by_cases hc : c k ≤ 4096
        · have e := hk.1 hc
          omega
        · have e := hk.2 (by omega)
          omega
      · rw [if_neg hn]; omega
theorem kids_of_rgt {D : Nat} {t : Tr} (h : rgt (D + 1) t = true) : ∀ k ∈ t.kids, rgt D k = true := by
  unfold rgt rstep at h
  simp only [Bool.and_eq_true] at h
  have h2 := h.2
  by_cases c : t.kind ≠ 5 ∧ t.kind ≠ 6
  · rw [if_pos c] at h2
    have e : t.kids = [] := by simpa using h2
    rw [e]; intro k hk; cases hk
  · rw [if_neg c] at h2
    simp only [Bool.and_eq_true, List.all_eq_true] at h2
    exact h2.2
theorem kids_of_rgt0 {t : Tr} (h : rgt 0 t = true) : t.kids = [] := by
  unfold rgt rstep at h
  simp only [Bool.and_eq_true] at h
  have h2 := h.2
  by_cases c : t.kind ≠ 5 ∧ t.kind ≠ 6
  · rw [if_pos c] at h2
    simpa using h2
  · rw [if_neg c] at h2; cases h2
theorem manyT_two : ∀ (D d deep : Nat) (t : Tr), rgt D t = true → D + deep = 64 → D < d → (cntT D t ≤ 4096 → manyT d deep t = cntT D t) ∧ (4096 < cntT D t → 4096 < manyT d deep t)
  | 0, d + 1, deep, t, h, hd, hl => by
    have e := kids_of_rgt0 h
    have e1 : manyT (d + 1) deep t = 1 := by
      unfold manyT
      rw [e]
      split <;> rfl
    rw [e1]
    exact ⟨fun _ => rfl, fun h => absurd h (show ¬ 4096 < 1 by decide)⟩
  | D + 1, d + 1, deep, t, h, hd, hl => by
    have e1 : manyT (d + 1) deep t = manyL (fun k => manyT d (deep + 1) k) t.kids 1 := by
      rw [manyT, if_pos (by omega)]
    rw [e1]
    exact manyL_two _ (fun k => cntT D k) t.kids 1 (fun k hk => manyT_two D d (deep + 1) k (kids_of_rgt h k hk) (by omega) (by omega))
theorem rRight_any {d : Nat} {v : Value} {t : Tr} {w : World} (hd : 64 < d) (hb : brief d t) (h : TrV w d v t) : Calls Tryz.prog 13 #[v] w fun e w' => e = .returned (.bool (rgh d t)) ∧ Below w.heap.size w w' := by
  obtain ⟨ad, len, cap, hv⟩ := h.open4
  have b1 := below_alloc w (.cells #[.int .i64 t.kind, .string (mk t.text), .string (mk t.anc), .slice ad len cap] 24)
  have n1 := Bx.new w #[.int .i64 t.kind, .string (mk t.text), .string (mk t.anc), .slice ad len cap] 24
  have HM : Hid (Calls Tryz.prog 26 #[v, .int .i64 0] (w.alloc (.cells #[.int .i64 t.kind, .string (mk t.text), .string (mk t.anc), .slice ad len cap] 24)) fun e w' => e = .returned (.int .i64 (manyT d 0 t : Int)) ∧ Hid (Below w.heap.size w w' ∧ Bx w' w.heap.size #[.int .i64 t.kind, .string (mk t.text), .string (mk t.anc), .slice ad len cap] 24)) :=
    (rmany_any d v t 0 _ (h.later b1 (Nat.le_refl _)) (by omega)).mono (fun e w' g => ⟨g.1, b1.trans (g.2.mono b1.size), n1.later g.2⟩)
  have HR : Hid (∀ w1, Below w.heap.size w w1 → Calls Tryz.prog 27 #[v, .int .i64 0] w1 fun e w' => e = .returned (.bool (rgt 64 t)) ∧ Hid (Below w.heap.size w w')) := fun w1 c1 =>
    (rright_any d v t 0 w1 (h.later c1 (Nat.le_refl _)) hb (by omega)).mono (fun e w' g => by
      obtain ⟨q, e1, hq, hb2⟩ := g
      have e2 : q = rgt 64 t := by
        cases hr : rgt 64 t
        · cases q
          · rfl
          · have := hq.1 rfl; rw [Nat.sub_zero, hr] at this; cases this
        · exact hq.2 hr
      exact ⟨by rw [e1, e2], c1.trans (hb2.mono c1.size)⟩)
  have hml := manyT_le d 0 t
  have hg : rgh d t = (decide (manyT d 0 t ≤ 4096) && rgt 64 t) := by
    rw [rgh_iff hd]
    cases hr : rgt 64 t
    · simp
    · have h2 := manyT_two 64 d 0 t hr rfl hd
      by_cases hc : cntT 64 t ≤ 4096
      · rw [h2.1 hc]; simp [hc]
      · have := h2.2 (by omega)
        rw [decide_eq_false hc, decide_eq_false (by omega)]; rfl
  have HG : Hid (rgh d t = (decide (manyT d 0 t ≤ 4096) && rgt 64 t)) := hg
  clear h hb b1 n1 hg
  subst hv
  generalize manyT d 0 t = M at *
  generalize rgt 64 t = q at *
  generalize t.kind = k at *
  generalize t.text = x at *
  generalize t.anc = a at *
  obtain ⟨K0, hK0⟩ : ∃ K0, Hid (K0 = w.heap.size) := ⟨_, rfl⟩
  by_cases hm : M ≤ 4096
  · have HG2 : Hid (rgh d t = q) := by rw [HG.out, decide_eq_true hm]; exact Bool.true_and _
    clear HG
    go_enter Tryz.func13, Tryz.ntmps13
    go_wp2_with fail
    refine HM.out.mono ?_
    rintro e w1 ⟨rfl, H1⟩
    have c0 : w1.cell? ⟨w.heap.size, 0, none⟩ = some (.int .i64 k) := H1.out.2.cell 0
    have c1 : w1.cell? ⟨w.heap.size, 1, none⟩ = some (.string (mk x)) := H1.out.2.cell 1
    have c2 : w1.cell? ⟨w.heap.size, 2, none⟩ = some (.string (mk a)) := H1.out.2.cell 2
    have c3 : w1.cell? ⟨w.heap.size, 3, none⟩ = some (.slice ad len cap) := H1.out.2.cell 3
    have HR2 := HR.out w1 H1.out.1
    go_wp2_with fail
    refine HR2.mono ?_
    rintro e w2 ⟨rfl, H2⟩
    go_wp2
    go_ret
    exact ⟨by rw [HG2.out]; rfl, H2.out⟩
  · have HG2 : Hid (rgh d t = false) := by rw [HG.out, decide_eq_false hm]; exact Bool.false_and _
    have hm' : 4096 < M := by omega
    clear HG
    go_enter Tryz.func13, Tryz.ntmps13
    go_wp2_with fail
    refine HM.out.mono ?_
    rintro e w1 ⟨rfl, H1⟩
    go_wp2
    go_ret
    exact ⟨by rw [HG2.out]; rfl, H1.out.1⟩

end Go.Proofs.YteokhnielbmifaaGreatDoor.Flw
end

section
/- The document's Scalar. -/
namespace Go.Proofs.YteokhnielbmifaaGreatDoor.Flw
open Utf Rws Pln
open Go.RowKit
set_option linter.unusedSimpArgs false
set_option linter.unusedVariables false
set_option maxRecDepth 100000
set_option maxHeartbeats 4000000

variable {w : World} {k : Int} {x a : Ln} {ad : Option Addr} {len cap : Nat}
theorem rscal_any (f : Bool) (hx : x.length ≤ 65536) (hT : Tb w) : Calls Tryz.prog 17 #[tv k x a ad len cap, .bool f] w fun e w' => e = .returned (.string (mk (scl f k x))) ∧ Below w.heap.size w w' := by
  have b1 := below_alloc w (.cells #[.int .i64 k, .string (mk x), .string (mk a), .slice ad len cap] 24)
  by_cases h1 : k = 1
  · have HV : Hid (scl f k x = [110, 117, 108, 108]) := by unfold scl; rw [if_pos h1]; exact rfl
    subst h1
    clear hT b1
    go_enter Tryz.func17, Tryz.ntmps17
    go_wp2
    go_ret
    refine ⟨?_, below_alloc _ _⟩
    rw [HV.out]
    first | rfl | (simp; decide)
  by_cases h2 : k = 2 ∨ k = 3
  · have HV : Hid (scl f k x = x) := by unfold scl; rw [if_neg h1, if_pos h2]; exact rfl
    clear hT b1 h1
    rcases h2 with rfl | rfl <;>
    · go_enter Tryz.func17, Tryz.ntmps17
      go_wp2
      go_ret
      refine ⟨?_, below_alloc _ _⟩
      rw [HV.out]
      rfl
  by_cases h4 : k = 4
  · have HV : Hid (scl f k x = if isP x f = true ∧ knd x = 4 then x else Quo.dblS x) := by unfold scl; rw [if_neg h1, if_neg h2, if_pos h4]; exact rfl
    subst h4
    have hx0 := Bx.new w #[.int .i64 4, .string (mk x), .string (mk a), .slice ad len cap] 24
    obtain ⟨W, hW⟩ : ∃ W, w.alloc (.cells #[.int .i64 4, .string (mk x), .string (mk a), .slice ad len cap] 24) = W := ⟨_, rfl⟩
    rw [hW] at hx0 b1
    obtain ⟨K, hK⟩ : ∃ K, w.heap.size = K := ⟨_, rfl⟩
    rw [hK] at hx0
    have H0 : Hid (Bx W K #[.int .i64 4, .string (mk x), .string (mk a), .slice ad len cap] 24 ∧ Below w.heap.size w W ∧ Tb W) := ⟨hx0, b1, hT.later b1⟩
    have HI : Hid (∀ w', Hid (Bx w' K #[.int .i64 4, .string (mk x), .string (mk a), .slice ad len cap] 24 ∧ Below w.heap.size w w' ∧ Tb w') → Calls Tryz.prog 32 #[.string (mk x), .bool f] w' fun e w'' => e = .returned (.bool (isP x f)) ∧ Hid (Bx w'' K #[.int .i64 4, .string (mk x), .string (mk a), .slice ad len cap] 24 ∧ Below w.heap.size w w'' ∧ Tb w'')) := fun w' h => (ris_any x f _ (by omega)).mono (fun e w'' g => ⟨g.1, ⟨h.out.1.later g.2, h.out.2.1.trans (g.2.mono h.out.2.1.size), h.out.2.2.later g.2⟩⟩)
    have HR : Hid (∀ w', Hid (Bx w' K #[.int .i64 4, .string (mk x), .string (mk a), .slice ad len cap] 24 ∧ Below w.heap.size w w' ∧ Tb w') → Calls Tryz.prog 33 #[.string (mk x)] w' fun e w'' => e = .returned (.int .i64 (knd x)) ∧ Hid (Bx w'' K #[.int .i64 4, .string (mk x), .string (mk a), .slice ad len cap] 24 ∧ Below w.heap.size w w'' ∧ Tb w'')) := fun w' h => (rresolve_any x _ (by omega)).mono (fun e w'' g => ⟨g.1, ⟨h.out.1.later g.2, h.out.2.1.trans (g.2.mono h.out.2.1.size), h.out.2.2.later g.2⟩⟩)
    have HD : Hid (∀ w', Hid (Bx w' K #[.int .i64 4, .string (mk x), .string (mk a), .slice ad len cap] 24 ∧ Below w.heap.size w w' ∧ Tb w') → Calls Tryz.prog 34 #[.string (mk x)] w' fun e w'' => e = .returned (.tuple #[.string (mk (Quo.dblS x)), .int .i64 (Quo.dblE x)]) ∧ Hid (Bx w'' K #[.int .i64 4, .string (mk x), .string (mk a), .slice ad len cap] 24 ∧ Below w.heap.size w w'' ∧ Tb w'')) := fun w' h => (Quo.rdouble_any x _ (by omega)).mono (fun e w'' g => ⟨g.1, ⟨h.out.1.later g.2, h.out.2.1.trans (g.2.mono h.out.2.1.size), h.out.2.2.later g.2⟩⟩)
    have u0 : W.cell? ⟨K, 0, none⟩ = some (.int .i64 4) := hx0.cell 0
    have u1 : W.cell? ⟨K, 1, none⟩ = some (.string (mk x)) := hx0.cell 1
    clear hT b1 h1 h2 hx0
    generalize knd x = kx at *
    generalize Quo.dblS x = ds at *
    generalize Quo.dblE x = de at *
    go_enter Tryz.func17, Tryz.ntmps17
    go_upto_region 1 with fail
    cases hip : isP x f
    · rw [hip] at HI HV
      go_wp2_with (first | (go_at_call 32; refine (HI.out _ H0).mono ?_; rintro e w5 ⟨rfl, H5⟩; have v1 : w5.cell? ⟨K, 1, none⟩ = some (.string (mk x)) := H5.out.1.cell 1) | (go_at_call 34; refine (HD.out _ H5).mono ?_; rintro e w7 ⟨rfl, H7⟩))
      go_ret
      refine ⟨?_, hK ▸ H7.out.2.1⟩
      rw [HV.out, if_neg (fun h => Bool.noConfusion h.1)]
      rfl
    rw [hip] at HI HV
    by_cases hk : kx = 4
    · subst hk
      go_wp2_with (first | (go_at_call 32; refine (HI.out _ H0).mono ?_; rintro e w5 ⟨rfl, H5⟩; have v1 : w5.cell? ⟨K, 1, none⟩ = some (.string (mk x)) := H5.out.1.cell 1) | (go_at_call 33; refine (HR.out _ H5).mono ?_; rintro e w6 ⟨rfl, H6⟩; have z1 : w6.cell? ⟨K, 1, none⟩ = some (.string (mk x)) := H6.out.1.cell 1))
      go_ret
      refine ⟨?_, hK ▸ H6.out.2.1⟩
      rw [HV.out, if_pos (by simp)]
      rfl
    · have ek : (kx == 4) = false := by simpa using hk
      have HV2 : Hid (scl f 4 x = ds) := HV.out.trans (if_neg fun h => hk h.2)
      clear hk HV
      go_wp2_with (first | (go_at_call 32; refine (HI.out _ H0).mono ?_; rintro e w5 ⟨rfl, H5⟩; have v1 : w5.cell? ⟨K, 1, none⟩ = some (.string (mk x)) := H5.out.1.cell 1) | (go_at_call 33; refine (HR.out _ H5).mono ?_; rintro e w6 ⟨rfl, H6⟩; have z1 : w6.cell? ⟨K, 1, none⟩ = some (.string (mk x)) := H6.out.1.cell 1) | (go_at_call 34; refine (HD.out _ H6).mono ?_; rintro e w7 ⟨rfl, H7⟩))
      go_ret
      refine ⟨?_, hK ▸ H7.out.2.1⟩
      rw [HV2.out]
      rfl
  · have HV : Hid (scl f k x = []) := by unfold scl; rw [if_neg h1, if_neg h2, if_neg h4]; exact rfl
    have e1 : (k == 1) = false := by simpa using h1
    have e2 : (k == 2) = false := by simpa using fun e => h2 (.inl e)
    have e3 : (k == 3) = false := by simpa using fun e => h2 (.inr e)
    have e4 : (k == 4) = false := by simpa using h4
    clear h1 h2 h4 hT b1
    go_enter Tryz.func17, Tryz.ntmps17
    go_wp2
    go_ret
    exact ⟨by rw [HV.out]; rfl, below_alloc _ _⟩
end Go.Proofs.YteokhnielbmifaaGreatDoor.Flw
end
