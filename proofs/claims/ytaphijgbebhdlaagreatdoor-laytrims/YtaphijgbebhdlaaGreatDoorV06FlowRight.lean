/- Several texts as one: FlowRight. -/
import Derived.Test.YtaphijgbebhdlaaGreatDoorV05FlowCore
section
/- flow.rightText, rightAnchor, rightCount, rightAlone, isKeyPlace, isKey, by their contracts. -/
namespace Go.Proofs.YtaphijgbebhdlaaGreatDoor.Flw
open Utf Rws Pln
open Go.RowKit
set_option linter.unusedSimpArgs false
set_option linter.unusedVariables false
set_option maxRecDepth 100000
set_option maxHeartbeats 4000000

variable {w : World} {k : Int} {x a : Ln} {ad : Option Addr} {len cap : Nat}
/-- a tree's value, its parts told -/
abbrev tv (k : Int) (x a : Ln) (ad : Option Addr) (len cap : Nat) : Value := .agg #[.int .i64 k, .string (mk x), .string (mk a), .slice ad len cap]
def rtx (k : Int) (x : Ln) : Bool := if k = 1 ∨ k = 5 ∨ k = 6 ∨ k = 7 then x == [] else if k = 2 ∨ k = 3 then decide (knd x = k) else if k = 4 then (dec x).2.isNone else false
def ran (k : Int) (a : Ln) : Bool := if a = [] then decide (k ≠ 7) else isName a
def rct (k : Int) (n : Nat) : Bool := if k = 5 then true else if k = 6 then decide (n % 2 = 0) else decide (n = 0)
theorem rightText_any (hx : x.length ≤ 2147483648) (hT : Tb w) : Calls Tryz.prog 78 #[tv k x a ad len cap] w fun e w' => e = .returned (.bool (rtx k x)) ∧ Below w.heap.size w w' := by
  have b1 := below_alloc w (.cells #[.int .i64 k, .string (mk x), .string (mk a), .slice ad len cap] 29)
  have he : ((mk x).toList == []) = (x == []) := by rw [ByteArray.toList_eq, mk_data]
  by_cases h1 : k = 1 ∨ k = 5 ∨ k = 6 ∨ k = 7
  · have HV : Hid (rtx k x = (x == [])) := by unfold rtx; rw [if_pos h1]; exact rfl
    clear hT b1
    rcases h1 with rfl | rfl | rfl | rfl <;>
    · go_enter Tryz.func78, Tryz.ntmps78
      go_wp2
      go_ret
      refine ⟨?_, below_alloc _ _⟩
      rw [HV.out]
      cases x <;> rfl
  by_cases h2 : k = 2 ∨ k = 3
  · have HV : Hid (rtx k x = decide (knd x = k)) := by unfold rtx; rw [if_neg h1, if_pos h2]; exact rfl
    have hx0 := Bx.new w #[.int .i64 k, .string (mk x), .string (mk a), .slice ad len cap] 29
    obtain ⟨W, hW⟩ : ∃ W, w.alloc (.cells #[.int .i64 k, .string (mk x), .string (mk a), .slice ad len cap] 29) = W := ⟨_, rfl⟩
    rw [hW] at hx0 b1
    have HR : Hid (∀ q : QW W, Calls Tryz.prog 66 #[.string (mk x)] q.w fun e w' => e = .returned (.int .i64 (knd x)) ∧ Below q.w.heap.size q.w w') := fun q => resolve_any x _ (by omega) ((hT.later b1).later q.h).1
    have q0 : ∀ q : QW W, q.w.cell? ⟨w.heap.size, 0, none⟩ = some (.int .i64 k) := fun q => (hx0.later q.h).cell 0
    have q1 : ∀ q : QW W, q.w.cell? ⟨w.heap.size, 1, none⟩ = some (.string (mk x)) := fun q => (hx0.later q.h).cell 1
    have u0 : W.cell? ⟨w.heap.size, 0, none⟩ = some (.int .i64 k) := hx0.cell 0
    have HBW : Hid (∀ q : QW W, Below w.heap.size w q.w) := fun q => b1.trans (q.h.mono b1.size)
    have hNE : Nonempty (QW W) := ⟨⟨W, Below.refl _ _⟩⟩
    clear hT b1 h1 hx0
    generalize knd x = kx at *
    rcases h2 with rfl | rfl <;>
    · go_enter Tryz.func78, Tryz.ntmps78
      go_wp2
      clear hW
      refine wp_region_class (by kernel_rfl) (by kernel_rfl) ?_
      repeat (go_big_quiet_step (first | (go_at_call 66; refine calls_class _ (HR.out _))))
      refine wpQuiet_nil ?_
      intro _ hw'
      obtain ⟨q, hw''⟩ := hw'
      subst hw''
      have hbel := HBW.out q
      clear q0 q1
      go_wp2
      go_ret
      refine ⟨?_, hbel⟩
      rw [HV.out]
      first | rfl | (refine congrArg (fun q => Ending.returned (.bool q)) ?_; rw [Bool.eq_iff_iff]; simp)
  by_cases h4 : k = 4
  · subst h4
    have HV : Hid (rtx 4 x = (dec x).2.isNone) := by unfold rtx; rw [if_neg h1, if_neg h2, if_pos rfl]; exact rfl
    have hdl := dec_len x.length x (Nat.le_refl _)
    have HD : Hid (Calls Tryz.prog 86 #[.string (mk x)] (w.alloc (.cells #[.int .i64 4, .string (mk x), .string (mk a), .slice ad len cap] 29)) fun e w' => ∃ v, e = .returned (.tuple #[v, .agg #[.int .i64 (why (dec x).2), .int .i64 (pos (dec x).2)]]) ∧ Hid (Below w.heap.size w w')) := by
      have := decode_any (mk x) (w.alloc (.cells #[.int .i64 4, .string (mk x), .string (mk a), .slice ad len cap] 29)) (by rw [mk_size]; omega) (by rw [mk_data]; omega)
      rw [mk_data] at this
      exact this.mono (fun e w' ⟨v, h1, h2, h3⟩ => ⟨v, h1, b1.trans (h3.mono (by simp))⟩)
    clear hT b1 h1 h2 hdl
    cases hd : (dec x).2 with
    | none =>
      rw [hd] at HD HV
      go_enter Tryz.func78, Tryz.ntmps78
      go_wp2_with fail
      refine HD.out.mono ?_
      rintro e w3 ⟨v, rfl, hb⟩
      rw [show why none = 0 from rfl]
      generalize pos none = P0
      go_wp2
      go_ret
      refine ⟨by rw [HV.out]; rfl, ?_⟩
      exact hb.out.alloc hb.out.size _
    | some q =>
      rw [hd] at HD HV
      go_enter Tryz.func78, Tryz.ntmps78
      go_wp2_with fail
      refine HD.out.mono ?_
      rintro e w3 ⟨v, rfl, hb⟩
      rw [show why (some q) = 8 from rfl]
      generalize pos (some q) = P0
      go_wp2
      go_ret
      refine ⟨by rw [HV.out]; rfl, ?_⟩
      exact hb.out.alloc hb.out.size _
  · have HV : Hid (rtx k x = false) := by unfold rtx; rw [if_neg h1, if_neg h2, if_neg h4]; exact rfl
    have e1 : (k == 1) = false := by simpa using fun e => h1 (.inl e)
    have e5 : (k == 5) = false := by simpa using fun e => h1 (.inr (.inl e))
    have e6 : (k == 6) = false := by simpa using fun e => h1 (.inr (.inr (.inl e)))
    have e7 : (k == 7) = false := by simpa using fun e => h1 (.inr (.inr (.inr e)))
    have e2 : (k == 2) = false := by simpa using fun e => h2 (.inl e)
    have e3 : (k == 3) = false := by simpa using fun e => h2 (.inr e)
    have e4 : (k == 4) = false := by simpa using h4
    clear h1 h2 h4 hT b1
    go_enter Tryz.func78, Tryz.ntmps78
    go_wp2
    go_ret
    exact ⟨by rw [HV.out]; rfl, below_alloc _ _⟩
theorem rightAnchor_any (ha : a.length ≤ 2147483648) : Calls Tryz.prog 79 #[tv k x a ad len cap] w fun e w' => e = .returned (.bool (ran k a)) ∧ Below w.heap.size w w' := by
  have he : ((mk a).toList == []) = (a == []) := by rw [ByteArray.toList_eq, mk_data]
  by_cases h0 : a = []
  · have HV : Hid (ran k a = decide (k ≠ 7)) := by unfold ran; rw [if_pos h0]; exact rfl
    subst h0
    by_cases h7 : k = 7
    · subst h7
      go_enter Tryz.func79, Tryz.ntmps79
      go_wp2
      go_ret
      exact ⟨by rw [HV.out]; rfl, below_alloc _ _⟩
    · have e7 : (k != 7) = true := by simpa using h7
      have e8 : (k == 7) = false := by simpa using h7
      go_enter Tryz.func79, Tryz.ntmps79
      go_wp2
      go_ret
      exact ⟨by rw [HV.out, decide_eq_true h7]; rfl, below_alloc _ _⟩
  · have HV : Hid (ran k a = isName a) := by unfold ran; rw [if_neg h0]; exact rfl
    have he2 : (a == []) = false := by simpa using h0
    rw [he2] at he
    have HN : Hid (∀ w, Calls Tryz.prog 94 #[.string (mk a)] w fun e w' => e = .returned (.bool (isName a)) ∧ w = w') := fun w => name0_any a w (by omega)
    go_enter Tryz.func79, Tryz.ntmps79
    go_wp2_with (go_at_call 94; refine (HN.out _).mono ?_; rintro e w3 ⟨rfl, rfl⟩)
    go_ret
    exact ⟨by rw [HV.out]; rfl, below_alloc _ _⟩
theorem rightCount_any (hlen : len ≤ 9223372036854775807) : Calls Tryz.prog 80 #[tv k x a ad len cap] w fun e w' => e = .returned (.bool (rct k len)) ∧ Below w.heap.size w w' := by
  by_cases h5 : k = 5
  · subst h5
    go_enter Tryz.func80, Tryz.ntmps80
    go_wp2
    go_ret
    exact ⟨rfl, below_alloc _ _⟩
  have e5 : (k == 5) = false := by simpa using h5
  by_cases h6 : k = 6
  · subst h6
    have HV : Hid (rct 6 len = decide (len % 2 = 0)) := rfl
    go_enter Tryz.func80, Tryz.ntmps80
    go_wp2
    go_ret
    refine ⟨?_, below_alloc _ _⟩
    rw [HV.out]
    refine congrArg (fun q => Ending.returned (.bool q)) ?_
    rw [Bool.eq_iff_iff]
    simp
    omega
  · have e6 : (k == 6) = false := by simpa using h6
    have HV : Hid (rct k len = decide (len = 0)) := by unfold rct; rw [if_neg h5, if_neg h6]; exact rfl
    go_enter Tryz.func80, Tryz.ntmps80
    go_wp2
    go_ret
    refine ⟨?_, below_alloc _ _⟩
    rw [HV.out]
    refine congrArg (fun q => Ending.returned (.bool q)) ?_
    rw [Bool.eq_iff_iff]
    simp
def ral (k : Int) (x a : Ln) (n : Nat) : Bool := rtx k x && ran k a && rct k n
theorem rightAlone_any (hx : x.length ≤ 2147483648) (ha : a.length ≤ 2147483648) (hlen : len ≤ 9223372036854775807) (hT : Tb w) : Calls Tryz.prog 61 #[tv k x a ad len cap] w fun e w' => e = .returned (.bool (ral k x a len)) ∧ Below w.heap.size w w' := by
  have b1 := below_alloc w (.cells #[.int .i64 k, .string (mk x), .string (mk a), .slice ad len cap] 29)
  have hx0 := Bx.new w #[.int .i64 k, .string (mk x), .string (mk a), .slice ad len cap] 29
  obtain ⟨W, hW⟩ : ∃ W, w.alloc (.cells #[.int .i64 k, .string (mk x), .string (mk a), .slice ad len cap] 29) = W := ⟨_, rfl⟩
  rw [hW] at hx0 b1
  have H1 : Hid (Calls Tryz.prog 78 #[.agg #[.int .i64 k, .string (mk x), .string (mk a), .slice ad len cap]] W fun e w' => e = .returned (.bool (rtx k x)) ∧ Hid (Below w.heap.size w w') ∧ w'.cell? ⟨w.heap.size, 0, none⟩ = some (.int .i64 k) ∧ w'.cell? ⟨w.heap.size, 1, none⟩ = some (.string (mk x)) ∧ w'.cell? ⟨w.heap.size, 2, none⟩ = some (.string (mk a)) ∧ w'.cell? ⟨w.heap.size, 3, none⟩ = some (.slice ad len cap)) :=
    (rightText_any hx (hT.later b1)).mono (fun e w' h => ⟨h.1, b1.trans (h.2.mono b1.size), (hx0.later h.2).cell 0, (hx0.later h.2).cell 1, (hx0.later h.2).cell 2, (hx0.later h.2).cell 3⟩)
  have H2 : Hid (∀ w1, Hid (Below w.heap.size w w1) → w1.cell? ⟨w.heap.size, 0, none⟩ = some (.int .i64 k) → w1.cell? ⟨w.heap.size, 1, none⟩ = some (.string (mk x)) → w1.cell? ⟨w.heap.size, 2, none⟩ = some (.string (mk a)) → w1.cell? ⟨w.heap.size, 3, none⟩ = some (.slice ad len cap) → Calls Tryz.prog 79 #[.agg #[.int .i64 k, .string (mk x), .string (mk a), .slice ad len cap]] w1 fun e w' => e = .returned (.bool (ran k a)) ∧ Hid (Below w.heap.size w w') ∧ w'.cell? ⟨w.heap.size, 0, none⟩ = some (.int .i64 k) ∧ w'.cell? ⟨w.heap.size, 1, none⟩ = some (.string (mk x)) ∧ w'.cell? ⟨w.heap.size, 2, none⟩ = some (.string (mk a)) ∧ w'.cell? ⟨w.heap.size, 3, none⟩ = some (.slice ad len cap)) := fun w1 hb g0 g1 g2 g3 =>
    (rightAnchor_any ha).mono (fun e w' h => ⟨h.1, hb.out.trans (h.2.mono hb.out.size), (h.2.cell (p := ⟨w.heap.size, 0, none⟩) (World.block_lt_of_cell? w1 _ g0)).trans g0, (h.2.cell (p := ⟨w.heap.size, 1, none⟩) (World.block_lt_of_cell? w1 _ g1)).trans g1, (h.2.cell (p := ⟨w.heap.size, 2, none⟩) (World.block_lt_of_cell? w1 _ g2)).trans g2, (h.2.cell (p := ⟨w.heap.size, 3, none⟩) (World.block_lt_of_cell? w1 _ g3)).trans g3⟩)
  have H3 : Hid (∀ w1, Hid (Below w.heap.size w w1) → Calls Tryz.prog 80 #[.agg #[.int .i64 k, .string (mk x), .string (mk a), .slice ad len cap]] w1 fun e w' => e = .returned (.bool (rct k len)) ∧ Hid (Below w.heap.size w w')) := fun w1 hb => (rightCount_any hlen).mono (fun e w' h => ⟨h.1, hb.out.trans (h.2.mono hb.out.size)⟩)
  have u0 : W.cell? ⟨w.heap.size, 0, none⟩ = some (.int .i64 k) := hx0.cell 0
  have u1 : W.cell? ⟨w.heap.size, 1, none⟩ = some (.string (mk x)) := hx0.cell 1
  have u2 : W.cell? ⟨w.heap.size, 2, none⟩ = some (.string (mk a)) := hx0.cell 2
  have u3 : W.cell? ⟨w.heap.size, 3, none⟩ = some (.slice ad len cap) := hx0.cell 3
  have HV : Hid (ral k x a len = (rtx k x && ran k a && rct k len)) := rfl
  clear hT b1 hx0 hx ha
  generalize rtx k x = R1 at *
  generalize ran k a = R2 at *
  generalize rct k len = R3 at *
  generalize ral k x a len = R0 at *
  cases R1
  · go_enter Tryz.func61, Tryz.ntmps61
    go_wp2_with (go_at_call 78; refine H1.out.mono ?_; rintro e w3 ⟨rfl, hb, g0, g1, g2, g3⟩)
    go_ret
    exact ⟨by rw [HV.out]; rfl, hb.out⟩
  cases R2
  · go_enter Tryz.func61, Tryz.ntmps61
    go_wp2_with (first | (go_at_call 78; refine H1.out.mono ?_; rintro e w3 ⟨rfl, hb, g0, g1, g2, g3⟩) | (go_at_call 79; refine (H2.out _ hb g0 g1 g2 g3).mono ?_; clear hb g0 g1 g2 g3; rintro e w4 ⟨rfl, hb, g0, g1, g2, g3⟩))
    go_ret
    exact ⟨by rw [HV.out]; rfl, hb.out⟩
  · go_enter Tryz.func61, Tryz.ntmps61
    go_wp2_with (first | (go_at_call 78; refine H1.out.mono ?_; rintro e w3 ⟨rfl, hb, g0, g1, g2, g3⟩) | (go_at_call 79; refine (H2.out _ hb g0 g1 g2 g3).mono ?_; clear hb g0 g1 g2 g3; rintro e w4 ⟨rfl, hb, g0, g1, g2, g3⟩) | (go_at_call 80; refine (H3.out _ hb).mono ?_; rintro e w5 ⟨rfl, hb5⟩))
    go_ret
    exact ⟨by rw [HV.out]; rfl, hb5.out⟩
theorem isKeyPlace_any (i : Nat) (hi : i ≤ 9223372036854775807) : Calls Tryz.prog 62 #[tv k x a ad len cap, .int .i64 (i : Int)] w fun e w' => e = .returned (.bool (decide (k = 6) && decide (i % 2 = 0))) ∧ Below w.heap.size w w' := by
  by_cases h6 : k = 6
  · subst h6
    go_enter Tryz.func62, Tryz.ntmps62
    go_wp2
    go_ret
    refine ⟨?_, below_alloc _ _⟩
    refine congrArg (fun q => Ending.returned (.bool q)) ?_
    rw [Bool.eq_iff_iff]
    simp
    omega
  · have e6 : (k == 6) = false := by simpa using h6
    go_enter Tryz.func62, Tryz.ntmps62
    go_wp2
    go_ret
    exact ⟨by rw [decide_eq_false h6]; rfl, below_alloc _ _⟩
def kyl (k : Int) (a : Ln) : Bool := decide (1 ≤ k) && decide (k ≤ 4) && a == []
theorem isKey_any : Calls Tryz.prog 63 #[tv k x a ad len cap] w fun e w' => e = .returned (.bool (kyl k a)) ∧ Below w.heap.size w w' := by
  by_cases h : 1 ≤ k ∧ k ≤ 4
  · have HV : Hid (kyl k a = (a == [])) := by unfold kyl; rw [decide_eq_true h.1, decide_eq_true h.2]; exact rfl
    have hk : k = 1 ∨ k = 2 ∨ k = 3 ∨ k = 4 := by omega
    have he : ((mk a).toList == []) = (a == []) := by rw [ByteArray.toList_eq, mk_data]
    clear h
    rcases hk with rfl | rfl | rfl | rfl <;>
    · go_enter Tryz.func63, Tryz.ntmps63
      go_wp2
      go_ret
      refine ⟨?_, below_alloc _ _⟩
      rw [HV.out]
      cases a <;> rfl
  · have HV : Hid (kyl k a = false) := by
      unfold kyl
      by_cases h1 : 1 ≤ k
      · rw [decide_eq_false (show ¬ k ≤ 4 from fun h4 => h ⟨h1, h4⟩)]; simp [Hid]
      · rw [decide_eq_false h1]; exact rfl
    have e1 : (k == 1) = false := by simp; omega
    have e2 : (k == 2) = false := by simp; omega
    have e3 : (k == 3) = false := by simp; omega
    have e4 : (k == 4) = false := by simp; omega
    clear h
    go_enter Tryz.func63, Tryz.ntmps63
    go_wp2
    go_ret
    exact ⟨by rw [HV.out]; rfl, below_alloc _ _⟩
end Go.Proofs.YtaphijgbebhdlaaGreatDoor.Flw
end
