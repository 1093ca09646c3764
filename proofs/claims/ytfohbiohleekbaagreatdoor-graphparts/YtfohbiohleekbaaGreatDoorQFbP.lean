/- Several texts as one: FlowRight, FlowTree, FlowFine. -/
import Derived.Test.YtfohbiohleekbaaGreatDoorQFbO
import Derived.Test.YtfohbiohleekbaaGreatDoorQFbJ
import Derived.Maps.AppendAt
import Derived.Test.YtfohbiohleekbaaGreatDoorQFbE
import Derived.Deep.RegionWith
section
/- . -/
namespace Go.Proofs.YtfohbiohleekbaaGreatDoor.Flw
open Utf Rws Pln
open Go.RowKit
set_option linter.unusedSimpArgs false
set_option linter.unusedVariables false
set_option maxRecDepth 100000
set_option maxHeartbeats 4000000
variable {w : World} {k : Int} {x a : Ln} {ad : Option Addr} {len cap : Nat}
abbrev tv (k : Int) (x a : Ln) (ad : Option Addr) (len cap : Nat) : Value := .agg #[.int .i64 k, .string (mk x), .string (mk a), .slice ad len cap]
def rtx (k : Int) (x : Ln) : Bool := if k = 1 ∨ k = 5 ∨ k = 6 ∨ k = 7 then x == [] else if k = 2 ∨ k = 3 then decide (knd x = k) else if k = 4 then (dec x).2.isNone else false
def ran (k : Int) (a : Ln) : Bool := if a = [] then decide (k ≠ 7) else isName a
def rct (k : Int) (n : Nat) : Bool := if k = 5 then true else if k = 6 then decide (n % 2 = 0) else decide (n = 0)
theorem rightText_any (hx : x.length ≤ 2147483648) (hT : Tb w) : Calls Tryz.prog 94 #[tv k x a ad len cap] w fun e w' => e = .returned (.bool (rtx k x)) ∧ Below w.heap.size w w' := by
 have b1 := below_alloc w (.cells #[.int .i64 k, .string (mk x), .string (mk a), .slice ad len cap] 24)
 have he : ((mk x).toList == []) = (x == []) := by rw [ByteArray.toList_eq, mk_data]
 by_cases h1 : k = 1 ∨ k = 5 ∨ k = 6 ∨ k = 7
 ·have HV : Hid (rtx k x = (x == [])) := by unfold rtx; rw [if_pos h1]; exact rfl
  clear hT b1
  rcases h1 with rfl | rfl | rfl | rfl <;>
  ·go_enter Tryz.func94, Tryz.ntmps94
   go_wp2
   go_ret
   refine ⟨?_, below_alloc _ _⟩
   rw [HV.out]
   cases x <;> rfl
 by_cases h2 : k = 2 ∨ k = 3
 ·have HV : Hid (rtx k x = decide (knd x = k)) := by unfold rtx; rw [if_neg h1, if_pos h2]; exact rfl
  have hx0 := Bx.new w #[.int .i64 k, .string (mk x), .string (mk a), .slice ad len cap] 24
  obtain ⟨W, hW⟩ : ∃ W, w.alloc (.cells #[.int .i64 k, .string (mk x), .string (mk a), .slice ad len cap] 24) = W := ⟨_, rfl⟩
  rw [hW] at hx0 b1
  have HR : Hid (∀ q : QW W, Calls Tryz.prog 114 #[.string (mk x)] q.w fun e w' => e = .returned (.int .i64 (knd x)) ∧ Below q.w.heap.size q.w w') := fun q => resolve_any x _ (by omega) ((hT.later b1).later q.h).1
  have q0 : ∀ q : QW W, q.w.cell? ⟨w.heap.size, 0, none⟩ = some (.int .i64 k) := fun q => (hx0.later q.h).cell 0
  have q1 : ∀ q : QW W, q.w.cell? ⟨w.heap.size, 1, none⟩ = some (.string (mk x)) := fun q => (hx0.later q.h).cell 1
  have u0 : W.cell? ⟨w.heap.size, 0, none⟩ = some (.int .i64 k) := hx0.cell 0
  have HBW : Hid (∀ q : QW W, Below w.heap.size w q.w) := fun q => b1.trans (q.h.mono b1.size)
  have hNE : Nonempty (QW W) := ⟨⟨W, Below.refl _ _⟩⟩
  clear hT b1 h1 hx0
  generalize knd x = kx at *
  rcases h2 with rfl | rfl <;>
  ·go_enter Tryz.func94, Tryz.ntmps94
   go_wp2
   clear hW
   refine wp_region_class (by kernel_rfl) (by kernel_rfl) ?_
   repeat (go_big_quiet_step (first | (go_at_call 114; refine calls_class _ (HR.out _))))
   refine wpQuiet_nil ?_
   intro _ hw'
   obtain ⟨q, hw''⟩ := hw'
   subst hw''
   have hbel := HBW.out q
   clear q0 q1
   go_wp2
   go_ret
   refine ⟨?_, hbel⟩
   rw [HV.out]
   first | rfl | (refine congrArg (fun q => Ending.returned (.bool q)) ?_; rw [Bool.eq_iff_iff]; simp)
 by_cases h4 : k = 4
 ·subst h4
  have HV : Hid (rtx 4 x = (dec x).2.isNone) := by unfold rtx; rw [if_neg h1, if_neg h2, if_pos rfl]; exact rfl
  have hdl := dec_len x.length x (Nat.le_refl _)
  have HD : Hid (Calls Tryz.prog 115 #[.string (mk x)] (w.alloc (.cells #[.int .i64 4, .string (mk x), .string (mk a), .slice ad len cap] 24)) fun e w' => ∃ v, e = .returned (.tuple #[v, .agg #[.int .i64 (why (dec x).2), .int .i64 (pos (dec x).2)]]) ∧ Hid (Below w.heap.size w w')) := by
   have := decode_any (mk x) (w.alloc (.cells #[.int .i64 4, .string (mk x), .string (mk a), .slice ad len cap] 24)) (by rw [mk_size]; omega) (by rw [mk_data]; omega)
   rw [mk_data] at this
   exact this.mono (fun e w' ⟨v, h1, h2, h3⟩ => ⟨v, h1, b1.trans (h3.mono (by simp))⟩)
  clear hT b1 h1 h2 hdl
  cases hd : (dec x).2 with
  | none =>
   rw [hd] at HD HV
   go_enter Tryz.func94, Tryz.ntmps94
   go_wp2_with fail
   refine HD.out.mono ?_
   rintro e w3 ⟨v, rfl, hb⟩
   rw [show why none = 0 from rfl]
   generalize pos none = P0
   go_wp2
   go_ret
   refine ⟨by rw [HV.out]; rfl, ?_⟩
   exact hb.out.alloc hb.out.size _
  | some q =>
   rw [hd] at HD HV
   go_enter Tryz.func94, Tryz.ntmps94
   go_wp2_with fail
   refine HD.out.mono ?_
   rintro e w3 ⟨v, rfl, hb⟩
   rw [show why (some q) = 8 from rfl]
   generalize pos (some q) = P0
   go_wp2
   go_ret
   refine ⟨by rw [HV.out]; rfl, ?_⟩
   exact hb.out.alloc hb.out.size _
 ·have HV : Hid (rtx k x = false) := by unfold rtx; rw [if_neg h1, if_neg h2, if_neg h4]; exact rfl
  have e1 : (k == 1) = false := by simpa using fun e => h1 (.inl e)
  have e5 : (k == 5) = false := by simpa using fun e => h1 (.inr (.inl e))
  have e6 : (k == 6) = false := by simpa using fun e => h1 (.inr (.inr (.inl e)))
  have e7 : (k == 7) = false := by simpa using fun e => h1 (.inr (.inr (.inr e)))
  have e2 : (k == 2) = false := by simpa using fun e => h2 (.inl e)
  have e3 : (k == 3) = false := by simpa using fun e => h2 (.inr e)
  have e4 : (k == 4) = false := by simpa using h4
  clear h1 h2 h4 hT b1
  go_enter Tryz.func94, Tryz.ntmps94
  go_wp2
  go_ret
  exact ⟨by rw [HV.out]; rfl, below_alloc _ _⟩
theorem rightAnchor_any (ha : a.length ≤ 2147483648) : Calls Tryz.prog 95 #[tv k x a ad len cap] w fun e w' => e = .returned (.bool (ran k a)) ∧ Below w.heap.size w w' := by
 have he : ((mk a).toList == []) = (a == []) := by rw [ByteArray.toList_eq, mk_data]
 by_cases h0 : a = []
 ·have HV : Hid (ran k a = decide (k ≠ 7)) := by unfold ran; rw [if_pos h0]; exact rfl
  subst h0
  by_cases h7 : k = 7
  ·subst h7
   go_enter Tryz.func95, Tryz.ntmps95
   go_wp2
   go_ret
   exact ⟨by rw [HV.out]; rfl, below_alloc _ _⟩
  ·have e7 : (k != 7) = true := by simpa using h7
   have e8 : (k == 7) = false := by simpa using h7
   go_enter Tryz.func95, Tryz.ntmps95
   go_wp2
   go_ret
   exact ⟨by rw [HV.out, decide_eq_true h7]; rfl, below_alloc _ _⟩
 ·have HV : Hid (ran k a = isName a) := by unfold ran; rw [if_neg h0]; exact rfl
  have he2 : (a == []) = false := by simpa using h0
  rw [he2] at he
  have HN : Hid (∀ w, Calls Tryz.prog 116 #[.string (mk a)] w fun e w' => e = .returned (.bool (isName a)) ∧ w = w') := fun w => name0_any a w (by omega)
  go_enter Tryz.func95, Tryz.ntmps95
  go_wp2_with (go_at_call 116; refine (HN.out _).mono ?_; rintro e w3 ⟨rfl, rfl⟩)
  go_ret
  exact ⟨by rw [HV.out]; rfl, below_alloc _ _⟩
theorem rightCount_any (hlen : len ≤ 9223372036854775807) : Calls Tryz.prog 96 #[tv k x a ad len cap] w fun e w' => e = .returned (.bool (rct k len)) ∧ Below w.heap.size w w' := by
 by_cases h5 : k = 5
 ·subst h5
  go_enter Tryz.func96, Tryz.ntmps96
  go_wp2
  go_ret
  exact ⟨rfl, below_alloc _ _⟩
 have e5 : (k == 5) = false := by simpa using h5
 by_cases h6 : k = 6
 ·subst h6
  have HV : Hid (rct 6 len = decide (len % 2 = 0)) := rfl
  go_enter Tryz.func96, Tryz.ntmps96
  go_wp2
  go_ret
  refine ⟨?_, below_alloc _ _⟩
  rw [HV.out]
  refine congrArg (fun q => Ending.returned (.bool q)) ?_
  rw [Bool.eq_iff_iff]
  simp
  omega
 ·have e6 : (k == 6) = false := by simpa using h6
  have HV : Hid (rct k len = decide (len = 0)) := by unfold rct; rw [if_neg h5, if_neg h6]; exact rfl
  go_enter Tryz.func96, Tryz.ntmps96
  go_wp2
  go_ret
  refine ⟨?_, below_alloc _ _⟩
  rw [HV.out]
  refine congrArg (fun q => Ending.returned (.bool q)) ?_
  rw [Bool.eq_iff_iff]
  simp
def ral (k : Int) (x a : Ln) (n : Nat) : Bool := rtx k x && ran k a && rct k n
theorem rightAlone_any (hx : x.length ≤ 2147483648) (ha : a.length ≤ 2147483648) (hlen : len ≤ 9223372036854775807) (hT : Tb w) : Calls Tryz.prog 72 #[tv k x a ad len cap] w fun e w' => e = .returned (.bool (ral k x a len)) ∧ Below w.heap.size w w' := by
 have b1 := below_alloc w (.cells #[.int .i64 k, .string (mk x), .string (mk a), .slice ad len cap] 24)
 have hx0 := Bx.new w #[.int .i64 k, .string (mk x), .string (mk a), .slice ad len cap] 24
 obtain ⟨W, hW⟩ : ∃ W, w.alloc (.cells #[.int .i64 k, .string (mk x), .string (mk a), .slice ad len cap] 24) = W := ⟨_, rfl⟩
 rw [hW] at hx0 b1
 have H1 : Hid (Calls Tryz.prog 94 #[.agg #[.int .i64 k, .string (mk x), .string (mk a), .slice ad len cap]] W fun e w' => e = .returned (.bool (rtx k x)) ∧ Hid (Below w.heap.size w w') ∧ w'.cell? ⟨w.heap.size, 0, none⟩ = some (.int .i64 k) ∧ w'.cell? ⟨w.heap.size, 1, none⟩ = some (.string (mk x)) ∧ w'.cell? ⟨w.heap.size, 2, none⟩ = some (.string (mk a)) ∧ w'.cell? ⟨w.heap.size, 3, none⟩ = some (.slice ad len cap)) :=
  (rightText_any hx (hT.later b1)).mono (fun e w' h => ⟨h.1, b1.trans (h.2.mono b1.size), (hx0.later h.2).cell 0, (hx0.later h.2).cell 1, (hx0.later h.2).cell 2, (hx0.later h.2).cell 3⟩)
 have H2 : Hid (∀ w1, Hid (Below w.heap.size w w1) → w1.cell? ⟨w.heap.size, 0, none⟩ = some (.int .i64 k) → w1.cell? ⟨w.heap.size, 1, none⟩ = some (.string (mk x)) → w1.cell? ⟨w.heap.size, 2, none⟩ = some (.string (mk a)) → w1.cell? ⟨w.heap.size, 3, none⟩ = some (.slice ad len cap) → Calls Tryz.prog 95 #[.agg #[.int .i64 k, .string (mk x), .string (mk a), .slice ad len cap]] w1 fun e w' => e = .returned (.bool (ran k a)) ∧ Hid (Below w.heap.size w w') ∧ w'.cell? ⟨w.heap.size, 0, none⟩ = some (.int .i64 k) ∧ w'.cell? ⟨w.heap.size, 1, none⟩ = some (.string (mk x)) ∧ w'.cell? ⟨w.heap.size, 2, none⟩ = some (.string (mk a)) ∧ w'.cell? ⟨w.heap.size, 3, none⟩ = some (.slice ad len cap)) := fun w1 hb g0 g1 g2 g3 =>
  (rightAnchor_any ha).mono (fun e w' h => ⟨h.1, hb.out.trans (h.2.mono hb.out.size), (h.2.cell (p := ⟨w.heap.size, 0, none⟩) (World.block_lt_of_cell? w1 _ g0)).trans g0, (h.2.cell (p := ⟨w.heap.size, 1, none⟩) (World.block_lt_of_cell? w1 _ g1)).trans g1, (h.2.cell (p := ⟨w.heap.size, 2, none⟩) (World.block_lt_of_cell? w1 _ g2)).trans g2, (h.2.cell (p := ⟨w.heap.size, 3, none⟩) (World.block_lt_of_cell? w1 _ g3)).trans g3⟩)
 have H3 : Hid (∀ w1, Hid (Below w.heap.size w w1) → Calls Tryz.prog 96 #[.agg #[.int .i64 k, .string (mk x), .string (mk a), .slice ad len cap]] w1 fun e w' => e = .returned (.bool (rct k len)) ∧ Hid (Below w.heap.size w w')) := fun w1 hb => (rightCount_any hlen).mono (fun e w' h => ⟨h.1, hb.out.trans (h.2.mono hb.out.size)⟩)
 have u0 : W.cell? ⟨w.heap.size, 0, none⟩ = some (.int .i64 k) := hx0.cell 0
 have u1 : W.cell? ⟨w.heap.size, 1, none⟩ = some (.string (mk x)) := hx0.cell 1
 have u2 : W.cell? ⟨w.heap.size, 2, none⟩ = some (.string (mk a)) := hx0.cell 2
 have u3 : W.cell? ⟨w.heap.size, 3, none⟩ = some (.slice ad len cap) := hx0.cell 3
 have HV : Hid (ral k x a len = (rtx k x && ran k a && rct k len)) := rfl
 clear hT b1 hx0 hx ha
 generalize rtx k x = R1 at *
 generalize ran k a = R2 at *
 generalize rct k len = R3 at *
 generalize ral k x a len = R0 at *
 cases R1
 ·go_enter Tryz.func72, Tryz.ntmps72
  go_wp2_with (go_at_call 94; refine H1.out.mono ?_; rintro e w3 ⟨rfl, hb, g0, g1, g2, g3⟩)
  go_ret
  exact ⟨by rw [HV.out]; rfl, hb.out⟩
 cases R2
 ·go_enter Tryz.func72, Tryz.ntmps72
  go_wp2_with (first | (go_at_call 94; refine H1.out.mono ?_; rintro e w3 ⟨rfl, hb, g0, g1, g2, g3⟩) | (go_at_call 95; refine (H2.out _ hb g0 g1 g2 g3).mono ?_; clear hb g0 g1 g2 g3; rintro e w4 ⟨rfl, hb, g0, g1, g2, g3⟩))
  go_ret
  exact ⟨by rw [HV.out]; rfl, hb.out⟩
 ·go_enter Tryz.func72, Tryz.ntmps72
  go_wp2_with (first | (go_at_call 94; refine H1.out.mono ?_; rintro e w3 ⟨rfl, hb, g0, g1, g2, g3⟩) | (go_at_call 95; refine (H2.out _ hb g0 g1 g2 g3).mono ?_; clear hb g0 g1 g2 g3; rintro e w4 ⟨rfl, hb, g0, g1, g2, g3⟩) | (go_at_call 96; refine (H3.out _ hb).mono ?_; rintro e w5 ⟨rfl, hb5⟩))
  go_ret
  exact ⟨by rw [HV.out]; rfl, hb5.out⟩
theorem isKeyPlace_any (i : Nat) (hi : i ≤ 9223372036854775807) : Calls Tryz.prog 73 #[tv k x a ad len cap, .int .i64 (i : Int)] w fun e w' => e = .returned (.bool (decide (k = 6) && decide (i % 2 = 0))) ∧ Below w.heap.size w w' := by
 by_cases h6 : k = 6
 ·subst h6
  go_enter Tryz.func73, Tryz.ntmps73
  go_wp2
  go_ret
  refine ⟨?_, below_alloc _ _⟩
  refine congrArg (fun q => Ending.returned (.bool q)) ?_
  rw [Bool.eq_iff_iff]
  simp
  omega
 ·have e6 : (k == 6) = false := by simpa using h6
  go_enter Tryz.func73, Tryz.ntmps73
  go_wp2
  go_ret
  exact ⟨by rw [decide_eq_false h6]; rfl, below_alloc _ _⟩
def kyl (k : Int) (a : Ln) : Bool := decide (1 ≤ k) && decide (k ≤ 4) && a == []
theorem isKey_any : Calls Tryz.prog 74 #[tv k x a ad len cap] w fun e w' => e = .returned (.bool (kyl k a)) ∧ Below w.heap.size w w' := by
 by_cases h : 1 ≤ k ∧ k ≤ 4
 ·have HV : Hid (kyl k a = (a == [])) := by unfold kyl; rw [decide_eq_true h.1, decide_eq_true h.2]; exact rfl
  have hk : k = 1 ∨ k = 2 ∨ k = 3 ∨ k = 4 := by omega
  have he : ((mk a).toList == []) = (a == []) := by rw [ByteArray.toList_eq, mk_data]
  clear h
  rcases hk with rfl | rfl | rfl | rfl <;>
  ·go_enter Tryz.func74, Tryz.ntmps74
   go_wp2
   go_ret
   refine ⟨?_, below_alloc _ _⟩
   rw [HV.out]
   cases a <;> rfl
 ·have HV : Hid (kyl k a = false) := by
   unfold kyl
   by_cases h1 : 1 ≤ k
   ·rw [decide_eq_false (show ¬ k ≤ 4 from fun h4 => h ⟨h1, h4⟩)]; simp [Hid]
   ·rw [decide_eq_false h1]; exact rfl
  have e1 : (k == 1) = false := by simp; omega
  have e2 : (k == 2) = false := by simp; omega
  have e3 : (k == 3) = false := by simp; omega
  have e4 : (k == 4) = false := by simp; omega
  clear h
  go_enter Tryz.func74, Tryz.ntmps74
  go_wp2
  go_ret
  exact ⟨by rw [HV.out]; rfl, below_alloc _ _⟩
end Go.Proofs.YtfohbiohleekbaaGreatDoor.Flw
end

section
/- . -/
namespace Go.Proofs.YtfohbiohleekbaaGreatDoor.Flw
open Utf Rws Pln
open Go.RowKit
set_option linter.unusedSimpArgs false
set_option linter.unusedVariables false
set_option maxRecDepth 100000
variable {b c p dp : Nat} {s : Ln} {w w1 w2 : World}
def TrQ (P : Nat → Prop) (w : World) : Nat → Value → Tr → Prop
 | 0, _, _ => False
 | d + 1, v, t => ∃ ad len cap, v = .agg #[.int .i64 t.kind, .string (mk t.text), .string (mk t.anc), .slice ad len cap] ∧ len = t.kids.length ∧ len ≤ cap ∧ cap ≤ maxLen ∧ (-9223372036854775808 ≤ t.kind ∧ t.kind ≤ 9223372036854775807 ∧ t.text.length ≤ 9223372036854775807 ∧ t.anc.length ≤ 9223372036854775807) ∧
   (0 < len → ∃ g off, ad = some ⟨g, off, none⟩ ∧ P g ∧ g < w.heap.size ∧ ∀ i, i < len → ∃ c0 c1 c2 c3, w.cell? ⟨g, off + i * 4, none⟩ = some c0 ∧ w.cell? ⟨g, off + i * 4 + 1, none⟩ = some c1 ∧
    w.cell? ⟨g, off + i * 4 + 2, none⟩ = some c2 ∧ w.cell? ⟨g, off + i * 4 + 3, none⟩ = some c3 ∧ TrQ P w d (.agg #[c0, c1, c2, c3]) (t.kids.getD i tr0))
variable {P P' : Nat → Prop}
theorem TrQ.v : ∀ {d : Nat} {v : Value} {t : Tr}, TrQ P w d v t → TrV w d v t
 | 0, v, t, h => h
 | d + 1, v, t, h => by
  obtain ⟨ad, len, cap, rfl, hl, hc, hm, hz, hk⟩ := h
  refine ⟨ad, len, cap, rfl, hl, hc, hm, hz, fun hp => ?_⟩
  obtain ⟨g, off, ha, _, hlt, hcell⟩ := hk hp
  refine ⟨g, off, ha, hlt, fun i hi => ?_⟩
  obtain ⟨c0, c1, c2, c3, h0, h1, h2, h3, ht⟩ := hcell i hi
  exact ⟨c0, c1, c2, c3, h0, h1, h2, h3, TrQ.v ht⟩
theorem TrQ.keep (hs : w.heap.size ≤ w1.heap.size) (hk : ∀ j, P j → j < w.heap.size → w1.heap[j]? = w.heap[j]?) : ∀ {d : Nat} {v : Value} {t : Tr}, TrQ P w d v t → TrQ P w1 d v t
 | 0, v, t, h => h
 | d + 1, v, t, h => by
  obtain ⟨ad, len, cap, rfl, hl, hc, hm, hz, hkk⟩ := h
  refine ⟨ad, len, cap, rfl, hl, hc, hm, hz, fun hp => ?_⟩
  obtain ⟨g, off, ha, hb, hlt, hcell⟩ := hkk hp
  refine ⟨g, off, ha, hb, Nat.lt_of_lt_of_le hlt hs, fun i hi => ?_⟩
  obtain ⟨c0, c1, c2, c3, h0, h1, h2, h3, ht⟩ := hcell i hi
  have e : ∀ n, w1.cell? ⟨g, n, none⟩ = w.cell? ⟨g, n, none⟩ := fun n => World.cell?_of_block (w := w) (hk g hb hlt)
  exact ⟨c0, c1, c2, c3, (e _).trans h0, (e _).trans h1, (e _).trans h2, (e _).trans h3, TrQ.keep hs hk ht⟩
theorem TrQ.wide (hP : ∀ j, P j → j < w.heap.size → P' j) : ∀ {d : Nat} {v : Value} {t : Tr}, TrQ P w d v t → TrQ P' w d v t
 | 0, v, t, h => h
 | d + 1, v, t, h => by
  obtain ⟨ad, len, cap, rfl, hl, hcp, hm, hz, hk⟩ := h
  refine ⟨ad, len, cap, rfl, hl, hcp, hm, hz, fun hp => ?_⟩
  obtain ⟨g, off, ha, hg, hlt, hcell⟩ := hk hp
  refine ⟨g, off, ha, hP g hg hlt, hlt, fun i hi => ?_⟩
  obtain ⟨c0, c1, c2, c3, h0, h1, h2, h3, ht⟩ := hcell i hi
  exact ⟨c0, c1, c2, c3, h0, h1, h2, h3, TrQ.wide hP ht⟩
theorem TrQ.more : ∀ {d d' : Nat} {v : Value} {t : Tr}, TrQ P w d v t → d ≤ d' → TrQ P w d' v t
 | 0, d', v, t, h, hd => h.elim
 | d + 1, d', v, t, h, hd => by
  obtain ⟨e, rfl⟩ : ∃ e, d' = e + 1 := ⟨d' - 1, by omega⟩
  obtain ⟨ad, len, cap, rfl, hl, hc, hm, hz, hk⟩ := h
  refine ⟨ad, len, cap, rfl, hl, hc, hm, hz, fun hp => ?_⟩
  obtain ⟨g, off, ha, hb, hlt, hcell⟩ := hk hp
  refine ⟨g, off, ha, hb, hlt, fun i hi => ?_⟩
  obtain ⟨c0, c1, c2, c3, h0, h1, h2, h3, ht⟩ := hcell i hi
  exact ⟨c0, c1, c2, c3, h0, h1, h2, h3, TrQ.more ht (by omega)⟩
def TrP (c : Nat) (w : World) (d : Nat) (v : Value) (t : Tr) : Prop := TrQ (fun g => c ≤ g) w d v t
theorem TrP.v {d : Nat} {v : Value} {t : Tr} (h : TrP c w d v t) : TrV w d v t := TrQ.v h
theorem TrP.keep (hs : w.heap.size ≤ w1.heap.size) (hk : ∀ j, c ≤ j → j < w.heap.size → w1.heap[j]? = w.heap[j]?) {d : Nat} {v : Value} {t : Tr} (h : TrP c w d v t) : TrP c w1 d v t := TrQ.keep hs hk h
theorem TrP.fr {d : Nat} {v : Value} {t : Tr} (h : TrP c w d v t) (hf : Fr b w w1) (hb : b < c) : TrP c w1 d v t := h.keep hf.size (fun j h1 h2 => hf.2 j (by omega) h2)
theorem TrP.later {d : Nat} {v : Value} {t : Tr} (h : TrP c w d v t) (hb : Below w.heap.size w w1) : TrP c w1 d v t := h.keep hb.size (fun j _ hj => hb.block j hj)
theorem TrP.mono {c' : Nat} (hc : c' ≤ c) {d : Nat} {v : Value} {t : Tr} (h : TrP c w d v t) : TrP c' w d v t := TrQ.wide (fun j h1 _ => Nat.le_trans hc h1) h
theorem TrP.more {d d' : Nat} {v : Value} {t : Tr} (h : TrP c w d v t) (hd : d ≤ d') : TrP c w d' v t := TrQ.more h hd
theorem TrP.set {d k i : Nat} {v u : Value} {t : Tr} (h : TrP c w d v t) (hk : k < c) : TrP c (w.setCell ⟨k, i, none⟩ u) d v t :=
 h.keep (by simp [World.setCell]) (fun j h1 h2 => Below.heap_setCell _ _ _ _ (fun e => by simp only at e; omega))
theorem TrP.leaf (k : Int) (x a : Ln) (hk : -9223372036854775808 ≤ k ∧ k ≤ 9223372036854775807) (hx : x.length ≤ 65536) (ha : a.length ≤ 65536) (d : Nat) : TrP c w (d + 1) (lfV k x a) ⟨k, x, a, []⟩ :=
 ⟨none, 0, 0, rfl, rfl, Nat.le_refl _, Nat.zero_le _, ⟨hk.1, hk.2, by show x.length ≤ _; omega, by show a.length ≤ _; omega⟩, fun h => absurd h (by omega)⟩
theorem TrP.cells {d : Nat} {v : Value} {t : Tr} (h : TrP c w d v t) : ∃ (k : Int) (x a : ByteArray) (ad : Option Addr) (len cap : Nat), v = .agg #[.int .i64 k, .string x, .string a, .slice ad len cap] := by
 cases d with
 | zero => exact h.elim
 | succ d =>
  obtain ⟨ad, len, cap, e, _⟩ := h
  exact ⟨_, _, _, ad, len, cap, e⟩
def KdQ (P : Nat → Prop) (w : World) (d : Nat) (xs : List Value) (ks : List Tr) : Prop :=
 xs.length = ks.length * 4 ∧ (∀ u ∈ xs, u.oneCell' = true) ∧ ∀ i, i < ks.length → ∃ c0 c1 c2 c3, xs[i * 4]? = some c0 ∧ xs[i * 4 + 1]? = some c1 ∧ xs[i * 4 + 2]? = some c2 ∧ xs[i * 4 + 3]? = some c3 ∧ TrQ P w d (.agg #[c0, c1, c2, c3]) (ks.getD i tr0)
theorem KdQ.nil (d : Nat) : KdQ P w d [] [] := ⟨rfl, fun u hu => (by cases hu), fun i hi => absurd hi (by simp)⟩
theorem KdQ.keep {d : Nat} {xs : List Value} {ks : List Tr} (h : KdQ P w d xs ks) (hs : w.heap.size ≤ w1.heap.size) (hk : ∀ j, P j → j < w.heap.size → w1.heap[j]? = w.heap[j]?) : KdQ P w1 d xs ks :=
 ⟨h.1, h.2.1, fun i hi => by obtain ⟨c0, c1, c2, c3, h0, h1, h2, h3, ht⟩ := h.2.2 i hi; exact ⟨c0, c1, c2, c3, h0, h1, h2, h3, ht.keep hs hk⟩⟩
theorem KdQ.wide {d : Nat} {xs : List Value} {ks : List Tr} (h : KdQ P w d xs ks) (hP : ∀ j, P j → j < w.heap.size → P' j) : KdQ P' w d xs ks :=
 ⟨h.1, h.2.1, fun i hi => by obtain ⟨c0, c1, c2, c3, h0, h1, h2, h3, ht⟩ := h.2.2 i hi; exact ⟨c0, c1, c2, c3, h0, h1, h2, h3, ht.wide hP⟩⟩
theorem KdQ.later {d : Nat} {xs : List Value} {ks : List Tr} (h : KdQ P w d xs ks) (hb : Below w.heap.size w w1) : KdQ P w1 d xs ks := h.keep hb.size (fun j _ hj => hb.block j hj)
theorem KdQ.app {d : Nat} {xs ys : List Value} {ks js : List Tr} (h : KdQ P w d xs ks) (k : KdQ P w d ys js) : KdQ P w d (xs ++ ys) (ks ++ js) := by
 refine ⟨by rw [List.length_append, List.length_append, h.1, k.1]; omega, fun u hu => (List.mem_append.1 hu).elim (h.2.1 u) (k.2.1 u), fun i hi => ?_⟩
 rw [List.length_append] at hi
 by_cases hlt : i < ks.length
 ·obtain ⟨c0, c1, c2, c3, h0, h1, h2, h3, ht⟩ := h.2.2 i hlt
  have hx := h.1
  refine ⟨c0, c1, c2, c3, ?_, ?_, ?_, ?_, ?_⟩
  ·rw [List.getElem?_append_left (by omega)]; exact h0
  ·rw [List.getElem?_append_left (by omega)]; exact h1
  ·rw [List.getElem?_append_left (by omega)]; exact h2
  ·rw [List.getElem?_append_left (by omega)]; exact h3
  ·rw [List.getD_eq_getElem?_getD, List.getElem?_append_left hlt, ← List.getD_eq_getElem?_getD]; exact ht
 ·obtain ⟨c0, c1, c2, c3, h0, h1, h2, h3, ht⟩ := k.2.2 (i - ks.length) (by omega)
  have hx := h.1
  refine ⟨c0, c1, c2, c3, ?_, ?_, ?_, ?_, ?_⟩
  ·rw [List.getElem?_append_right (by omega), hx, show i * 4 - ks.length * 4 = (i - ks.length) * 4 by omega]; exact h0
  ·rw [List.getElem?_append_right (by omega), hx, show i * 4 + 1 - ks.length * 4 = (i - ks.length) * 4 + 1 by omega]; exact h1
  ·rw [List.getElem?_append_right (by omega), hx, show i * 4 + 2 - ks.length * 4 = (i - ks.length) * 4 + 2 by omega]; exact h2
  ·rw [List.getElem?_append_right (by omega), hx, show i * 4 + 3 - ks.length * 4 = (i - ks.length) * 4 + 3 by omega]; exact h3
  ·rw [List.getD_eq_getElem?_getD, List.getElem?_append_right (by omega), ← List.getD_eq_getElem?_getD]; exact ht
def Kd (c : Nat) (w : World) (d : Nat) (xs : List Value) (ks : List Tr) : Prop := KdQ (fun g => c ≤ g) w d xs ks
theorem Kd.later {d : Nat} {xs : List Value} {ks : List Tr} (h : Kd c w d xs ks) (hb : Below w.heap.size w w1) : Kd c w1 d xs ks := KdQ.later h hb
theorem Kd.set {d k i : Nat} {u : Value} {xs : List Value} {ks : List Tr} (h : Kd c w d xs ks) (hk : k < c) : Kd c (w.setCell ⟨k, i, none⟩ u) d xs ks :=
 KdQ.keep h (by simp [World.setCell]) (fun j h1 h2 => Below.heap_setCell _ _ _ _ (fun e => by simp only at e; omega))
theorem Kd.mono {c' d : Nat} {xs : List Value} {ks : List Tr} (h : Kd c w d xs ks) (hc : c' ≤ c) : Kd c' w d xs ks := KdQ.wide h (fun j h1 _ => Nat.le_trans hc h1)
theorem Kd.app {d : Nat} {xs ys : List Value} {ks js : List Tr} (h : Kd c w d xs ks) (k : Kd c w d ys js) : Kd c w d (xs ++ ys) (ks ++ js) := KdQ.app h k
theorem Kd.one {d : Nat} {k : Int} {x a : ByteArray} {ad : Option Addr} {len cap : Nat} {t : Tr} (h : TrP c w d (.agg #[.int .i64 k, .string x, .string a, .slice ad len cap]) t) : Kd c w d [.int .i64 k, .string x, .string a, .slice ad len cap] [t] := by
 refine ⟨rfl, fun u hu => ?_, fun i hi => ?_⟩
 ·simp only [List.mem_cons, List.not_mem_nil, or_false] at hu
  rcases hu with rfl | rfl | rfl | rfl <;> rfl
 ·have : i = 0 := by simp at hi; omega
  subst this
  exact ⟨_, _, _, _, rfl, rfl, rfl, rfl, h⟩
theorem TrP.node {d n : Nat} {v : Value} {xs : List Value} {ks : List Tr} (hown : w.ownsRow c 24 4 v n xs) (hk : Kd c w d xs ks) (hn : n = ks.length) (k : Int) (hkb : -9223372036854775808 ≤ k ∧ k ≤ 9223372036854775807) (a : Ln) (ha : a.length ≤ 65536) :
  ∃ ad len cap, v = .slice ad len cap ∧ TrP c w (d + 1) (.agg #[.int .i64 k, .string (mk []), .string (mk a), .slice ad len cap]) ⟨k, [], a, ks⟩ := by
 obtain ⟨hxl, hv⟩ := hown
 rcases hv with ⟨rfl, h0⟩ | ⟨g, cap, cur, rfl, hg, hh, hnc, hcm, hcs, htk⟩
 ·have hk0 : ks = [] := List.length_eq_zero_iff.1 (by omega)
  subst hk0
  exact ⟨none, 0, 0, rfl, none, 0, 0, rfl, rfl, Nat.le_refl _, Nat.zero_le _, ⟨hkb.1, hkb.2, by simp, by show a.length ≤ _; omega⟩, fun h => absurd h (by omega)⟩
 ·refine ⟨_, n, cap, rfl, _, n, cap, rfl, hn, hnc, hcm, ⟨hkb.1, hkb.2, by simp, by show a.length ≤ _; omega⟩, fun _ => ⟨g, 0, rfl, hg, (Array.getElem?_eq_some_iff.1 hh).1, fun i hi => ?_⟩⟩
  obtain ⟨c0, c1, c2, c3, h0, h1, h2, h3, ht⟩ := hk.2.2 i (by omega)
  have cc : ∀ j u, j < n * 4 → xs[j]? = some u → w.cell? ⟨g, 0 + j, none⟩ = some u := fun j u hj hu => by
   rw [Lib.cell_of_heap hh]
   rw [← htk, List.getElem?_take_of_lt hj] at hu
   simpa using hu
  exact ⟨c0, c1, c2, c3, cc _ _ (by omega) h0, by have := cc _ _ (by omega) h1; rwa [show 0 + (i * 4 + 1) = 0 + i * 4 + 1 by omega] at this, by have := cc _ _ (by omega) h2; rwa [show 0 + (i * 4 + 2) = 0 + i * 4 + 2 by omega] at this, by have := cc _ _ (by omega) h3; rwa [show 0 + (i * 4 + 3) = 0 + i * 4 + 3 by omega] at this, ht⟩
def ValRes (b : Nat) (s : Ln) (dp : Nat) (w : World) (d : Nat) (r : Ot (Tr × Ln)) (e : Ending) (w' : World) : Prop := match r with
 | .ok x => ∃ v, e = .returned (.tuple #[v, f0]) ∧ TrP w.heap.size w' d v x.1 ∧ (∃ q, q ≤ s.length ∧ x.2 = s.drop q ∧ Rd w' b s q dp) ∧ Fr b w w'
 | .error f => ∃ (v : Value) (t : Tr), TrP w.heap.size w' 1 v t ∧ e = .returned (.tuple #[v, fv s.length f]) ∧ Fr b w w'
def PrtRes (b : Nat) (s : Ln) (dp : Nat) (w : World) (d : Nat) (r : Ot (List Tr × Ln)) (e : Ending) (w' : World) : Prop := match r with
 | .ok x => ∃ (g m : Nat) (ys : List Value), e = .returned (.tuple #[.slice (some ⟨g, 0, none⟩) m m, f0]) ∧ m = x.1.length ∧ m ≤ 2 ∧ Bx w' g ys.toArray 24 ∧ w.heap.size ≤ g ∧ Kd w.heap.size w' d ys x.1 ∧ (∃ q, q ≤ s.length ∧ x.2 = s.drop q ∧ Rd w' b s q dp) ∧ Fr b w w'
 | .error f => ∃ (ad : Option Addr) (m : Nat), e = .returned (.tuple #[.slice ad m m, fv s.length f]) ∧ Fr b w w'
end Go.Proofs.YtfohbiohleekbaaGreatDoor.Flw
end

section
/- . -/
namespace Go.Proofs.YtfohbiohleekbaaGreatDoor.Flw
open Utf Rws Pln
open Go.RowKit
set_option linter.unusedSimpArgs false
set_option linter.unusedVariables false
set_option maxRecDepth 100000
set_option maxHeartbeats 4000000
end Go.Proofs.YtfohbiohleekbaaGreatDoor.Flw
end
