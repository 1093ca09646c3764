/- Several texts as one: IsoTop. -/
import Derived.Test.YtcplgjclkjcekaaGreatDoorY15GraphTop
import Derived.Test.YtcplgjclkjcekaaGreatDoorY30IsoSet
section
/- Iso and Sorted, by their contracts. -/
namespace Go.Proofs.YtcplgjclkjcekaaGreatDoor.Alk
open Utf Rws Pln Flw Grp
open Go.RowKit Go.Shelf
set_option linter.unusedSimpArgs false
set_option linter.unusedVariables false
set_option maxRecDepth 100000
set_option maxHeartbeats 4000000
attribute [local go_sem ↓] Go.wp_at_zero Go.wp_at_succ

/-- the boxes of two graphs -/
structure TwS (w W : World) (K0 K1 : Nat) (a0 a1 b0 b1 : Value) : Prop where
  a : Bx W K0 #[a0, a1] 24
  b : Bx W K1 #[b0, b1] 24
  bl : Below w.heap.size w W
theorem TwS.later {w W W' : World} {K0 K1 : Nat} {a0 a1 b0 b1 : Value} (h : TwS w W K0 K1 a0 a1 b0 b1) (hb : Below W.heap.size W W') : TwS w W' K0 K1 a0 a1 b0 b1 := ⟨h.a.later hb, h.b.later hb, h.bl.trans (hb.mono h.bl.size)⟩
theorem TwS.new (w : World) (a0 a1 b0 b1 : Value) : TwS w ((w.alloc (.cells #[a0, a1] 24)).alloc (.cells #[b0, b1] 24)) w.heap.size (w.heap.size + 1) a0 a1 b0 b1 := by
  have x1 := below_alloc w (.cells #[a0, a1] 24)
  have s1 : (w.alloc (.cells #[a0, a1] 24)).heap.size = w.heap.size + 1 := World.size_alloc _ _
  have x2 := below_alloc (w.alloc (.cells #[a0, a1] 24)) (.cells #[b0, b1] 24)
  have n2 := Bx.new (w.alloc (.cells #[a0, a1] 24)) #[b0, b1] 24
  rw [s1] at n2
  exact ⟨(Bx.new w _ _).later x2, n2, x1.trans (x2.mono x1.size)⟩
/-- what Equal, Like and Iso answer -/
def BRes (w : World) (ok : Bool) (p : Prop) (e : Ending) (W' : World) : Prop := ∃ q : Bool, e = .returned (.tuple #[.bool q, .int .i64 (if ok = true then 0 else 1)]) ∧ (q = true ↔ ok = true ∧ p) ∧ Below w.heap.size w W'
theorem bres_no {w W' : World} {ok : Bool} {p : Prop} (h : ok = false) (hb : Below w.heap.size w W') : BRes w ok p (.returned (.tuple #[.bool false, .int .i64 1])) W' := by
  subst h
  exact ⟨false, by simp, by simp, hb⟩
theorem bres_yes {w W' : World} {ok q : Bool} {p : Prop} (h : ok = true) (hq : q = true ↔ p) (hb : Below w.heap.size w W') : BRes w ok p (.returned (.tuple #[.bool q, .int .i64 0])) W' := by
  subst h
  exact ⟨q, by simp, by simpa using hq, hb⟩

theorem iso_core {w : World} {ada adb : Option Addr} {n m capa capb : Nat} {ra rb : Int} {nsa nsb : List Nd} (hln : n ≤ 9223372036854775807) (hlm : m ≤ 9223372036854775807) (hNA : NAt w ada n nsa) (hNB : NAt w adb m nsb) (hSa : Sml nsa) (hSb : Sml nsb) (hT : Tb w) :
    Calls Tryz.prog 17 #[gv ada n capa ra, gv adb m capb rb] w (BRes w (rgG ⟨nsa, ra⟩ && rgG ⟨nsb, rb⟩) (LkP (lab nsa) (lab nsb) (kd nsa) (kd nsb) ra.toNat rb.toNat)) := by
  have HLa : Hid (n = nsa.length) := hNA.1
  have HLb : Hid (m = nsb.length) := hNB.1
  have h0 := TwS.new w (.slice ada n capa) (.int .i64 ra) (.slice adb m capb) (.int .i64 rb)
  have HA : Hid (∀ W', Hid (TwS w W' w.heap.size (w.heap.size + 1) (.slice ada n capa) (.int .i64 ra) (.slice adb m capb) (.int .i64 rb)) → Calls Tryz.prog 26 #[gv ada n capa ra] W' fun e w'' => e = .returned (.bool (rgG ⟨nsa, ra⟩)) ∧ Hid (TwS w w'' w.heap.size (w.heap.size + 1) (.slice ada n capa) (.int .i64 ra) (.slice adb m capb) (.int .i64 rb))) :=
    fun w' h => (right_core hln (hNA.later h.out.bl (Nat.le_refl _)) hSa (hT.later h.out.bl)).mono (fun e w'' q => ⟨q.1, h.out.later q.2⟩)
  have HB : Hid (∀ W', Hid (TwS w W' w.heap.size (w.heap.size + 1) (.slice ada n capa) (.int .i64 ra) (.slice adb m capb) (.int .i64 rb)) → Calls Tryz.prog 26 #[gv adb m capb rb] W' fun e w'' => e = .returned (.bool (rgG ⟨nsb, rb⟩)) ∧ Hid (TwS w w'' w.heap.size (w.heap.size + 1) (.slice ada n capa) (.int .i64 ra) (.slice adb m capb) (.int .i64 rb))) :=
    fun w' h => (right_core hlm (hNB.later h.out.bl (Nat.le_refl _)) hSb (hT.later h.out.bl)).mono (fun e w'' q => ⟨q.1, h.out.later q.2⟩)
  cases hqa : rgG ⟨nsa, ra⟩
  · rw [hqa] at HA
    clear HB hT hSa hSb hNA hNB
    go_enter Tryz.func17, Tryz.ntmps17
    go_wp2_with fail
    generalize (w.alloc (.cells #[.slice ada n capa, .int .i64 ra] 24)).alloc (.cells #[.slice adb m capb, .int .i64 rb] 24) = W0 at h0 ⊢
    refine (HA.out _ h0).mono ?_
    rintro e w1 ⟨rfl, H1⟩
    clear HA h0
    go_wp2
    go_ret2
    exact bres_no (by simp) H1.out.bl
  · rw [hqa] at HA
    cases hqb : rgG ⟨nsb, rb⟩
    · rw [hqb] at HB
      clear hT hSa hSb hNA hNB
      go_enter Tryz.func17, Tryz.ntmps17
      go_wp2_with fail
      generalize (w.alloc (.cells #[.slice ada n capa, .int .i64 ra] 24)).alloc (.cells #[.slice adb m capb, .int .i64 rb] 24) = W0 at h0 ⊢
      refine (HA.out _ h0).mono ?_
      rintro e w1 ⟨rfl, H1⟩
      obtain ⟨d0, d1⟩ := H1.out.b.c2
      go_wp2_with (go_at_call 26; refine (HB.out _ H1).mono ?_; rintro e w2 ⟨rfl, H2⟩)
      go_ret2
      exact bres_no (by simp) H2.out.bl
    · obtain ⟨f1, f2, f3⟩ := rgG_facts hqa
      rw [← HLa.out] at f1 f2 f3
      obtain ⟨x, rfl, hx⟩ := isP_nat f2
      obtain ⟨g1, g2, g3⟩ := rgG_facts hqb
      rw [← HLb.out] at g1 g2 g3
      obtain ⟨y, rfl, hy⟩ := isP_nat g2
      rw [hqb] at HB
      rw [Int.toNat_natCast, Int.toNat_natCast]
      have HP : Hid (∀ W', Hid (TwS w W' w.heap.size (w.heap.size + 1) (.slice ada n capa) (.int .i64 (x : Int)) (.slice adb m capb) (.int .i64 (y : Int))) → Calls Tryz.prog 31 #[gv ada n capa (x : Int), gv adb m capb (y : Int)] W' fun e w'' => ∃ K, e = .returned (.pointer (some ⟨K, 0, none⟩)) ∧ Hid (Calls Tryz.prog 32 #[.pointer (some ⟨K, 0, none⟩)] w'' fun e W9 => ∃ res : Bool, e = .returned (.bool res) ∧ Hid ((res = true ↔ LkP (lab nsa) (lab nsb) (kd nsa) (kd nsb) x y) ∧ Below w.heap.size w W9))) :=
        fun w' h => (paired_any f1 g1 (hNA.later h.out.bl (Nat.le_refl _)) (hNB.later h.out.bl (Nat.le_refl _)) f3 g3 hx hy).mono (fun e w'' q => by
          obtain ⟨K, M, q, P, q1, q2, q3⟩ := q
          refine ⟨K, q1, ?_⟩
          refine (like_any f1 g1 q2).mono (fun e W9 q4 => ?_)
          obtain ⟨res, r1, r2, r3⟩ := q4
          exact ⟨res, r1, r2.trans q3.out.2, h.out.bl.trans (r3.mono h.out.bl.size)⟩)
      clear hT hSa hSb hNA hNB f1 f2 f3 g1 g2 g3
      go_enter Tryz.func17, Tryz.ntmps17
      go_wp2_with fail
      generalize (w.alloc (.cells #[.slice ada n capa, .int .i64 (x : Int)] 24)).alloc (.cells #[.slice adb m capb, .int .i64 (y : Int)] 24) = W0 at h0 ⊢
      refine (HA.out _ h0).mono ?_
      rintro e w1 ⟨rfl, H1⟩
      obtain ⟨d0, d1⟩ := H1.out.b.c2
      go_wp2_with (go_at_call 26; refine (HB.out _ H1).mono ?_; rintro e w2 ⟨rfl, H2⟩; obtain ⟨c0, c1⟩ := H2.out.a.c2; obtain ⟨c2, c3⟩ := H2.out.b.c2)
      go_wp2_with (first | (go_at_call 31; refine (HP.out _ H2).mono ?_; rintro e w3 ⟨K, rfl, H3⟩) | (go_at_call 32; refine H3.out.mono ?_; rintro e w4 ⟨res, rfl, H4⟩))
      go_ret2
      exact bres_yes (by simp) H4.out.1 H4.out.2
theorem iso_any {w : World} {v u : Value} {g h : Gr} (hg : GrV w v g) (hh : GrV w u h) (hSa : Sml g.nodes) (hSb : Sml h.nodes) (hT : Tb w) :
    Calls Tryz.prog 17 #[v, u] w (BRes w (rgG g && rgG h) (LkP (lab g.nodes) (lab h.nodes) (kd g.nodes) (kd h.nodes) g.root.toNat h.root.toNat)) := by
  obtain ⟨ad, len, cap, rfl, h1, h2, h3, h4⟩ := hg
  obtain ⟨ad', len', cap', rfl, k1, k2, k3, k4⟩ := hh
  have : maxLen = 9223372036854775807 := rfl
  exact iso_core (by omega) (by omega) h4 k4 hSa hSb hT
end Go.Proofs.YtcplgjclkjcekaaGreatDoor.Alk
end
