/- Several texts as one: IsoTop, IsoEql. -/
import Derived.Test.YtaflbooofchimaaGreatDoorJ22IsoRk
import Derived.Test.YtaflbooofchimaaGreatDoorJ16IsoSet
section
/- Iso and Sorted, by their contracts. -/
namespace Go.Proofs.YtaflbooofchimaaGreatDoor.Alk
open Utf Rws Pln Flw Grp
open Go.RowKit Go.Shelf
set_option linter.unusedSimpArgs false
set_option linter.unusedVariables false
set_option maxRecDepth 100000
set_option maxHeartbeats 4000000
attribute [local go_sem ↓] Go.wp_at_zero Go.wp_at_succ

/-- the boxes of two graphs -/
structure TwS (w W : World) (K0 K1 : Nat) (a0 a1 b0 b1 : Value) : Prop where
  a : Bx W K0 #[a0, a1] 24
  b : Bx W K1 #[b0, b1] 24
  bl : Below w.heap.size w W
theorem TwS.later {w W W' : World} {K0 K1 : Nat} {a0 a1 b0 b1 : Value} (h : TwS w W K0 K1 a0 a1 b0 b1) (hb : Below W.heap.size W W') : TwS w W' K0 K1 a0 a1 b0 b1 := ⟨h.a.later hb, h.b.later hb, h.bl.trans (hb.mono h.bl.size)⟩
theorem TwS.new (w : World) (a0 a1 b0 b1 : Value) : TwS w ((w.alloc (.cells #[a0, a1] 24)).alloc (.cells #[b0, b1] 24)) w.heap.size (w.heap.size + 1) a0 a1 b0 b1 := by
  have x1 := below_alloc w (.cells #[a0, a1] 24)
  have s1 : (w.alloc (.cells #[a0, a1] 24)).heap.size = w.heap.size + 1 := World.size_alloc _ _
  have x2 := below_alloc (w.alloc (.cells #[a0, a1] 24)) (.cells #[b0, b1] 24)
  have n2 := Bx.new (w.alloc (.cells #[a0, a1] 24)) #[b0, b1] 24
  rw [s1] at n2
  exact ⟨(Bx.new w _ _).later x2, n2, x1.trans (x2.mono x1.size)⟩
/-- what Equal, Like and Iso answer -/
def BRes (w : World) (ok : Bool) (p : Prop) (e : Ending) (W' : World) : Prop := ∃ q : Bool, e = .returned (.tuple #[.bool q, .int .i64 (if ok = true then 0 else 1)]) ∧ (q = true ↔ ok = true ∧ p) ∧ Below w.heap.size w W'
theorem bres_no {w W' : World} {ok : Bool} {p : Prop} (h : ok = false) (hb : Below w.heap.size w W') : BRes w ok p (.returned (.tuple #[.bool false, .int .i64 1])) W' := by
  subst h
  exact ⟨false, by simp, by simp, hb⟩
theorem bres_yes {w W' : World} {ok q : Bool} {p : Prop} (h : ok = true) (hq : q = true ↔ p) (hb : Below w.heap.size w W') : BRes w ok p (.returned (.tuple #[.bool q, .int .i64 0])) W' := by
  subst h
  exact ⟨q, by simp, by simpa using hq, hb⟩

theorem iso_core {w : World} {ada adb : Option Addr} {n m capa capb : Nat} {ra rb : Int} {nsa nsb : List Nd} (hln : n ≤ 9223372036854775807) (hlm : m ≤ 9223372036854775807) (hNA : NAt w ada n nsa) (hNB : NAt w adb m nsb) (hSa : Sml nsa) (hSb : Sml nsb) (hT : Tb w) :
    Calls Tryz.prog 11 #[gv ada n capa ra, gv adb m capb rb] w (BRes w (rgG ⟨nsa, ra⟩ && rgG ⟨nsb, rb⟩) (LkP (lab nsa) (lab nsb) (kd nsa) (kd nsb) ra.toNat rb.toNat)) := by
  have HLa : Hid (n = nsa.length) := hNA.1
  have HLb : Hid (m = nsb.length) := hNB.1
  have h0 := TwS.new w (.slice ada n capa) (.int .i64 ra) (.slice adb m capb) (.int .i64 rb)
  have HA : Hid (∀ W', Hid (TwS w W' w.heap.size (w.heap.size + 1) (.slice ada n capa) (.int .i64 ra) (.slice adb m capb) (.int .i64 rb)) → Calls Tryz.prog 22 #[gv ada n capa ra] W' fun e w'' => e = .returned (.bool (rgG ⟨nsa, ra⟩)) ∧ Hid (TwS w w'' w.heap.size (w.heap.size + 1) (.slice ada n capa) (.int .i64 ra) (.slice adb m capb) (.int .i64 rb))) :=
    fun w' h => (right_core hln (hNA.later h.out.bl (Nat.le_refl _)) hSa (hT.later h.out.bl)).mono (fun e w'' q => ⟨q.1, h.out.later q.2⟩)
  have HB : Hid (∀ W', Hid (TwS w W' w.heap.size (w.heap.size + 1) (.slice ada n capa) (.int .i64 ra) (.slice adb m capb) (.int .i64 rb)) → Calls Tryz.prog 22 #[gv adb m capb rb] W' fun e w'' => e = .returned (.bool (rgG ⟨nsb, rb⟩)) ∧ Hid (TwS w w'' w.heap.size (w.heap.size + 1) (.slice ada n capa) (.int .i64 ra) (.slice adb m capb) (.int .i64 rb))) :=
    fun w' h => (right_core hlm (hNB.later h.out.bl (Nat.le_refl _)) hSb (hT.later h.out.bl)).mono (fun e w'' q => ⟨q.1, h.out.later q.2⟩)
  cases hqa : rgG ⟨nsa, ra⟩
  · rw [hqa] at HA
    clear HB hT hSa hSb hNA hNB
    go_enter Tryz.func11, Tryz.ntmps11
    go_wp2_with fail
    generalize (w.alloc (.cells #[.slice ada n capa, .int .i64 ra] 24)).alloc (.cells #[.slice adb m capb, .int .i64 rb] 24) = W0 at h0 ⊢
    refine (HA.out _ h0).mono ?_
    rintro e w1 ⟨rfl, H1⟩
    clear HA h0
    go_wp2
    go_ret2
    exact bres_no (by simp) H1.out.bl
  · rw [hqa] at HA
    cases hqb : rgG ⟨nsb, rb⟩
    · rw [hqb] at HB
      clear hT hSa hSb hNA hNB
      go_enter Tryz.func11, Tryz.ntmps11
      go_wp2_with fail
      generalize (w.alloc (.cells #[.slice ada n capa, .int .i64 ra] 24)).alloc (.cells #[.slice adb m capb, .int .i64 rb] 24) = W0 at h0 ⊢
      refine (HA.out _ h0).mono ?_
      rintro e w1 ⟨rfl, H1⟩
      obtain ⟨d0, d1⟩ := H1.out.b.c2
      go_wp2_with (go_at_call 22; refine (HB.out _ H1).mono ?_; rintro e w2 ⟨rfl, H2⟩)
      go_ret2
      exact bres_no (by simp) H2.out.bl
    · obtain ⟨f1, f2, f3⟩ := rgG_facts hqa
      rw [← HLa.out] at f1 f2 f3
      obtain ⟨x, rfl, hx⟩ := isP_nat f2
      obtain ⟨g1, g2, g3⟩ := rgG_facts hqb
      rw [← HLb.out] at g1 g2 g3
      obtain ⟨y, rfl, hy⟩ := isP_nat g2
      rw [hqb] at HB
      rw [Int.toNat_natCast, Int.toNat_natCast]
      have HP : Hid (∀ W', Hid (TwS w W' w.heap.size (w.heap.size + 1) (.slice ada n capa) (.int .i64 (x : Int)) (.slice adb m capb) (.int .i64 (y : Int))) → Calls Tryz.prog 23 #[gv ada n capa (x : Int), gv adb m capb (y : Int)] W' fun e w'' => ∃ K, e = .returned (.pointer (some ⟨K, 0, none⟩)) ∧ Hid (Calls Tryz.prog 27 #[.pointer (some ⟨K, 0, none⟩)] w'' fun e W9 => ∃ res : Bool, e = .returned (.bool res) ∧ Hid ((res = true ↔ LkP (lab nsa) (lab nsb) (kd nsa) (kd nsb) x y) ∧ Below w.heap.size w W9))) :=
        fun w' h => (paired_any f1 g1 (hNA.later h.out.bl (Nat.le_refl _)) (hNB.later h.out.bl (Nat.le_refl _)) f3 g3 hx hy).mono (fun e w'' q => by
          obtain ⟨K, M, q, P, q1, q2, q3⟩ := q
          refine ⟨K, q1, ?_⟩
          refine (like_any f1 g1 q2).mono (fun e W9 q4 => ?_)
          obtain ⟨res, r1, r2, r3⟩ := q4
          exact ⟨res, r1, r2.trans q3.out.2, h.out.bl.trans (r3.mono h.out.bl.size)⟩)
      clear hT hSa hSb hNA hNB f1 f2 f3 g1 g2 g3
      go_enter Tryz.func11, Tryz.ntmps11
      go_wp2_with fail
      generalize (w.alloc (.cells #[.slice ada n capa, .int .i64 (x : Int)] 24)).alloc (.cells #[.slice adb m capb, .int .i64 (y : Int)] 24) = W0 at h0 ⊢
      refine (HA.out _ h0).mono ?_
      rintro e w1 ⟨rfl, H1⟩
      obtain ⟨d0, d1⟩ := H1.out.b.c2
      go_wp2_with (go_at_call 22; refine (HB.out _ H1).mono ?_; rintro e w2 ⟨rfl, H2⟩; obtain ⟨c0, c1⟩ := H2.out.a.c2; obtain ⟨c2, c3⟩ := H2.out.b.c2)
      go_wp2_with (first | (go_at_call 23; refine (HP.out _ H2).mono ?_; rintro e w3 ⟨K, rfl, H3⟩) | (go_at_call 27; refine H3.out.mono ?_; rintro e w4 ⟨res, rfl, H4⟩))
      go_ret2
      exact bres_yes (by simp) H4.out.1 H4.out.2
theorem iso_any {w : World} {v u : Value} {g h : Gr} (hg : GrV w v g) (hh : GrV w u h) (hSa : Sml g.nodes) (hSb : Sml h.nodes) (hT : Tb w) :
    Calls Tryz.prog 11 #[v, u] w (BRes w (rgG g && rgG h) (LkP (lab g.nodes) (lab h.nodes) (kd g.nodes) (kd h.nodes) g.root.toNat h.root.toNat)) := by
  obtain ⟨ad, len, cap, rfl, h1, h2, h3, h4⟩ := hg
  obtain ⟨ad', len', cap', rfl, k1, k2, k3, k4⟩ := hh
  have : maxLen = 9223372036854775807 := rfl
  exact iso_core (by omega) (by omega) h4 k4 hSa hSb hT
end Go.Proofs.YtaflbooofchimaaGreatDoor.Alk
end

section
/- Equal and Like, by their contracts. -/
namespace Go.Proofs.YtaflbooofchimaaGreatDoor.Alk
open Utf Rws Pln Flw Grp
open Go.RowKit Go.Shelf
set_option linter.unusedSimpArgs false
set_option linter.unusedVariables false
set_option maxRecDepth 100000
set_option maxHeartbeats 4000000
attribute [local go_sem ↓] Go.wp_at_zero Go.wp_at_succ


theorem TwS.ce {w W : World} {K0 K1 : Nat} {a0 a1 b0 b1 : Value} (h : TwS w W K0 K1 a0 a1 b0 b1) : W.cell? ⟨K0, 0, none⟩ = some a0 ∧ W.cell? ⟨K0, 1, none⟩ = some a1 ∧ W.cell? ⟨K1, 0, none⟩ = some b0 ∧ W.cell? ⟨K1, 1, none⟩ = some b1 := ⟨h.a.cell 0, h.a.cell 1, h.b.cell 0, h.b.cell 1⟩
theorem grv_n {w : World} {a : Option Addr} {l c : Nat} {r : Int} {g : Gr} (h : GrV w (gv a l c r) g) : NAt w a l g.nodes := by
  obtain ⟨_, _, _, e, _, _, _, h4⟩ := h
  simp only [gv, Value.agg.injEq, Array.mk.injEq, List.cons.injEq, Value.slice.injEq] at e
  obtain ⟨⟨rfl, rfl, rfl⟩, _⟩ := e
  exact h4
/-- paired, at the risings of two graphs that may be -/
theorem paired_ris {w : World} {a1 a2 : Option Addr} {l1 c1 l2 c2 x y : Nat} {nsa nsb : List Nd} (p1 : GrV w (gv a1 l1 c1 (x : Int)) ⟨ris nsa, (x : Int)⟩) (u1 : GrV w (gv a2 l2 c2 (y : Int)) ⟨ris nsb, (y : Int)⟩) (hqa : rgG ⟨nsa, (x : Int)⟩ = true) (hqb : rgG ⟨nsb, (y : Int)⟩ = true) :
    l1 ≤ 4096 ∧ l2 ≤ 4096 ∧ Calls Tryz.prog 23 #[gv a1 l1 c1 (x : Int), gv a2 l2 c2 (y : Int)] w (PdRes w (.slice a1 l1 c1) (.slice a2 l2 c2) (ris nsa) (ris nsb) l1 l2 x y) := by
  have n1 := grv_n p1
  have n2 := grv_n u1
  obtain ⟨f1, f2, f3⟩ := rgG_facts (rg_ris hqa)
  obtain ⟨g1, g2, g3⟩ := rgG_facts (rg_ris hqb)
  have e1 : l1 = (ris nsa).length := n1.1
  have e2 : l2 = (ris nsb).length := n2.1
  rw [← e1] at f1 f2 f3
  rw [← e2] at g1 g2 g3
  obtain ⟨x', hx', hx⟩ := isP_nat f2
  obtain ⟨y', hy', hy⟩ := isP_nat g2
  exact ⟨f1, g1, paired_any f1 g1 n1 n2 f3 g3 (by omega) (by omega)⟩
theorem equal_core {w : World} {ada adb : Option Addr} {n m capa capb : Nat} {ra rb : Int} {nsa nsb : List Nd} (hca : n ≤ capa) (hma : capa ≤ maxLen) (hra : i64 ra) (hcb : m ≤ capb) (hmb : capb ≤ maxLen) (hrb : i64 rb) (hNA : NAt w ada n nsa) (hNB : NAt w adb m nsb) (hSa : Sml nsa) (hSb : Sml nsb) (hT : Tb w) :
    Calls Tryz.prog 7 #[gv ada n capa ra, gv adb m capb rb] w (BRes w (rgG ⟨nsa, ra⟩ && rgG ⟨nsb, rb⟩) (EqP (lab (ris nsa)) (lab (ris nsb)) (kd (ris nsa)) (kd (ris nsb)) ra.toNat rb.toNat)) := by
  have HLa : Hid (n = nsa.length) := hNA.1
  have HLb : Hid (m = nsb.length) := hNB.1
  have hmm : maxLen = 9223372036854775807 := rfl
  have hln : n ≤ 9223372036854775807 := by omega
  have hlm : m ≤ 9223372036854775807 := by omega
  have h0 := TwS.new w (.slice ada n capa) (.int .i64 ra) (.slice adb m capb) (.int .i64 rb)
  have HA : Hid (∀ W', Hid (TwS w W' w.heap.size (w.heap.size + 1) (.slice ada n capa) (.int .i64 ra) (.slice adb m capb) (.int .i64 rb)) → Calls Tryz.prog 22 #[gv ada n capa ra] W' fun e w'' => e = .returned (.bool (rgG ⟨nsa, ra⟩)) ∧ Hid (TwS w w'' w.heap.size (w.heap.size + 1) (.slice ada n capa) (.int .i64 ra) (.slice adb m capb) (.int .i64 rb))) :=
    fun w' h => (right_core hln (hNA.later h.out.bl (Nat.le_refl _)) hSa (hT.later h.out.bl)).mono (fun e w'' q => ⟨q.1, h.out.later q.2⟩)
  have HB : Hid (∀ W', Hid (TwS w W' w.heap.size (w.heap.size + 1) (.slice ada n capa) (.int .i64 ra) (.slice adb m capb) (.int .i64 rb)) → Calls Tryz.prog 22 #[gv adb m capb rb] W' fun e w'' => e = .returned (.bool (rgG ⟨nsb, rb⟩)) ∧ Hid (TwS w w'' w.heap.size (w.heap.size + 1) (.slice ada n capa) (.int .i64 ra) (.slice adb m capb) (.int .i64 rb))) :=
    fun w' h => (right_core hlm (hNB.later h.out.bl (Nat.le_refl _)) hSb (hT.later h.out.bl)).mono (fun e w'' q => ⟨q.1, h.out.later q.2⟩)
  cases hqa : rgG ⟨nsa, ra⟩
  · rw [hqa] at HA
    clear hmm hln hlm hca hma hra hcb hmb hrb
    clear HB hT hSa hSb hNA hNB
    go_enter Tryz.func7, Tryz.ntmps7
    go_wp2_with fail
    generalize (w.alloc (.cells #[.slice ada n capa, .int .i64 ra] 24)).alloc (.cells #[.slice adb m capb, .int .i64 rb] 24) = W0 at h0 ⊢
    refine (HA.out _ h0).mono ?_
    rintro e w1 ⟨rfl, H1⟩
    clear HA h0
    go_wp2
    go_ret2
    exact bres_no (by simp) H1.out.bl
  · rw [hqa] at HA
    cases hqb : rgG ⟨nsb, rb⟩
    · rw [hqb] at HB
      clear hmm hln hlm hca hma hra hcb hmb hrb
      clear hT hSa hSb hNA hNB
      go_enter Tryz.func7, Tryz.ntmps7
      go_wp2_with fail
      generalize (w.alloc (.cells #[.slice ada n capa, .int .i64 ra] 24)).alloc (.cells #[.slice adb m capb, .int .i64 rb] 24) = W0 at h0 ⊢
      refine (HA.out _ h0).mono ?_
      rintro e w1 ⟨rfl, H1⟩
      obtain ⟨d0, d1⟩ := H1.out.b.c2
      go_wp2_with (go_at_call 22; refine (HB.out _ H1).mono ?_; rintro e w2 ⟨rfl, H2⟩)
      go_ret2
      exact bres_no (by simp) H2.out.bl
    · obtain ⟨f1, f2, f3⟩ := rgG_facts hqa
      rw [← HLa.out] at f1 f2 f3
      obtain ⟨x, rfl, hx⟩ := isP_nat f2
      obtain ⟨g1, g2, g3⟩ := rgG_facts hqb
      rw [← HLb.out] at g1 g2 g3
      obtain ⟨y, rfl, hy⟩ := isP_nat g2
      rw [hqb] at HB
      rw [Int.toNat_natCast, Int.toNat_natCast]
      obtain ⟨K1, HK1⟩ : ∃ K1, Hid (K1 = w.heap.size + 1) := ⟨_, rfl⟩
      obtain ⟨K0, HK0⟩ : ∃ K0, Hid (K0 = w.heap.size) := ⟨_, rfl⟩
      obtain ⟨CR, HCR⟩ : ∃ CR : Value → World → (Ending → World → Prop) → Prop, Hid (∀ v W Q, Calls Tryz.prog 24 #[v] W Q ↔ CR v W Q) := ⟨fun v W Q => Calls Tryz.prog 24 #[v] W Q, fun _ _ _ => Iff.rfl⟩
      have HP : Hid (∀ W', Hid (TwS w W' K0 K1 (.slice ada n capa) (.int .i64 (x : Int)) (.slice adb m capb) (.int .i64 (y : Int))) → CR (gv ada n capa (x : Int)) W' fun e W1 => ∃ a1 l1 c1, e = .returned (gv a1 l1 c1 (x : Int)) ∧ (W1.cell? ⟨K0, 0, none⟩ = some (.slice ada n capa) ∧ W1.cell? ⟨K0, 1, none⟩ = some (.int .i64 (x : Int)) ∧ W1.cell? ⟨K1, 0, none⟩ = some (.slice adb m capb) ∧ W1.cell? ⟨K1, 1, none⟩ = some (.int .i64 (y : Int))) ∧ (CR (gv adb m capb (y : Int)) W1 fun e W2 => ∃ a2 l2 c2, e = .returned (gv a2 l2 c2 (y : Int)) ∧ (W2.cell? ⟨K0, 0, none⟩ = some (.slice ada n capa) ∧ W2.cell? ⟨K0, 1, none⟩ = some (.int .i64 (x : Int)) ∧ W2.cell? ⟨K1, 0, none⟩ = some (.slice adb m capb) ∧ W2.cell? ⟨K1, 1, none⟩ = some (.int .i64 (y : Int))) ∧ Hid (Calls Tryz.prog 23 #[gv a1 l1 c1 (x : Int), gv a2 l2 c2 (y : Int)] W2 fun e W3 => ∃ K q, e = .returned (.pointer (some ⟨K, 0, none⟩)) ∧ (W3.cell? ⟨K0, 0, none⟩ = some (.slice ada n capa) ∧ W3.cell? ⟨K0, 1, none⟩ = some (.int .i64 (x : Int)) ∧ W3.cell? ⟨K1, 0, none⟩ = some (.slice adb m capb) ∧ W3.cell? ⟨K1, 1, none⟩ = some (.int .i64 (y : Int))) ∧ W3.cell? ⟨K, 2, none⟩ = some (.bool q) ∧ Hid ((q = true ↔ EqP (lab (ris nsa)) (lab (ris nsb)) (kd (ris nsa)) (kd (ris nsb)) x y) ∧ Below w.heap.size w W3)))) := by
        intro W' h
        refine (HCR.out _ _ _).1 ?_
        refine (rising_any (ns := nsa) ⟨ada, n, capa, rfl, hca, hma, hra, hNA.later h.out.bl (Nat.le_refl _)⟩ hqa hSa).mono ?_
        rintro e W1 ⟨a1, l1, c1, rfl, H1⟩
        obtain ⟨p1, p2⟩ := H1.out
        have t1 := h.out.later p2
        refine ⟨a1, l1, c1, rfl, t1.ce, ?_⟩
        refine (HCR.out _ _ _).1 ?_
        refine (rising_any (ns := nsb) ⟨adb, m, capb, rfl, hcb, hmb, hrb, hNB.later t1.bl (Nat.le_refl _)⟩ hqb hSb).mono ?_
        rintro e W2 ⟨a2, l2, c2, rfl, H2⟩
        obtain ⟨u1, u2⟩ := H2.out
        have t2 := t1.later u2
        refine ⟨a2, l2, c2, rfl, t2.ce, ?_⟩
        obtain ⟨z1, z2, z3⟩ := paired_ris (p1.later u2 (Nat.le_refl _)) u1 hqa hqb
        refine z3.mono ?_
        rintro e W3 ⟨K, M, q, P, rfl, q2, q3⟩
        have t3 := t2.later q2.out.bl
        obtain ⟨v4, hb⟩ := q2.out.b
        exact ⟨K, q, rfl, t3.ce, hb.cell 2, q3.out.1, t3.bl⟩
      clear hmm hln hlm hca hma hra hcb hmb hrb
      clear hT hSa hSb hNA hNB f1 f2 f3 g1 g2 g3
      go_enter Tryz.func7, Tryz.ntmps7
      go_wp2_with fail
      generalize (w.alloc (.cells #[.slice ada n capa, .int .i64 (x : Int)] 24)).alloc (.cells #[.slice adb m capb, .int .i64 (y : Int)] 24) = W0 at h0 ⊢
      refine (HA.out _ h0).mono ?_
      rintro e w1 ⟨rfl, H1⟩
      obtain ⟨d0, d1⟩ := H1.out.b.c2
      go_wp2_with (go_at_call 22; refine (HB.out _ H1).mono ?_; rintro e w2 ⟨rfl, H2⟩; obtain ⟨c0, c1⟩ := H2.out.a.c2; obtain ⟨c2, c3⟩ := H2.out.b.c2)
      have H3 : Hid (TwS w w2.drew K0 K1 (.slice ada n capa) (.int .i64 (x : Int)) (.slice adb m capb) (.int .i64 (y : Int))) := by
        rw [HK0.out, HK1.out]
        exact H2.out.later (Below.refl _ _).drew
      rw [← HK1.out] at c2 c3
      rw [← HK0.out] at c0 c1
      rw [← HK1.out, ← HK0.out]
      have H3' : Hid (TwS w w2 K0 K1 (.slice ada n capa) (.int .i64 (x : Int)) (.slice adb m capb) (.int .i64 (y : Int))) := by
        rw [HK0.out, HK1.out]
        exact H2.out
      have hc1 := HP.out _ H3
      have hc0 := HP.out _ H3'
      clear H1 H2 HA HB h0 d0 d1 HK0 HK1 HP H3 H3'
      go_region_with
        (first | (go_at_call 24; refine ((HCR.out _ _ _).2 (by first | exact hc1 | exact hc0 | exact H4)).mono ?_; rintro e w3 ⟨a1, l1, c1, rfl, ⟨i0, i1, i2, i3⟩, H4⟩) | (go_at_call 23; refine H4.out.mono ?_; rintro e w5 ⟨K, q, rfl, ⟨k0, k1, k2, k3⟩, kk, H6⟩))
      all_goals (go_wp2; go_ret2; exact bres_yes (by simp) H6.out.1 H6.out.2)
theorem equal_any {w : World} {v u : Value} {g h : Gr} (hg : GrV w v g) (hh : GrV w u h) (hSa : Sml g.nodes) (hSb : Sml h.nodes) (hT : Tb w) :
    Calls Tryz.prog 7 #[v, u] w (BRes w (rgG g && rgG h) (EqP (lab (ris g.nodes)) (lab (ris h.nodes)) (kd (ris g.nodes)) (kd (ris h.nodes)) g.root.toNat h.root.toNat)) := by
  obtain ⟨ad, len, cap, rfl, h1, h2, h3, h4⟩ := hg
  obtain ⟨ad', len', cap', rfl, k1, k2, k3, k4⟩ := hh
  exact equal_core h1 h2 h3 k1 k2 k3 h4 k4 hSa hSb hT
theorem liked_core {w : World} {ada adb : Option Addr} {n m capa capb : Nat} {ra rb : Int} {nsa nsb : List Nd} (hca : n ≤ capa) (hma : capa ≤ maxLen) (hra : i64 ra) (hcb : m ≤ capb) (hmb : capb ≤ maxLen) (hrb : i64 rb) (hNA : NAt w ada n nsa) (hNB : NAt w adb m nsb) (hSa : Sml nsa) (hSb : Sml nsb) (hT : Tb w) :
    Calls Tryz.prog 9 #[gv ada n capa ra, gv adb m capb rb] w (BRes w (rgG ⟨nsa, ra⟩ && rgG ⟨nsb, rb⟩) (LkP (lab (ris nsa)) (lab (ris nsb)) (kd (ris nsa)) (kd (ris nsb)) ra.toNat rb.toNat)) := by
  have HLa : Hid (n = nsa.length) := hNA.1
  have HLb : Hid (m = nsb.length) := hNB.1
  have hmm : maxLen = 9223372036854775807 := rfl
  have hln : n ≤ 9223372036854775807 := by omega
  have hlm : m ≤ 9223372036854775807 := by omega
  have h0 := TwS.new w (.slice ada n capa) (.int .i64 ra) (.slice adb m capb) (.int .i64 rb)
  have HA : Hid (∀ W', Hid (TwS w W' w.heap.size (w.heap.size + 1) (.slice ada n capa) (.int .i64 ra) (.slice adb m capb) (.int .i64 rb)) → Calls Tryz.prog 22 #[gv ada n capa ra] W' fun e w'' => e = .returned (.bool (rgG ⟨nsa, ra⟩)) ∧ Hid (TwS w w'' w.heap.size (w.heap.size + 1) (.slice ada n capa) (.int .i64 ra) (.slice adb m capb) (.int .i64 rb))) :=
    fun w' h => (right_core hln (hNA.later h.out.bl (Nat.le_refl _)) hSa (hT.later h.out.bl)).mono (fun e w'' q => ⟨q.1, h.out.later q.2⟩)
  have HB : Hid (∀ W', Hid (TwS w W' w.heap.size (w.heap.size + 1) (.slice ada n capa) (.int .i64 ra) (.slice adb m capb) (.int .i64 rb)) → Calls Tryz.prog 22 #[gv adb m capb rb] W' fun e w'' => e = .returned (.bool (rgG ⟨nsb, rb⟩)) ∧ Hid (TwS w w'' w.heap.size (w.heap.size + 1) (.slice ada n capa) (.int .i64 ra) (.slice adb m capb) (.int .i64 rb))) :=
    fun w' h => (right_core hlm (hNB.later h.out.bl (Nat.le_refl _)) hSb (hT.later h.out.bl)).mono (fun e w'' q => ⟨q.1, h.out.later q.2⟩)
  cases hqa : rgG ⟨nsa, ra⟩
  · rw [hqa] at HA
    clear hmm hln hlm hca hma hra hcb hmb hrb
    clear HB hT hSa hSb hNA hNB
    go_enter Tryz.func9, Tryz.ntmps9
    go_wp2_with fail
    generalize (w.alloc (.cells #[.slice ada n capa, .int .i64 ra] 24)).alloc (.cells #[.slice adb m capb, .int .i64 rb] 24) = W0 at h0 ⊢
    refine (HA.out _ h0).mono ?_
    rintro e w1 ⟨rfl, H1⟩
    clear HA h0
    go_wp2
    go_ret2
    exact bres_no (by simp) H1.out.bl
  · rw [hqa] at HA
    cases hqb : rgG ⟨nsb, rb⟩
    · rw [hqb] at HB
      clear hmm hln hlm hca hma hra hcb hmb hrb
      clear hT hSa hSb hNA hNB
      go_enter Tryz.func9, Tryz.ntmps9
      go_wp2_with fail
      generalize (w.alloc (.cells #[.slice ada n capa, .int .i64 ra] 24)).alloc (.cells #[.slice adb m capb, .int .i64 rb] 24) = W0 at h0 ⊢
      refine (HA.out _ h0).mono ?_
      rintro e w1 ⟨rfl, H1⟩
      obtain ⟨d0, d1⟩ := H1.out.b.c2
      go_wp2_with (go_at_call 22; refine (HB.out _ H1).mono ?_; rintro e w2 ⟨rfl, H2⟩)
      go_ret2
      exact bres_no (by simp) H2.out.bl
    · obtain ⟨f1, f2, f3⟩ := rgG_facts hqa
      rw [← HLa.out] at f1 f2 f3
      obtain ⟨x, rfl, hx⟩ := isP_nat f2
      obtain ⟨g1, g2, g3⟩ := rgG_facts hqb
      rw [← HLb.out] at g1 g2 g3
      obtain ⟨y, rfl, hy⟩ := isP_nat g2
      rw [hqb] at HB
      rw [Int.toNat_natCast, Int.toNat_natCast]
      obtain ⟨K1, HK1⟩ : ∃ K1, Hid (K1 = w.heap.size + 1) := ⟨_, rfl⟩
      obtain ⟨K0, HK0⟩ : ∃ K0, Hid (K0 = w.heap.size) := ⟨_, rfl⟩
      obtain ⟨CR, HCR⟩ : ∃ CR : Value → World → (Ending → World → Prop) → Prop, Hid (∀ v W Q, Calls Tryz.prog 24 #[v] W Q ↔ CR v W Q) := ⟨fun v W Q => Calls Tryz.prog 24 #[v] W Q, fun _ _ _ => Iff.rfl⟩
      have HP : Hid (∀ W', Hid (TwS w W' K0 K1 (.slice ada n capa) (.int .i64 (x : Int)) (.slice adb m capb) (.int .i64 (y : Int))) → CR (gv ada n capa (x : Int)) W' fun e W1 => ∃ a1 l1 c1, e = .returned (gv a1 l1 c1 (x : Int)) ∧ (W1.cell? ⟨K0, 0, none⟩ = some (.slice ada n capa) ∧ W1.cell? ⟨K0, 1, none⟩ = some (.int .i64 (x : Int)) ∧ W1.cell? ⟨K1, 0, none⟩ = some (.slice adb m capb) ∧ W1.cell? ⟨K1, 1, none⟩ = some (.int .i64 (y : Int))) ∧ (CR (gv adb m capb (y : Int)) W1 fun e W2 => ∃ a2 l2 c2, e = .returned (gv a2 l2 c2 (y : Int)) ∧ (W2.cell? ⟨K0, 0, none⟩ = some (.slice ada n capa) ∧ W2.cell? ⟨K0, 1, none⟩ = some (.int .i64 (x : Int)) ∧ W2.cell? ⟨K1, 0, none⟩ = some (.slice adb m capb) ∧ W2.cell? ⟨K1, 1, none⟩ = some (.int .i64 (y : Int))) ∧ Hid (Calls Tryz.prog 23 #[gv a1 l1 c1 (x : Int), gv a2 l2 c2 (y : Int)] W2 fun e W3 => ∃ K, e = .returned (.pointer (some ⟨K, 0, none⟩)) ∧ (W3.cell? ⟨K0, 0, none⟩ = some (.slice ada n capa) ∧ W3.cell? ⟨K0, 1, none⟩ = some (.int .i64 (x : Int)) ∧ W3.cell? ⟨K1, 0, none⟩ = some (.slice adb m capb) ∧ W3.cell? ⟨K1, 1, none⟩ = some (.int .i64 (y : Int))) ∧ Hid (Calls Tryz.prog 27 #[.pointer (some ⟨K, 0, none⟩)] W3 fun e W4 => ∃ q : Bool, e = .returned (.bool q) ∧ (W4.cell? ⟨K0, 0, none⟩ = some (.slice ada n capa) ∧ W4.cell? ⟨K0, 1, none⟩ = some (.int .i64 (x : Int)) ∧ W4.cell? ⟨K1, 0, none⟩ = some (.slice adb m capb) ∧ W4.cell? ⟨K1, 1, none⟩ = some (.int .i64 (y : Int))) ∧ Hid ((q = true ↔ LkP (lab (ris nsa)) (lab (ris nsb)) (kd (ris nsa)) (kd (ris nsb)) x y) ∧ Below w.heap.size w W4))))) := by
        intro W' h
        refine (HCR.out _ _ _).1 ?_
        refine (rising_any (ns := nsa) ⟨ada, n, capa, rfl, hca, hma, hra, hNA.later h.out.bl (Nat.le_refl _)⟩ hqa hSa).mono ?_
        rintro e W1 ⟨a1, l1, c1, rfl, H1⟩
        obtain ⟨p1, p2⟩ := H1.out
        have t1 := h.out.later p2
        refine ⟨a1, l1, c1, rfl, t1.ce, ?_⟩
        refine (HCR.out _ _ _).1 ?_
        refine (rising_any (ns := nsb) ⟨adb, m, capb, rfl, hcb, hmb, hrb, hNB.later t1.bl (Nat.le_refl _)⟩ hqb hSb).mono ?_
        rintro e W2 ⟨a2, l2, c2, rfl, H2⟩
        obtain ⟨u1, u2⟩ := H2.out
        have t2 := t1.later u2
        refine ⟨a2, l2, c2, rfl, t2.ce, ?_⟩
        obtain ⟨z1, z2, z3⟩ := paired_ris (p1.later u2 (Nat.le_refl _)) u1 hqa hqb
        refine z3.mono ?_
        rintro e W3 ⟨K, M, q, P, rfl, q2, q3⟩
        have t3 := t2.later q2.out.bl
        refine ⟨K, rfl, t3.ce, ?_⟩
        refine (like_any z1 z2 q2).mono ?_
        rintro e W4 ⟨res, rfl, r2, r3⟩
        have t4 := t2.later r3
        exact ⟨res, rfl, t4.ce, r2.trans q3.out.2, t4.bl⟩
      clear hmm hln hlm hca hma hra hcb hmb hrb
      clear hT hSa hSb hNA hNB f1 f2 f3 g1 g2 g3
      go_enter Tryz.func9, Tryz.ntmps9
      go_wp2_with fail
      generalize (w.alloc (.cells #[.slice ada n capa, .int .i64 (x : Int)] 24)).alloc (.cells #[.slice adb m capb, .int .i64 (y : Int)] 24) = W0 at h0 ⊢
      refine (HA.out _ h0).mono ?_
      rintro e w1 ⟨rfl, H1⟩
      obtain ⟨d0, d1⟩ := H1.out.b.c2
      go_wp2_with (go_at_call 22; refine (HB.out _ H1).mono ?_; rintro e w2 ⟨rfl, H2⟩; obtain ⟨c0, c1⟩ := H2.out.a.c2; obtain ⟨c2, c3⟩ := H2.out.b.c2)
      have H3 : Hid (TwS w w2.drew K0 K1 (.slice ada n capa) (.int .i64 (x : Int)) (.slice adb m capb) (.int .i64 (y : Int))) := by
        rw [HK0.out, HK1.out]
        exact H2.out.later (Below.refl _ _).drew
      rw [← HK1.out] at c2 c3
      rw [← HK0.out] at c0 c1
      rw [← HK1.out, ← HK0.out]
      have H3' : Hid (TwS w w2 K0 K1 (.slice ada n capa) (.int .i64 (x : Int)) (.slice adb m capb) (.int .i64 (y : Int))) := by
        rw [HK0.out, HK1.out]
        exact H2.out
      have hc1 := HP.out _ H3
      have hc0 := HP.out _ H3'
      clear H1 H2 HA HB h0 d0 d1 HK0 HK1 HP H3 H3'
      go_region_held3 (fun w' => w'.cell? ⟨K0, 0, none⟩ = some (.slice ada n capa) ∧ w'.cell? ⟨K0, 1, none⟩ = some (.int .i64 (x : Int)) ∧ w'.cell? ⟨K1, 0, none⟩ = some (.slice adb m capb) ∧ w'.cell? ⟨K1, 1, none⟩ = some (.int .i64 (y : Int))) (go_keep)
        (first | (go_at_call 24; refine ((HCR.out _ _ _).2 (by first | exact hc1 | exact H4)).mono ?_; rintro e w3 ⟨a1, l1, c1, rfl, ⟨i0, i1, i2, i3⟩, H4⟩) | (go_at_call 23; refine H4.out.mono ?_; rintro e w5 ⟨K, rfl, ⟨k0, k1, k2, k3⟩, H6⟩) | (go_at_call 27; refine H6.out.mono ?_; rintro e w6 ⟨q, rfl, ⟨o0, o1, o2, o3⟩, H7⟩))
      go_wp2
      go_ret2
      exact bres_yes (by simp) H7.out.1 H7.out.2
theorem liked_any {w : World} {v u : Value} {g h : Gr} (hg : GrV w v g) (hh : GrV w u h) (hSa : Sml g.nodes) (hSb : Sml h.nodes) (hT : Tb w) :
    Calls Tryz.prog 9 #[v, u] w (BRes w (rgG g && rgG h) (LkP (lab (ris g.nodes)) (lab (ris h.nodes)) (kd (ris g.nodes)) (kd (ris h.nodes)) g.root.toNat h.root.toNat)) := by
  obtain ⟨ad, len, cap, rfl, h1, h2, h3, h4⟩ := hg
  obtain ⟨ad', len', cap', rfl, k1, k2, k3, k4⟩ := hh
  exact liked_core h1 h2 h3 k1 k2 k3 h4 k4 hSa hSb hT
end Go.Proofs.YtaflbooofchimaaGreatDoor.Alk
end
