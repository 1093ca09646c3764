/- IsoOrder, the walk. -/
import Derived.Test.YtkggdjghjdakoaaGreatDoorIbF
import Derived.Test.YtkggdjghjdakoaaGreatDoorIsoWth
namespace Go.Proofs.YtkggdjghjdakoaaGreatDoor.Alk
open Utf Rws Pln Flw Grp
open Go.RowKit Go.Shelf
set_option linter.unusedSimpArgs false
set_option linter.unusedVariables false
set_option maxRecDepth 100000
set_option maxHeartbeats 4000000

attribute [local go_sem ↓] Go.wp_at_zero Go.wp_at_succ

/-- the boxes of three graphs -/
structure ThS (w W : World) (K0 K1 K2 : Nat) (a0 a1 b0 b1 c0 c1 : Value) : Prop where
  a : Bx W K0 #[a0, a1] 24
  b : Bx W K1 #[b0, b1] 24
  c : Bx W K2 #[c0, c1] 24
  bl : Below w.heap.size w W
theorem ThS.later {w W W' : World} {K0 K1 K2 : Nat} {a0 a1 b0 b1 c0 c1 : Value} (h : ThS w W K0 K1 K2 a0 a1 b0 b1 c0 c1) (hb : Below W.heap.size W W') : ThS w W' K0 K1 K2 a0 a1 b0 b1 c0 c1 := ⟨h.a.later hb, h.b.later hb, h.c.later hb, h.bl.trans (hb.mono h.bl.size)⟩
theorem ThS.new (w : World) (a0 a1 b0 b1 c0 c1 : Value) : ThS w (((w.alloc (.cells #[a0, a1] 24)).alloc (.cells #[b0, b1] 24)).alloc (.cells #[c0, c1] 24)) w.heap.size (w.heap.size + 1) (w.heap.size + 1 + 1) a0 a1 b0 b1 c0 c1 := by
  have h1 := TwS.new w a0 a1 b0 b1
  have s1 : (w.alloc (.cells #[a0, a1] 24)).heap.size = w.heap.size + 1 := World.size_alloc _ _
  have s2 : ((w.alloc (.cells #[a0, a1] 24)).alloc (.cells #[b0, b1] 24)).heap.size = w.heap.size + 1 + 1 := by rw [World.size_alloc, s1]
  generalize (w.alloc (.cells #[a0, a1] 24)).alloc (.cells #[b0, b1] 24) = W1 at *
  have x2 := below_alloc W1 (.cells #[c0, c1] 24)
  have n2 := Bx.new W1 #[c0, c1] 24
  rw [s2] at n2
  have h2 := h1.later x2
  exact ⟨h2.a, h2.b, n2, h2.bl⟩
def CE (W' : World) (K0 K1 K2 : Nat) (a0 a1 b0 b1 c0 c1 : Value) : Prop := W'.cell? ⟨K0, 0, none⟩ = some a0 ∧ W'.cell? ⟨K0, 1, none⟩ = some a1 ∧ W'.cell? ⟨K1, 0, none⟩ = some b0 ∧ W'.cell? ⟨K1, 1, none⟩ = some b1 ∧ W'.cell? ⟨K2, 0, none⟩ = some c0 ∧ W'.cell? ⟨K2, 1, none⟩ = some c1
theorem ThS.ce {w W : World} {K0 K1 K2 : Nat} {a0 a1 b0 b1 c0 c1 : Value} (h : ThS w W K0 K1 K2 a0 a1 b0 b1 c0 c1) : W.cell? ⟨K0, 0, none⟩ = some a0 ∧ W.cell? ⟨K0, 1, none⟩ = some a1 ∧ W.cell? ⟨K1, 0, none⟩ = some b0 ∧ W.cell? ⟨K1, 1, none⟩ = some b1 ∧ W.cell? ⟨K2, 0, none⟩ = some c0 ∧ W.cell? ⟨K2, 1, none⟩ = some c1 := ⟨h.a.cell 0, h.a.cell 1, h.b.cell 0, h.b.cell 1, h.c.cell 0, h.c.cell 1⟩
theorem neq_three (a0 a1 a2 b0 b1 b2 : Bool) (w : World) : (binOp .neq 27 (.agg #[.bool a0, .bool a1, .bool a2]) (.agg #[.bool b0, .bool b1, .bool b2])).run Tryz.prog w = .ok (.bool (!(a0 == b0 && a1 == b1 && a2 == b2))) w := by
  cases a0 <;> cases a1 <;> cases a2 <;> cases b0 <;> cases b1 <;> cases b2 <;> kernel_rfl
/-- a truth as a bit -/
theorem bit_of (p : Prop) : ∃ q : Bool, q = true ↔ p := by
  by_cases h : p
  · exact ⟨true, by simp [h]⟩
  · exact ⟨false, by simp [h]⟩
theorem wpOp_call {P : Program} {ops : Array Oper} {Q : Exit → Act → World → Prop} {j : Nat} {o : Oper} {Kk : Act → World → Prop} {a : Act} {w : World} (ho : ops[j]? = some o) (hg : o.guard = none) (f : FuncId) (xs : Array Operand) (ts : Array TypeId)
    (hop : o.op = .call { callee := .value (.func f), args := xs, argTypes := ts }) (vs : Array Value) (hcf : (callFunc f vs).run P w = .ok (.enter f vs) w) (hv : xs.map a.eval = vs) {R : Ending → World → Prop} (hc : Calls P f vs w R) (hR : ∀ e w', R e w' → ∃ v, e = .returned v ∧ Kk (a.put o.dst v) w') : wpOp P ops Q j Kk a w := by
  refine wpOp_at ho (by simp [Region.wanted, hg]) ?_
  subst hv
  unfold Oper.wp
  simp [execOp, hop, resolve, invoke, Result.andThen, Act.eval, Deferred.ofValue]
  rw [hcf]
  exact hc.mono fun e w' hr => by obtain ⟨v, rfl, hk⟩ := hR e w' hr; exact hk
structure OrE where
  i : Nat
  j : Nat
  k : Nat
  W : World
/-- a new box of three answers beside three graphs -/
structure OrB (w W : World) (K0 K1 K2 i : Nat) (c : Array Value) : Prop where
  b : Bx W i c 27
  h : w.heap.size ≤ i
  k0 : K0 < i
  k1 : K1 < i
  k2 : K2 < i
theorem OrB.later {w W W' : World} {K0 K1 K2 i : Nat} {c : Array Value} (h : OrB w W K0 K1 K2 i c) (hb : Below W.heap.size W W') : OrB w W' K0 K1 K2 i c := ⟨h.b.later hb, h.h, h.k0, h.k1, h.k2⟩
theorem OrB.new {w W : World} {K0 K1 K2 : Nat} {a0 a1 b0 b1 c0 c1 : Value} (h : ThS w W K0 K1 K2 a0 a1 b0 b1 c0 c1) (c : Array Value) : OrB w (W.alloc (.cells c 27)) K0 K1 K2 W.heap.size c := ⟨Bx.new _ _ _, h.bl.size, h.a.lt, h.b.lt, h.c.lt⟩
theorem OrB.set3 {w W : World} {K0 K1 K2 i : Nat} {x y z : Value} (h : OrB w W K0 K1 K2 i #[x, y, z]) (p q r : Value) : OrB w (((W.setCell ⟨i, 0, none⟩ p).setCell ⟨i, 1, none⟩ q).setCell ⟨i, 2, none⟩ r) K0 K1 K2 i #[p, q, r] := ⟨((h.b.set 0 p).set 1 q).set 2 r, h.h, h.k0, h.k1, h.k2⟩
theorem OrB.other3 {w W : World} {K0 K1 K2 i j : Nat} {c : Array Value} (h : OrB w W K0 K1 K2 i c) (hj : i ≠ j) (p q r : Value) : OrB w (((W.setCell ⟨j, 0, none⟩ p).setCell ⟨j, 1, none⟩ q).setCell ⟨j, 2, none⟩ r) K0 K1 K2 i c := ⟨((h.b.other hj 0 p).other hj 1 q).other hj 2 r, h.h, h.k0, h.k1, h.k2⟩
theorem ThS.set3 {w W : World} {K0 K1 K2 i : Nat} {a0 a1 b0 b1 c0 c1 : Value} (h : ThS w W K0 K1 K2 a0 a1 b0 b1 c0 c1) (hi : w.heap.size ≤ i) (h0 : K0 < i) (h1 : K1 < i) (h2 : K2 < i) (p q r : Value) : ThS w (((W.setCell ⟨i, 0, none⟩ p).setCell ⟨i, 1, none⟩ q).setCell ⟨i, 2, none⟩ r) K0 K1 K2 a0 a1 b0 b1 c0 c1 :=
  ⟨((h.a.other (by omega) 0 p).other (by omega) 1 q).other (by omega) 2 r, ((h.b.other (by omega) 0 p).other (by omega) 1 q).other (by omega) 2 r, ((h.c.other (by omega) 0 p).other (by omega) 1 q).other (by omega) 2 r, ((h.bl.setCell (p := ⟨i, 0, none⟩) hi p).setCell (p := ⟨i, 1, none⟩) hi q).setCell (p := ⟨i, 2, none⟩) hi r⟩
def ordDp : List (List Nat) := [[], [], [0, 1], [], [], [3, 4, 2], [], [], [6, 7, 5], [], [], [], [9, 10, 11, 2, 8], [12, 10, 5], [13, 11, 8]]
theorem order_core {w : World} {ada adb adc : Option Addr} {n m l capa capb capc : Nat} {ra rb rc : Int} {nsa nsb nsc : List Nd} (hga : GrV w (gv ada n capa ra) ⟨nsa, ra⟩) (hgb : GrV w (gv adb m capb rb) ⟨nsb, rb⟩) (hgc : GrV w (gv adc l capc rc) ⟨nsc, rc⟩) (hT : Tb w) :
    Calls Tryz.prog 3 #[gv ada n capa ra, gv adb m capb rb, gv adc l capc rc] w fun e w' => e = .returned (.bool true) ∧ Below w.heap.size w w' := by
  have h0 : Hid (ThS w _ w.heap.size (w.heap.size + 1) (w.heap.size + 1 + 1) (.slice ada n capa) (.int .i64 ra) (.slice adb m capb) (.int .i64 rb) (.slice adc l capc) (.int .i64 rc)) := ThS.new w (.slice ada n capa) (.int .i64 ra) (.slice adb m capb) (.int .i64 rb) (.slice adc l capc) (.int .i64 rc)
  obtain ⟨K2, HK2⟩ : ∃ K2, Hid (K2 = w.heap.size + 1 + 1) := ⟨_, rfl⟩
  obtain ⟨K1, HK1⟩ : ∃ K1, Hid (K1 = w.heap.size + 1) := ⟨_, rfl⟩
  obtain ⟨K0, HK0⟩ : ∃ K0, Hid (K0 = w.heap.size) := ⟨_, rfl⟩
  obtain ⟨JS, hJS⟩ : ∃ JS : World → Prop, Hid (∀ w', JS w' ↔ ThS w w' K0 K1 K2 (.slice ada n capa) (.int .i64 ra) (.slice adb m capb) (.int .i64 rb) (.slice adc l capc) (.int .i64 rc)) := ⟨fun w' => ThS w w' K0 K1 K2 (.slice ada n capa) (.int .i64 ra) (.slice adb m capb) (.int .i64 rb) (.slice adc l capc) (.int .i64 rc), fun _ => Iff.rfl⟩
  have HA : Hid (∀ W, Below w.heap.size w W → Calls Tryz.prog 10 #[] W fun e W' => e = .returned (.bool true) ∧ Hid (Below w.heap.size w W')) := fun W b => (alive_any (hT.later b)).mono (fun e W' q => ⟨q.1, b.trans (q.2.mono b.size)⟩)
  obtain ⟨SL, slI, HLG⟩ : ∃ SL : Value → Bool → Prop, (∀ v g, GrV w v g → SL v (lgB g.nodes)) ∧ Hid (∀ W v b, SL v b → JS W → Calls Tryz.prog 8 #[v] W fun e W' => e = .returned (.bool b) ∧ JS W' ∧ W'.cell? ⟨K0, 0, none⟩ = some (.slice ada n capa) ∧ W'.cell? ⟨K0, 1, none⟩ = some (.int .i64 ra) ∧ W'.cell? ⟨K1, 0, none⟩ = some (.slice adb m capb) ∧ W'.cell? ⟨K1, 1, none⟩ = some (.int .i64 rb) ∧ W'.cell? ⟨K2, 0, none⟩ = some (.slice adc l capc) ∧ W'.cell? ⟨K2, 1, none⟩ = some (.int .i64 rc)) :=
    ⟨fun v b => ∃ g, GrV w v g ∧ lgB g.nodes = b, fun v g h => ⟨g, h, rfl⟩, fun W v b hs hj => by
      obtain ⟨g, h1, h2⟩ := hs
      have ht := (hJS.out _).1 hj
      exact (large_any (h1.later ht.bl (Nat.le_refl _))).mono (fun e W' q => ⟨by rw [← h2]; exact q.1, (hJS.out _).2 (ht.later q.2), (ht.later q.2).ce⟩)⟩
  obtain ⟨SR, srI, HRG⟩ : ∃ SR : Value → Bool → Prop, (∀ v g, GrV w v g → lgB g.nodes = false → SR v (rgG g)) ∧ Hid (∀ W v b, SR v b → JS W → Calls Tryz.prog 9 #[v] W fun e W' => e = .returned (.bool b) ∧ JS W' ∧ W'.cell? ⟨K0, 0, none⟩ = some (.slice ada n capa) ∧ W'.cell? ⟨K0, 1, none⟩ = some (.int .i64 ra) ∧ W'.cell? ⟨K1, 0, none⟩ = some (.slice adb m capb) ∧ W'.cell? ⟨K1, 1, none⟩ = some (.int .i64 rb) ∧ W'.cell? ⟨K2, 0, none⟩ = some (.slice adc l capc) ∧ W'.cell? ⟨K2, 1, none⟩ = some (.int .i64 rc)) :=
    ⟨fun v b => ∃ g, GrV w v g ∧ Sml g.nodes ∧ rgG g = b, fun v g h hs => ⟨g, h, lgB_sml hs, rfl⟩, fun W v b hs hj => by
      obtain ⟨g, h1, h3, h2⟩ := hs
      have ht := (hJS.out _).1 hj
      exact (right_gr (h1.later ht.bl (Nat.le_refl _)) h3 (hT.later ht.bl)).mono (fun e W' q => ⟨by rw [← h2]; exact q.1, (hJS.out _).2 (ht.later q.2), (ht.later q.2).ce⟩)⟩
  have sa := slI _ _ hga
  have sb := slI _ _ hgb
  have sc := slI _ _ hgc
  have ta := srI _ _ hga
  have tb := srI _ _ hgb
  have tc := srI _ _ hgc
  simp only [] at sa sb sc ta tb tc
  by_cases hL : lgB nsa = false ∧ lgB nsb = false ∧ lgB nsc = false
  case neg =>
    clear hT hga hgb hgc slI srI ta tb tc
    have hL2 : lgB nsa = true ∨ (lgB nsa = false ∧ lgB nsb = true) ∨ (lgB nsa = false ∧ lgB nsb = false ∧ lgB nsc = true) :=
      (by decide : ∀ x y z : Bool, ¬ (x = false ∧ y = false ∧ z = false) → (x = true ∨ (x = false ∧ y = true) ∨ (x = false ∧ y = false ∧ z = true))) _ _ _ hL
    clear hL
    rcases hL2 with h1 | ⟨h1, h2⟩ | ⟨h1, h2, h3⟩
    case' inl => rw [h1] at sa; clear h1
    case' inr.inl => rw [h1] at sa; rw [h2] at sb; clear h1 h2
    case' inr.inr => rw [h1] at sa; rw [h2] at sb; rw [h3] at sc; clear h1 h2 h3
    all_goals
      go_enter Tryz.func3, Tryz.ntmps3
      go_wp2_with fail
      generalize ((w.alloc (.cells #[.slice ada n capa, .int .i64 ra] 24)).alloc (.cells #[.slice adb m capb, .int .i64 rb] 24)).alloc (.cells #[.slice adc l capc, .int .i64 rc] 24) = W0 at h0 ⊢
      rw [← HK2.out, ← HK1.out, ← HK0.out]
      rw [← HK2.out, ← HK1.out, ← HK0.out] at h0
      have j0 : JS W0 := (hJS.out _).2 h0.out
      clear h0 HK0 HK1 HK2
      refine (HLG.out _ _ _ sa j0).mono ?_
      rintro e w1 ⟨rfl, j1, c0, c1, c2, c3, c4, c5⟩
      go_wp2_with (first | (go_at_call 8; refine (HLG.out _ _ _ (by first | exact sa | exact sb | exact sc) (by assumption)).mono ?_; rintro e w1 ⟨rfl, j1, c0, c1, c2, c3, c4, c5⟩) | (go_at_call 9; refine (HRG.out _ _ _ (by first | exact ta | exact tb | exact tc) (by assumption)).mono ?_; rintro e w1 ⟨rfl, j1, c0, c1, c2, c3, c4, c5⟩) | (go_at_call 10; refine (HA.out _ ((hJS.out _).1 (by assumption)).bl).mono ?_; rintro e w9 ⟨rfl, HZ⟩))
      go_ret
      exact ⟨rfl, HZ.out⟩
  case pos =>
  obtain ⟨la, lb, lc⟩ := hL
  have hSa := lgB_sml la
  have hSb := lgB_sml lb
  have hSc := lgB_sml lc
  replace ta := ta la
  replace tb := tb lb
  replace tc := tc lc
  rw [la] at sa
  rw [lb] at sb
  rw [lc] at sc
  clear la lb lc slI srI
  by_cases hR : rgG ⟨nsa, ra⟩ = true ∧ rgG ⟨nsb, rb⟩ = true ∧ rgG ⟨nsc, rc⟩ = true
  case neg =>
    clear hT hga hgb hgc hSa hSb hSc
    have hR2 : rgG ⟨nsa, ra⟩ = false ∨ (rgG ⟨nsa, ra⟩ = true ∧ rgG ⟨nsb, rb⟩ = false) ∨ (rgG ⟨nsa, ra⟩ = true ∧ rgG ⟨nsb, rb⟩ = true ∧ rgG ⟨nsc, rc⟩ = false) :=
      (by decide : ∀ x y z : Bool, ¬ (x = true ∧ y = true ∧ z = true) → (x = false ∨ (x = true ∧ y = false) ∨ (x = true ∧ y = true ∧ z = false))) _ _ _ hR
    clear hR
    rcases hR2 with h1 | ⟨h1, h2⟩ | ⟨h1, h2, h3⟩
    case' inl => rw [h1] at ta; clear h1
    case' inr.inl => rw [h1] at ta; rw [h2] at tb; clear h1 h2
    case' inr.inr => rw [h1] at ta; rw [h2] at tb; rw [h3] at tc; clear h1 h2 h3
    all_goals
      go_enter Tryz.func3, Tryz.ntmps3
      go_wp2_with fail
      generalize ((w.alloc (.cells #[.slice ada n capa, .int .i64 ra] 24)).alloc (.cells #[.slice adb m capb, .int .i64 rb] 24)).alloc (.cells #[.slice adc l capc, .int .i64 rc] 24) = W0 at h0 ⊢
      rw [← HK2.out, ← HK1.out, ← HK0.out]
      rw [← HK2.out, ← HK1.out, ← HK0.out] at h0
      have j0 : JS W0 := (hJS.out _).2 h0.out
      clear h0 HK0 HK1 HK2
      refine (HLG.out _ _ _ sa j0).mono ?_
      rintro e w1 ⟨rfl, j1, c0, c1, c2, c3, c4, c5⟩
      go_wp2_with (first | (go_at_call 8; refine (HLG.out _ _ _ (by first | exact sa | exact sb | exact sc) (by assumption)).mono ?_; rintro e w1 ⟨rfl, j1, c0, c1, c2, c3, c4, c5⟩) | (go_at_call 9; refine (HRG.out _ _ _ (by first | exact ta | exact tb | exact tc) (by assumption)).mono ?_; rintro e w1 ⟨rfl, j1, c0, c1, c2, c3, c4, c5⟩) | (go_at_call 10; refine (HA.out _ ((hJS.out _).1 (by assumption)).bl).mono ?_; rintro e w9 ⟨rfl, HZ⟩))
      go_ret
      exact ⟨rfl, HZ.out⟩
  case pos =>
  obtain ⟨hqa, hqb, hqc⟩ := hR
  rw [hqa] at ta
  rw [hqb] at tb
  rw [hqc] at tc
  obtain ⟨p0, P0⟩ := bit_of (EqP (lab (ris nsa)) (lab (ris nsb)) (kd (ris nsa)) (kd (ris nsb)) ra.toNat rb.toNat)
  obtain ⟨p1, P1⟩ := bit_of (LkP (lab (ris nsa)) (lab (ris nsb)) (kd (ris nsa)) (kd (ris nsb)) ra.toNat rb.toNat)
  obtain ⟨p2, P2⟩ := bit_of (LkP (lab nsa) (lab nsb) (kd nsa) (kd nsb) ra.toNat rb.toNat)
  obtain ⟨r0, R0⟩ := bit_of (EqP (lab (ris nsb)) (lab (ris nsc)) (kd (ris nsb)) (kd (ris nsc)) rb.toNat rc.toNat)
  obtain ⟨r1, R1⟩ := bit_of (LkP (lab (ris nsb)) (lab (ris nsc)) (kd (ris nsb)) (kd (ris nsc)) rb.toNat rc.toNat)
  obtain ⟨r2, R2⟩ := bit_of (LkP (lab nsb) (lab nsc) (kd nsb) (kd nsc) rb.toNat rc.toNat)
  obtain ⟨s0, S0⟩ := bit_of (EqP (lab (ris nsa)) (lab (ris nsc)) (kd (ris nsa)) (kd (ris nsc)) ra.toNat rc.toNat)
  obtain ⟨s1, S1⟩ := bit_of (LkP (lab (ris nsa)) (lab (ris nsc)) (kd (ris nsa)) (kd (ris nsc)) ra.toNat rc.toNat)
  obtain ⟨s2, S2⟩ := bit_of (LkP (lab nsa) (lab nsc) (kd nsa) (kd nsc) ra.toNat rc.toNat)
  have HQ : Hid ((p0 = true → r0 = true → s0 = true) ∧ (p1 = true → r1 = true → s1 = true) ∧ (p2 = true → r2 = true → s2 = true)) := ⟨fun h k => S0.2 ((P0.1 h).trans (R0.1 k)), fun h k => S1.2 ((P1.1 h).trans (R1.1 k)), fun h k => S2.2 ((P2.1 h).trans (R2.1 k))⟩
  obtain ⟨SA, uaa, uab, uba, ubc, uac, HAL⟩ : ∃ SA : Value → Value → Bool → Bool → Bool → Prop, SA (gv ada n capa ra) (gv ada n capa ra) true true true ∧ SA (gv ada n capa ra) (gv adb m capb rb) p0 p1 p2 ∧ SA (gv adb m capb rb) (gv ada n capa ra) p0 p1 p2 ∧ SA (gv adb m capb rb) (gv adc l capc rc) r0 r1 r2 ∧ SA (gv ada n capa ra) (gv adc l capc rc) s0 s1 s2 ∧ Hid (∀ W u v q0 q1 q2, SA u v q0 q1 q2 → JS W → Calls Tryz.prog 11 #[u, v] W fun e W' => e = .returned (.agg #[.bool q0, .bool q1, .bool q2]) ∧ JS W' ∧ (W'.cell? ⟨K0, 0, none⟩ = some (.slice ada n capa) ∧ W'.cell? ⟨K0, 1, none⟩ = some (.int .i64 ra) ∧ W'.cell? ⟨K1, 0, none⟩ = some (.slice adb m capb) ∧ W'.cell? ⟨K1, 1, none⟩ = some (.int .i64 rb) ∧ W'.cell? ⟨K2, 0, none⟩ = some (.slice adc l capc) ∧ W'.cell? ⟨K2, 1, none⟩ = some (.int .i64 rc) ∧ Hid (Below W.heap.size W W'))) := by
    have key : ∀ {u v : Value} {g h : Gr} {q0 q1 q2 : Bool} {W W' : World} {e : Ending}, JS W → ((q0 = true ↔ EqP (lab (ris g.nodes)) (lab (ris h.nodes)) (kd (ris g.nodes)) (kd (ris h.nodes)) g.root.toNat h.root.toNat) ∧ (q1 = true ↔ LkP (lab (ris g.nodes)) (lab (ris h.nodes)) (kd (ris g.nodes)) (kd (ris h.nodes)) g.root.toNat h.root.toNat) ∧ (q2 = true ↔ LkP (lab g.nodes) (lab h.nodes) (kd g.nodes) (kd h.nodes) g.root.toNat h.root.toNat)) → ARes W (EqP (lab (ris g.nodes)) (lab (ris h.nodes)) (kd (ris g.nodes)) (kd (ris h.nodes)) g.root.toNat h.root.toNat) (LkP (lab (ris g.nodes)) (lab (ris h.nodes)) (kd (ris g.nodes)) (kd (ris h.nodes)) g.root.toNat h.root.toNat) (LkP (lab g.nodes) (lab h.nodes) (kd g.nodes) (kd h.nodes) g.root.toNat h.root.toNat) e W' → e = .returned (.agg #[.bool q0, .bool q1, .bool q2]) ∧ JS W' ∧ (W'.cell? ⟨K0, 0, none⟩ = some (.slice ada n capa) ∧ W'.cell? ⟨K0, 1, none⟩ = some (.int .i64 ra) ∧ W'.cell? ⟨K1, 0, none⟩ = some (.slice adb m capb) ∧ W'.cell? ⟨K1, 1, none⟩ = some (.int .i64 rb) ∧ W'.cell? ⟨K2, 0, none⟩ = some (.slice adc l capc) ∧ W'.cell? ⟨K2, 1, none⟩ = some (.int .i64 rc) ∧ Hid (Below W.heap.size W W')) := by
      intro u v g h q0 q1 q2 W W' e hj hq hr
      obtain ⟨z0, z1, z2, rfl, HZ, HB⟩ := hr
      have ht := ((hJS.out _).1 hj).later HB.out
      obtain ⟨y0, y1, y2⟩ := HZ.out
      have e0 : z0 = q0 := by have := y0.trans hq.1.symm; cases z0 <;> cases q0 <;> simp_all
      have e1 : z1 = q1 := by have := y1.trans hq.2.1.symm; cases z1 <;> cases q1 <;> simp_all
      have e2 : z2 = q2 := by have := y2.trans hq.2.2.symm; cases z2 <;> cases q2 <;> simp_all
      have hc := ht.ce
      exact ⟨by rw [e0, e1, e2], (hJS.out _).2 ht, hc.1, hc.2.1, hc.2.2.1, hc.2.2.2.1, hc.2.2.2.2.1, hc.2.2.2.2.2, HB⟩
    refine ⟨fun u v q0 q1 q2 => ∃ g h, GrV w u g ∧ GrV w v h ∧ Sml g.nodes ∧ Sml h.nodes ∧ rgG g = true ∧ rgG h = true ∧ ((q0 = true ↔ EqP (lab (ris g.nodes)) (lab (ris h.nodes)) (kd (ris g.nodes)) (kd (ris h.nodes)) g.root.toNat h.root.toNat) ∧ (q1 = true ↔ LkP (lab (ris g.nodes)) (lab (ris h.nodes)) (kd (ris g.nodes)) (kd (ris h.nodes)) g.root.toNat h.root.toNat) ∧ (q2 = true ↔ LkP (lab g.nodes) (lab h.nodes) (kd g.nodes) (kd h.nodes) g.root.toNat h.root.toNat)), ⟨_, _, hga, hga, hSa, hSa, hqa, hqa, ?_, ?_, ?_⟩, ⟨_, _, hga, hgb, hSa, hSb, hqa, hqb, P0, P1, P2⟩, ⟨_, _, hgb, hga, hSb, hSa, hqb, hqa, ?_, ?_, ?_⟩, ⟨_, _, hgb, hgc, hSb, hSc, hqb, hqc, R0, R1, R2⟩, ⟨_, _, hga, hgc, hSa, hSc, hqa, hqc, S0, S1, S2⟩, fun W u v q0 q1 q2 hs hj => ?_⟩
    · exact ⟨fun _ => eqP_refl _ _ _, fun _ => rfl⟩
    · exact ⟨fun _ => lkP_refl _ _ _, fun _ => rfl⟩
    · exact ⟨fun _ => lkP_refl _ _ _, fun _ => rfl⟩
    · exact P0.trans ⟨EqP.symm, EqP.symm⟩
    · exact P1.trans ⟨LkP.symm, LkP.symm⟩
    · exact P2.trans ⟨LkP.symm, LkP.symm⟩
    · obtain ⟨g, h, h1, h2, h3, h4, h5, h6, h7⟩ := hs
      have hb := ((hJS.out _).1 hj).bl
      exact (all_any (h1.later hb (Nat.le_refl _)) (h2.later hb (Nat.le_refl _)) h3 h4 (hT.later hb) h5 h6).mono fun e W' q => key (u := u) (v := v) hj h7 q
  clear hT hga hgb hgc hSa hSb hSc hqa hqb hqc P0 P1 P2 R0 R1 R2 S0 S1 S2
  go_enter Tryz.func3, Tryz.ntmps3
  go_wp2_with fail
  generalize ((w.alloc (.cells #[.slice ada n capa, .int .i64 ra] 24)).alloc (.cells #[.slice adb m capb, .int .i64 rb] 24)).alloc (.cells #[.slice adc l capc, .int .i64 rc] 24) = W0 at h0 ⊢
  rw [← HK2.out, ← HK1.out, ← HK0.out]
  rw [← HK2.out, ← HK1.out, ← HK0.out] at h0
  have j0 : JS W0 := (hJS.out _).2 h0.out
  clear h0 HK0 HK1 HK2
  refine (HLG.out _ _ _ sa j0).mono ?_
  rintro e w1 ⟨rfl, j1, c0, c1, c2, c3, c4, c5⟩
  go_upto_region 3 with (first | (go_at_call 8; refine (HLG.out _ _ _ (by first | exact sa | exact sb | exact sc) (by assumption)).mono ?_; rintro e w1 ⟨rfl, j1, c0, c1, c2, c3, c4, c5⟩) | (go_at_call 9; refine (HRG.out _ _ _ (by first | exact ta | exact tb | exact tc) (by assumption)).mono ?_; rintro e w1 ⟨rfl, j1, c0, c1, c2, c3, c4, c5⟩) | (go_at_call 10; refine (HA.out _ ((hJS.out _).1 (by assumption)).bl).mono ?_; rintro e w9 ⟨rfl, HZ⟩))
  have hn1 := neq_three true true true true true true
  have hn2 := neq_three p0 p1 p2 p0 p1 p2
  simp only [BEq.rfl, Bool.and_self, Bool.not_true] at hn1 hn2
  have j2 : JS w1.drew := (hJS.out _).2 (((hJS.out _).1 j1).later (Below.refl _ _).drew)
  go_region_held3 (fun w' => JS w' ∧ w'.cell? ⟨K0, 0, none⟩ = some (.slice ada n capa) ∧ w'.cell? ⟨K0, 1, none⟩ = some (.int .i64 ra) ∧ w'.cell? ⟨K1, 0, none⟩ = some (.slice adb m capb) ∧ w'.cell? ⟨K1, 1, none⟩ = some (.int .i64 rb) ∧ w'.cell? ⟨K2, 0, none⟩ = some (.slice adc l capc) ∧ w'.cell? ⟨K2, 1, none⟩ = some (.int .i64 rc)) (go_keep)
    (first | (go_at_call 11; refine (HAL.out _ _ _ _ _ _ (by first | exact uaa | exact uab | exact uba | exact ubc | exact uac) (by assumption)).mono ?_; rintro e w7 ⟨rfl, j8, c0, c1, c2, c3, c4, c5, HB8⟩))
  go_upto_region 5 with fail
  have hmix : Tryz.prog.follows .mixedOrders = true := by kernel_rfl
  have j7 : JS w7.drew := (hJS.out _).2 (((hJS.out _).1 j8).later (Below.refl _ _).drew)
  clear j2 j1 j0 HLG HRG sa sb sc ta tb tc hn1 hn2 c0 c1 c2 c3 c4 c5
  refine wp_region_E hmix (N := 15) (dp := ordDp) (by kernel_rfl) (E := OrE) (fun (e : OrE) (s : List Bool) => Hid (JS e.W) ∧ (s.getD 9 false = true → Hid (OrB w e.W K0 K1 K2 e.i (cond (s.getD 12 false) #[.bool p0, .bool p1, .bool p2] #[.bool false, .bool false, .bool false]))) ∧ (s.getD 10 false = true → Hid (OrB w e.W K0 K1 K2 e.j (cond (s.getD 13 false) #[.bool r0, .bool r1, .bool r2] #[.bool false, .bool false, .bool false]))) ∧ (s.getD 11 false = true → Hid (OrB w e.W K0 K1 K2 e.k (cond (s.getD 14 false) #[.bool s0, .bool s1, .bool s2] #[.bool false, .bool false, .bool false]))) ∧ Hid ((s.getD 9 false = true → s.getD 10 false = true → e.i ≠ e.j) ∧ (s.getD 9 false = true → s.getD 11 false = true → e.i ≠ e.k) ∧ (s.getD 10 false = true → s.getD 11 false = true → e.j ≠ e.k)) ∧ (s.getD 12 false = true → s.getD 9 false = true ∧ s.getD 10 false = true ∧ s.getD 11 false = true ∧ s.getD 8 false = true) ∧ (s.getD 13 false = true → s.getD 12 false = true) ∧ (s.getD 14 false = true → s.getD 13 false = true) ∧ (s.getD 8 false = true → s.getD 5 false = true) ∧ (s.getD 5 false = true → s.getD 2 false = true)) (fun (e : OrE) (s : List Bool) => { tmps := #[gv ada n capa ra, gv adb m capb rb, gv adc l capc rc, .pointer (some ⟨K0, 0, none⟩), .pointer (some ⟨K1, 0, none⟩), .pointer (some ⟨K2, 0, none⟩), .bool false, slu (s.getD 9 false) (.pointer (some ⟨e.i, 0, none⟩)) undef, slu (s.getD 10 false) (.pointer (some ⟨e.j, 0, none⟩)) undef, slu (s.getD 11 false) (.pointer (some ⟨e.k, 0, none⟩)) undef, undef, .agg #[.slice ada n capa, .int .i64 ra], .bool false, .bool false, .agg #[.slice adb m capb, .int .i64 rb], .bool false, .bool false, .bool false, .agg #[.slice adc l capc, .int .i64 rc], .bool false, .bool false, .bool false, .agg #[.slice ada n capa, .int .i64 ra], .bool true, .bool false, .bool false, .bool false, .agg #[.slice adb m capb, .int .i64 rb], .bool true, .bool false, .bool false, .bool false, .agg #[.slice adc l capc, .int .i64 rc], .bool true, .bool false, .bool false, undef, .agg #[.slice ada n capa, .int .i64 ra], .agg #[.slice ada n capa, .int .i64 ra], .agg #[.bool true, .bool true, .bool true], .agg #[.bool true, .bool true, .bool true], .bool false, .bool false, .agg #[.slice ada n capa, .int .i64 ra], .agg #[.slice adb m capb, .int .i64 rb], .agg #[.bool p0, .bool p1, .bool p2], .agg #[.slice adb m capb, .int .i64 rb], .agg #[.slice ada n capa, .int .i64 ra], .agg #[.bool p0, .bool p1, .bool p2], .bool false, .bool false, slu (s.getD 0 false) (.agg #[.slice ada n capa, .int .i64 ra]) undef, slu (s.getD 1 false) (.agg #[.slice adb m capb, .int .i64 rb]) undef, slu (s.getD 2 false) (.agg #[.bool p0, .bool p1, .bool p2]) undef, slu (s.getD 3 false) (.agg #[.slice adb m capb, .int .i64 rb]) undef, slu (s.getD 4 false) (.agg #[.slice adc l capc, .int .i64 rc]) undef, slu (s.getD 5 false) (.agg #[.bool r0, .bool r1, .bool r2]) undef, slu (s.getD 6 false) (.agg #[.slice ada n capa, .int .i64 ra]) undef, slu (s.getD 7 false) (.agg #[.slice adc l capc, .int .i64 rc]) undef, slu (s.getD 8 false) (.agg #[.bool s0, .bool s1, .bool s2]) undef, undef, undef, undef, undef, undef, undef, undef, undef, undef, undef, undef, undef, undef, undef, undef, undef, undef, undef, undef], defers := [] }) (fun (e : OrE) (s : List Bool) => e.W) ?hS ?hF ⟨0, 0, 0, w7.drew⟩ ⟨j7, fun h => absurd h (by decide), fun h => absurd h (by decide), fun h => absurd h (by decide), ⟨fun h => absurd h (by decide), fun h => absurd h (by decide), fun h => absurd h (by decide)⟩, fun h => absurd h (by decide), fun h => absurd h (by decide), fun h => absurd h (by decide), fun h => absurd h (by decide), fun h => absurd h (by decide)⟩ rfl rfl
  case hS =>
    rintro e s hJ hl i hi' hbi hd Kk hK
    match s, hl with
    | [b0, b1, b2, b3, b4, b5, b6, b7, b8, b9, b10, b11, b12, b13, b14], _ =>
      simp only [List.getD_cons_zero, List.getD_cons_succ] at hJ ⊢
      obtain ⟨JB, J9, J10, J11, JN, J12, J13, J14, J8, J5⟩ := hJ
      have hi2 : i = 0 ∨ i = 1 ∨ i = 2 ∨ i = 3 ∨ i = 4 ∨ i = 5 ∨ i = 6 ∨ i = 7 ∨ i = 8 ∨ i = 9 ∨ i = 10 ∨ i = 11 ∨ i = 12 ∨ i = 13 ∨ i = 14 := by omega
      rcases hi2 with rfl | rfl | rfl | rfl | rfl | rfl | rfl | rfl | rfl | rfl | rfl | rfl | rfl | rfl | rfl
      · have g0 : b0 = false := hbi
        subst g0 
        obtain ⟨y0, y1, y2, y3, y4, y5⟩ := ((hJS.out _).1 JB.out).ce
        have hK2 := hK e ⟨JB, J9, J10, J11, JN, J12, J13, J14, J8, J5⟩
        clear hK hd hbi JB J9 J10 J11 JN J12 J13 J14 J8 J5
        simp only [List.set_cons_zero, List.set_cons_succ, List.getD_cons_zero, List.getD_cons_succ, slu_t, slu_f, cond_true, cond_false] at hK2 ⊢
        refine wpOp_if rfl ?_
        go_simp
        exact hK2
      · have g1 : b1 = false := hbi
        subst g1 
        obtain ⟨y0, y1, y2, y3, y4, y5⟩ := ((hJS.out _).1 JB.out).ce
        have hK2 := hK e ⟨JB, J9, J10, J11, JN, J12, J13, J14, J8, J5⟩
        clear hK hd hbi JB J9 J10 J11 JN J12 J13 J14 J8 J5
        simp only [List.set_cons_zero, List.set_cons_succ, List.getD_cons_zero, List.getD_cons_succ, slu_t, slu_f, cond_true, cond_false] at hK2 ⊢
        refine wpOp_if rfl ?_
        go_simp
        exact hK2
      · have g2 : b2 = false := hbi
        have e0 : b0 = true := hd 0 (by simp [ordDp])
        have e1 : b1 = true := hd 1 (by simp [ordDp])
        have f5 : b5 = false := by cases b5 with | false => rfl | true => exact absurd (J5 rfl) (by rw [g2]; simp)
        have f8 : b8 = false := by cases b8 with | false => rfl | true => exact absurd (J8 rfl) (by rw [f5]; simp)
        have f12 : b12 = false := by cases b12 with | false => rfl | true => exact absurd (J12 rfl).2.2.2 (by rw [f8]; simp)
        have f13 : b13 = false := by cases b13 with | false => rfl | true => exact absurd (J13 rfl) (by rw [f12]; simp)
        have f14 : b14 = false := by cases b14 with | false => rfl | true => exact absurd (J14 rfl) (by rw [f13]; simp)
        subst g2 e0 e1 f5 f8 f12 f13 f14
        refine wpOp_call rfl rfl _ _ _ rfl #[gv ada n capa ra, gv adb m capb rb] (enters_of Tryz.func11 (by kernel_rfl) rfl _ _) (by simp [Act.eval, slu_t]) (HAL.out e.W _ _ _ _ _ uab JB.out) (fun ee w' hR => ?_)
        obtain ⟨rfl, j8, _, _, _, _, _, _, HB8⟩ := hR
        refine ⟨_, rfl, hK ⟨e.i, e.j, e.k, w'⟩ ⟨j8, fun h => (J9 h).out.later HB8.out, fun h => (J10 h).out.later HB8.out, fun h => (J11 h).out.later HB8.out, JN, fun h => absurd h (by simp), fun h => absurd h (by simp), fun h => absurd h (by simp), (by first | exact J8 | exact fun _ => rfl | exact fun h => absurd h (by simp)), (by first | exact J5 | exact fun _ => rfl | exact fun h => absurd h (by simp))⟩⟩
      · have g3 : b3 = false := hbi
        subst g3 
        obtain ⟨y0, y1, y2, y3, y4, y5⟩ := ((hJS.out _).1 JB.out).ce
        have hK2 := hK e ⟨JB, J9, J10, J11, JN, J12, J13, J14, J8, J5⟩
        clear hK hd hbi JB J9 J10 J11 JN J12 J13 J14 J8 J5
        simp only [List.set_cons_zero, List.set_cons_succ, List.getD_cons_zero, List.getD_cons_succ, slu_t, slu_f, cond_true, cond_false] at hK2 ⊢
        refine wpOp_if rfl ?_
        go_simp
        exact hK2
      · have g4 : b4 = false := hbi
        subst g4 
        obtain ⟨y0, y1, y2, y3, y4, y5⟩ := ((hJS.out _).1 JB.out).ce
        have hK2 := hK e ⟨JB, J9, J10, J11, JN, J12, J13, J14, J8, J5⟩
        clear hK hd hbi JB J9 J10 J11 JN J12 J13 J14 J8 J5
        simp only [List.set_cons_zero, List.set_cons_succ, List.getD_cons_zero, List.getD_cons_succ, slu_t, slu_f, cond_true, cond_false] at hK2 ⊢
        refine wpOp_if rfl ?_
        go_simp
        exact hK2
      · have g5 : b5 = false := hbi
        have e3 : b3 = true := hd 3 (by simp [ordDp])
        have e4 : b4 = true := hd 4 (by simp [ordDp])
        have e2 : b2 = true := hd 2 (by simp [ordDp])
        have f8 : b8 = false := by cases b8 with | false => rfl | true => exact absurd (J8 rfl) (by rw [g5]; simp)
        have f12 : b12 = false := by cases b12 with | false => rfl | true => exact absurd (J12 rfl).2.2.2 (by rw [f8]; simp)
        have f13 : b13 = false := by cases b13 with | false => rfl | true => exact absurd (J13 rfl) (by rw [f12]; simp)
        have f14 : b14 = false := by cases b14 with | false => rfl | true => exact absurd (J14 rfl) (by rw [f13]; simp)
        subst g5 e3 e4 e2 f8 f12 f13 f14
        refine wpOp_call rfl rfl _ _ _ rfl #[gv adb m capb rb, gv adc l capc rc] (enters_of Tryz.func11 (by kernel_rfl) rfl _ _) (by simp [Act.eval, slu_t]) (HAL.out e.W _ _ _ _ _ ubc JB.out) (fun ee w' hR => ?_)
        obtain ⟨rfl, j8, _, _, _, _, _, _, HB8⟩ := hR
        refine ⟨_, rfl, hK ⟨e.i, e.j, e.k, w'⟩ ⟨j8, fun h => (J9 h).out.later HB8.out, fun h => (J10 h).out.later HB8.out, fun h => (J11 h).out.later HB8.out, JN, fun h => absurd h (by simp), fun h => absurd h (by simp), fun h => absurd h (by simp), (by first | exact J8 | exact fun _ => rfl | exact fun h => absurd h (by simp)), (by first | exact J5 | exact fun _ => rfl | exact fun h => absurd h (by simp))⟩⟩
      · have g6 : b6 = false := hbi
        subst g6 
        obtain ⟨y0, y1, y2, y3, y4, y5⟩ := ((hJS.out _).1 JB.out).ce
        have hK2 := hK e ⟨JB, J9, J10, J11, JN, J12, J13, J14, J8, J5⟩
        clear hK hd hbi JB J9 J10 J11 JN J12 J13 J14 J8 J5
        simp only [List.set_cons_zero, List.set_cons_succ, List.getD_cons_zero, List.getD_cons_succ, slu_t, slu_f, cond_true, cond_false] at hK2 ⊢
        refine wpOp_if rfl ?_
        go_simp
        exact hK2
      · have g7 : b7 = false := hbi
        subst g7 
        obtain ⟨y0, y1, y2, y3, y4, y5⟩ := ((hJS.out _).1 JB.out).ce
        have hK2 := hK e ⟨JB, J9, J10, J11, JN, J12, J13, J14, J8, J5⟩
        clear hK hd hbi JB J9 J10 J11 JN J12 J13 J14 J8 J5
        simp only [List.set_cons_zero, List.set_cons_succ, List.getD_cons_zero, List.getD_cons_succ, slu_t, slu_f, cond_true, cond_false] at hK2 ⊢
        refine wpOp_if rfl ?_
        go_simp
        exact hK2
      · have g8 : b8 = false := hbi
        have e6 : b6 = true := hd 6 (by simp [ordDp])
        have e7 : b7 = true := hd 7 (by simp [ordDp])
        have e5 : b5 = true := hd 5 (by simp [ordDp])
        have f12 : b12 = false := by cases b12 with | false => rfl | true => exact absurd (J12 rfl).2.2.2 (by rw [g8]; simp)
        have f13 : b13 = false := by cases b13 with | false => rfl | true => exact absurd (J13 rfl) (by rw [f12]; simp)
        have f14 : b14 = false := by cases b14 with | false => rfl | true => exact absurd (J14 rfl) (by rw [f13]; simp)
        subst g8 e6 e7 e5 f12 f13 f14
        refine wpOp_call rfl rfl _ _ _ rfl #[gv ada n capa ra, gv adc l capc rc] (enters_of Tryz.func11 (by kernel_rfl) rfl _ _) (by simp [Act.eval, slu_t]) (HAL.out e.W _ _ _ _ _ uac JB.out) (fun ee w' hR => ?_)
        obtain ⟨rfl, j8, _, _, _, _, _, _, HB8⟩ := hR
        refine ⟨_, rfl, hK ⟨e.i, e.j, e.k, w'⟩ ⟨j8, fun h => (J9 h).out.later HB8.out, fun h => (J10 h).out.later HB8.out, fun h => (J11 h).out.later HB8.out, JN, fun h => absurd h (by simp), fun h => absurd h (by simp), fun h => absurd h (by simp), (by first | exact J8 | exact fun _ => rfl | exact fun h => absurd h (by simp)), (by first | exact J5 | exact fun _ => rfl | exact fun h => absurd h (by simp))⟩⟩
      · have g9 : b9 = false := hbi
        have f12 : b12 = false := by cases b12 with | false => rfl | true => exact absurd (J12 rfl).1 (by rw [g9]; simp)
        have f13 : b13 = false := by cases b13 with | false => rfl | true => exact absurd (J13 rfl) (by rw [f12]; simp)
        have f14 : b14 = false := by cases b14 with | false => rfl | true => exact absurd (J14 rfl) (by rw [f13]; simp)
        subst g9  f12 f13 f14
        have bA := below_alloc e.W (.cells #[.bool false, .bool false, .bool false] 27)
        have hJW : JS (e.W.alloc (.cells #[.bool false, .bool false, .bool false] 27)) := (hJS.out _).2 (((hJS.out _).1 JB.out).later bA)
        have nB : OrB w (e.W.alloc (.cells #[.bool false, .bool false, .bool false] 27)) K0 K1 K2 e.W.heap.size #[.bool false, .bool false, .bool false] := OrB.new ((hJS.out _).1 JB.out) _
        have hK2 := hK ⟨e.W.heap.size, e.j, e.k, e.W.alloc (.cells #[.bool false, .bool false, .bool false] 27)⟩ ⟨hJW, fun _ => nB, fun h => (J10 h).out.later bA, fun h => (J11 h).out.later bA, ⟨fun _ h => Nat.ne_of_gt (J10 h).out.b.lt, fun _ h => Nat.ne_of_gt (J11 h).out.b.lt, JN.out.2.2⟩, fun h => absurd h (by simp), fun h => absurd h (by simp), fun h => absurd h (by simp), J8, J5⟩
        clear hK hd hbi JB J9 J10 J11 JN J12 J13 J14 J8 J5 bA hJW nB
        simp only [List.set_cons_zero, List.set_cons_succ, List.getD_cons_zero, List.getD_cons_succ, slu_t, slu_f, cond_true, cond_false] at hK2 ⊢
        refine wpOp_if rfl ?_
        go_simp
        exact hK2
      · have g10 : b10 = false := hbi
        have f12 : b12 = false := by cases b12 with | false => rfl | true => exact absurd (J12 rfl).2.1 (by rw [g10]; simp)
        have f13 : b13 = false := by cases b13 with | false => rfl | true => exact absurd (J13 rfl) (by rw [f12]; simp)
        have f14 : b14 = false := by cases b14 with | false => rfl | true => exact absurd (J14 rfl) (by rw [f13]; simp)
        subst g10  f12 f13 f14
        have bA := below_alloc e.W (.cells #[.bool false, .bool false, .bool false] 27)
        have hJW : JS (e.W.alloc (.cells #[.bool false, .bool false, .bool false] 27)) := (hJS.out _).2 (((hJS.out _).1 JB.out).later bA)
        have nB : OrB w (e.W.alloc (.cells #[.bool false, .bool false, .bool false] 27)) K0 K1 K2 e.W.heap.size #[.bool false, .bool false, .bool false] := OrB.new ((hJS.out _).1 JB.out) _
        have hK2 := hK ⟨e.i, e.W.heap.size, e.k, e.W.alloc (.cells #[.bool false, .bool false, .bool false] 27)⟩ ⟨hJW, fun h => (J9 h).out.later bA, fun _ => nB, fun h => (J11 h).out.later bA, ⟨fun h _ => Nat.ne_of_lt (J9 h).out.b.lt, JN.out.2.1, fun _ h => Nat.ne_of_gt (J11 h).out.b.lt⟩, fun h => absurd h (by simp), fun h => absurd h (by simp), fun h => absurd h (by simp), J8, J5⟩
        clear hK hd hbi JB J9 J10 J11 JN J12 J13 J14 J8 J5 bA hJW nB
        simp only [List.set_cons_zero, List.set_cons_succ, List.getD_cons_zero, List.getD_cons_succ, slu_t, slu_f, cond_true, cond_false] at hK2 ⊢
        refine wpOp_if rfl ?_
        go_simp
        exact hK2
      · have g11 : b11 = false := hbi
        have f12 : b12 = false := by cases b12 with | false => rfl | true => exact absurd (J12 rfl).2.2.1 (by rw [g11]; simp)
        have f13 : b13 = false := by cases b13 with | false => rfl | true => exact absurd (J13 rfl) (by rw [f12]; simp)
        have f14 : b14 = false := by cases b14 with | false => rfl | true => exact absurd (J14 rfl) (by rw [f13]; simp)
        subst g11  f12 f13 f14
        have bA := below_alloc e.W (.cells #[.bool false, .bool false, .bool false] 27)
        have hJW : JS (e.W.alloc (.cells #[.bool false, .bool false, .bool false] 27)) := (hJS.out _).2 (((hJS.out _).1 JB.out).later bA)
        have nB : OrB w (e.W.alloc (.cells #[.bool false, .bool false, .bool false] 27)) K0 K1 K2 e.W.heap.size #[.bool false, .bool false, .bool false] := OrB.new ((hJS.out _).1 JB.out) _
        have hK2 := hK ⟨e.i, e.j, e.W.heap.size, e.W.alloc (.cells #[.bool false, .bool false, .bool false] 27)⟩ ⟨hJW, fun h => (J9 h).out.later bA, fun h => (J10 h).out.later bA, fun _ => nB, ⟨JN.out.1, fun h _ => Nat.ne_of_lt (J9 h).out.b.lt, fun h _ => Nat.ne_of_lt (J10 h).out.b.lt⟩, fun h => absurd h (by simp), fun h => absurd h (by simp), fun h => absurd h (by simp), J8, J5⟩
        clear hK hd hbi JB J9 J10 J11 JN J12 J13 J14 J8 J5 bA hJW nB
        simp only [List.set_cons_zero, List.set_cons_succ, List.getD_cons_zero, List.getD_cons_succ, slu_t, slu_f, cond_true, cond_false] at hK2 ⊢
        refine wpOp_if rfl ?_
        go_simp
        exact hK2
      · have g12 : b12 = false := hbi
        have e9 : b9 = true := hd 9 (by simp [ordDp])
        have e10 : b10 = true := hd 10 (by simp [ordDp])
        have e11 : b11 = true := hd 11 (by simp [ordDp])
        have e2 : b2 = true := hd 2 (by simp [ordDp])
        have e8 : b8 = true := hd 8 (by simp [ordDp])
        have f13 : b13 = false := by cases b13 with | false => rfl | true => exact absurd (J13 rfl) (by rw [g12]; simp)
        have f14 : b14 = false := by cases b14 with | false => rfl | true => exact absurd (J14 rfl) (by rw [f13]; simp)
        subst g12 e9 e10 e11 e2 e8 f13 f14
        have h9 := (J9 rfl).out
        have h10 := (J10 rfl).out
        have h11 := (J11 rfl).out
        have n1 := JN.out.1 rfl rfl
        have n2 := JN.out.2.1 rfl rfl
        have n3 := JN.out.2.2 rfl rfl
        simp only [cond_true, cond_false] at h9 h10 h11
        obtain ⟨y0, y1, y2⟩ := h9.b.c3
        have z0 := h9.b.fz 0
        have z1 := h9.b.fz 1
        have z2 := h9.b.fz 2
        have hJW : JS (((e.W.setCell ⟨e.i, 0, none⟩ (.bool p0)).setCell ⟨e.i, 1, none⟩ (.bool p1)).setCell ⟨e.i, 2, none⟩ (.bool p2)) := (hJS.out _).2 (((hJS.out _).1 JB.out).set3 h9.h h9.k0 h9.k1 h9.k2 _ _ _)
        have hK2 := hK ⟨e.i, e.j, e.k, (((e.W.setCell ⟨e.i, 0, none⟩ (.bool p0)).setCell ⟨e.i, 1, none⟩ (.bool p1)).setCell ⟨e.i, 2, none⟩ (.bool p2))⟩ ⟨hJW, fun _ => h9.set3 _ _ _, fun _ => h10.other3 n1.symm _ _ _, fun _ => h11.other3 n2.symm _ _ _, JN, fun _ => ⟨rfl, rfl, rfl, rfl⟩, fun h => absurd h (by simp), fun h => absurd h (by simp), J8, J5⟩
        clear hK hd hbi JB J9 J10 J11 JN J12 J13 J14 J8 J5 hJW h9 h10 h11 n1 n2 n3
        simp only [List.set_cons_zero, List.set_cons_succ, List.getD_cons_zero, List.getD_cons_succ, slu_t, slu_f, cond_true, cond_false] at hK2 ⊢
        refine wpOp_if rfl ?_
        go_simp
        exact hK2
      · have g13 : b13 = false := hbi
        have e12 : b12 = true := hd 12 (by simp [ordDp])
        have e10 : b10 = true := hd 10 (by simp [ordDp])
        have e5 : b5 = true := hd 5 (by simp [ordDp])
        obtain ⟨e9, _, e11, e8⟩ := J12 e12
        have f14 : b14 = false := by cases b14 with | false => rfl | true => exact absurd (J14 rfl) (by rw [g13]; simp)
        subst g13 e12 e10 e5 e9 e11 e8 f14
        have h9 := (J9 rfl).out
        have h10 := (J10 rfl).out
        have h11 := (J11 rfl).out
        have n1 := JN.out.1 rfl rfl
        have n2 := JN.out.2.1 rfl rfl
        have n3 := JN.out.2.2 rfl rfl
        simp only [cond_true, cond_false] at h9 h10 h11
        obtain ⟨y0, y1, y2⟩ := h10.b.c3
        have z0 := h10.b.fz 0
        have z1 := h10.b.fz 1
        have z2 := h10.b.fz 2
        have hJW : JS (((e.W.setCell ⟨e.j, 0, none⟩ (.bool r0)).setCell ⟨e.j, 1, none⟩ (.bool r1)).setCell ⟨e.j, 2, none⟩ (.bool r2)) := (hJS.out _).2 (((hJS.out _).1 JB.out).set3 h10.h h10.k0 h10.k1 h10.k2 _ _ _)
        have hK2 := hK ⟨e.i, e.j, e.k, (((e.W.setCell ⟨e.j, 0, none⟩ (.bool r0)).setCell ⟨e.j, 1, none⟩ (.bool r1)).setCell ⟨e.j, 2, none⟩ (.bool r2))⟩ ⟨hJW, fun _ => h9.other3 n1 _ _ _, fun _ => h10.set3 _ _ _, fun _ => h11.other3 n3.symm _ _ _, JN, fun _ => ⟨rfl, rfl, rfl, rfl⟩, fun _ => rfl, fun h => absurd h (by simp), J8, J5⟩
        clear hK hd hbi JB J9 J10 J11 JN J12 J13 J14 J8 J5 hJW h9 h10 h11 n1 n2 n3
        simp only [List.set_cons_zero, List.set_cons_succ, List.getD_cons_zero, List.getD_cons_succ, slu_t, slu_f, cond_true, cond_false] at hK2 ⊢
        refine wpOp_if rfl ?_
        go_simp
        exact hK2
      · have g14 : b14 = false := hbi
        have e13 : b13 = true := hd 13 (by simp [ordDp])
        have e11 : b11 = true := hd 11 (by simp [ordDp])
        have e8 : b8 = true := hd 8 (by simp [ordDp])
        have e12 := J13 e13
        obtain ⟨e9, e10, _, _⟩ := J12 e12
        subst g14 e13 e11 e8 e12 e9 e10
        have h9 := (J9 rfl).out
        have h10 := (J10 rfl).out
        have h11 := (J11 rfl).out
        have n1 := JN.out.1 rfl rfl
        have n2 := JN.out.2.1 rfl rfl
        have n3 := JN.out.2.2 rfl rfl
        simp only [cond_true, cond_false] at h9 h10 h11
        obtain ⟨y0, y1, y2⟩ := h11.b.c3
        have z0 := h11.b.fz 0
        have z1 := h11.b.fz 1
        have z2 := h11.b.fz 2
        have hJW : JS (((e.W.setCell ⟨e.k, 0, none⟩ (.bool s0)).setCell ⟨e.k, 1, none⟩ (.bool s1)).setCell ⟨e.k, 2, none⟩ (.bool s2)) := (hJS.out _).2 (((hJS.out _).1 JB.out).set3 h11.h h11.k0 h11.k1 h11.k2 _ _ _)
        have hK2 := hK ⟨e.i, e.j, e.k, (((e.W.setCell ⟨e.k, 0, none⟩ (.bool s0)).setCell ⟨e.k, 1, none⟩ (.bool s1)).setCell ⟨e.k, 2, none⟩ (.bool s2))⟩ ⟨hJW, fun _ => h9.other3 n2 _ _ _, fun _ => h10.other3 n3 _ _ _, fun _ => h11.set3 _ _ _, JN, fun _ => ⟨rfl, rfl, rfl, rfl⟩, fun _ => rfl, fun _ => rfl, J8, J5⟩
        clear hK hd hbi JB J9 J10 J11 JN J12 J13 J14 J8 J5 hJW h9 h10 h11 n1 n2 n3
        simp only [List.set_cons_zero, List.set_cons_succ, List.getD_cons_zero, List.getD_cons_succ, slu_t, slu_f, cond_true, cond_false] at hK2 ⊢
        refine wpOp_if rfl ?_
        go_simp
        exact hK2
  case hF =>
    rintro ⟨ii, jj, kk, w8⟩ ⟨JB, J9, J10, J11, JN, _⟩
    have h9 := (J9 rfl).out
    have h10 := (J10 rfl).out
    have h11 := (J11 rfl).out
    simp only [show List.replicate 15 true = [true, true, true, true, true, true, true, true, true, true, true, true, true, true, true] from rfl, List.getD_cons_zero, List.getD_cons_succ, slu_t, cond_true] at h9 h10 h11 ⊢
    have HB : Hid (Below w.heap.size w w8 ∧ Bx w8 ii #[.bool p0, .bool p1, .bool p2] 27 ∧ Bx w8 jj #[.bool r0, .bool r1, .bool r2] 27 ∧ Bx w8 kk #[.bool s0, .bool s1, .bool s2] 27) := ⟨((hJS.out _).1 JB.out).bl, h9.b, h10.b, h11.b⟩
    obtain ⟨x0, x1, x2⟩ := h9.b.c3
    obtain ⟨y0, y1, y2⟩ := h10.b.c3
    obtain ⟨z0, z1, z2⟩ := h11.b.c3
    clear JB J9 J10 J11 JN h9 h10 h11 HAL uaa uab uba ubc uac hJS j7 j8 HB8
    go_wp2_with fail
    go_loopw [60] (fun i wr => ∃ n : Nat, n ≤ 3 ∧ i = .int .i64 (n : Int) ∧ wr = w8) (fun i _ => 3 - (intOf i).toNat)
    case atStart => exact ⟨0, by omega, rfl, rfl⟩
    case round =>
      obtain ⟨n, hn, rfl, rfl⟩ := hrel
      have hq : n = 0 ∨ n = 1 ∨ n = 2 ∨ n = 3 := by omega
      have HQ9 : Hid ((n = 0 → p0 = true → r0 = true → s0 = true) ∧ (n = 1 → p1 = true → r1 = true → s1 = true) ∧ (n = 2 → p2 = true → r2 = true → s2 = true)) := ⟨fun _ => HQ.out.1, fun _ => HQ.out.2.1, fun _ => HQ.out.2.2⟩
      rcases hq with rfl | rfl | rfl | rfl
      case inl =>
        have h := HQ.out.1
        clear HQ HQ9 HA HB
        cases p0 <;> cases r0 <;> cases s0 <;> simp only [Bool.true_eq_false, Bool.false_eq_true, implies_true, forall_const, imp_false, not_true] at h
        all_goals
          go_wp2_with fail
          go_roundw
          case rel => exact ⟨1, by omega, by go_num, trivial⟩
          case measure => simp [intOf]
      case inr.inl =>
        have h := HQ.out.2.1
        clear HQ HQ9 HA HB
        cases p1 <;> cases r1 <;> cases s1 <;> simp only [Bool.true_eq_false, Bool.false_eq_true, implies_true, forall_const, imp_false, not_true] at h
        all_goals
          go_wp2_with fail
          go_roundw
          case rel => exact ⟨2, by omega, by go_num, trivial⟩
          case measure => simp [intOf]
      case inr.inr.inl =>
        have h := HQ.out.2.2
        clear HQ HQ9 HA HB
        cases p2 <;> cases r2 <;> cases s2 <;> simp only [Bool.true_eq_false, Bool.false_eq_true, implies_true, forall_const, imp_false, not_true] at h
        all_goals
          go_wp2_with fail
          go_roundw
          case rel => exact ⟨3, by omega, by go_num, trivial⟩
          case measure => simp [intOf]
      case inr.inr.inr =>
        have HAL9 : Hid (Calls Tryz.prog 10 #[] wr fun e W' => e = .returned (.bool true) ∧ Hid (Below w.heap.size w W')) := HA.out _ HB.out.1
        clear HQ HQ9 HA HB
        go_wp2_with (go_at_call 10; refine HAL9.out.mono ?_; rintro e w9 ⟨rfl, HZ⟩)
        go_ret
        exact ⟨rfl, HZ.out⟩
theorem order_walk (v : Value) (g : Gr) (u : Value) (h : Gr) (z : Value) (i : Gr) (w : World) (hg : GrV w v g) (hh : GrV w u h) (hi : GrV w z i) (hT : Tb w) : Calls Tryz.prog 3 #[v, u, z] w fun e w' => e = .returned (.bool true) ∧ Below w.heap.size w w' := by
  have hg' := hg
  have hh' := hh
  have hi' := hi
  obtain ⟨ad, len, cap, rfl, h1, h2, h3, h4⟩ := hg'
  obtain ⟨ad', len', cap', rfl, k1, k2, k3, k4⟩ := hh'
  obtain ⟨ad2, len2, cap2, rfl, l1, l2, l3, l4⟩ := hi'
  exact order_core hg hh hi hT
end Go.Proofs.YtkggdjghjdakoaaGreatDoor.Alk
