/- Several texts as one: IsoREq. -/
import Derived.Test.YtaflbooofchimaaGreatDoorJ15IsoKey
import Derived.Test.YtaflbooofchimaaGreatDoorJ20GraphRnod2
import Derived.Test.YtaflbooofchimaaGreatDoorJ23IsoTop
section
/- The document's Equal, Like, Iso, by their contracts. -/
namespace Go.Proofs.YtaflbooofchimaaGreatDoor.Alk
open Utf Rws Pln Flw Grp
open Go.RowKit Go.Shelf
set_option linter.unusedSimpArgs false
set_option linter.unusedVariables false
set_option maxRecDepth 100000
set_option maxHeartbeats 4000000
attribute [local go_sem ↓] Go.wp_at_zero Go.wp_at_succ

theorem ex_u {ns ms : List Nd} {r s : Int} (h : rgG ⟨ns, r⟩ = true) (k : rgG ⟨ms, s⟩ = true) (x y : Nat) : (∃ R, BisD ns ms false R ∧ R x y) ↔ EqP (lab (ris ns)) (lab (ris ms)) (kd (ris ns)) (kd (ris ms)) x y := by
  have e := bisD_u (rg_evn h) (rg_evn k) (kyN_of h) (kyN_of k)
  constructor
  · rintro ⟨R, h1, h2⟩; exact ⟨R, (e R).1 h1, h2⟩
  · rintro ⟨R, h1, h2⟩; exact ⟨R, (e R).2 h1, h2⟩
theorem ex_lu {ns ms : List Nd} {r s : Int} (h : rgG ⟨ns, r⟩ = true) (k : rgG ⟨ms, s⟩ = true) (x y : Nat) : (∃ R, BisD ns ms false R ∧ One R ∧ R x y) ↔ LkP (lab (ris ns)) (lab (ris ms)) (kd (ris ns)) (kd (ris ms)) x y := by
  have e := bisD_u (rg_evn h) (rg_evn k) (kyN_of h) (kyN_of k)
  constructor
  · rintro ⟨R, h1, h2⟩; exact ⟨R, (e R).1 h1, h2⟩
  · rintro ⟨R, h1, h2⟩; exact ⟨R, (e R).2 h1, h2⟩
theorem ex_lo {ns ms : List Nd} {r s : Int} (h : rgG ⟨ns, r⟩ = true) (k : rgG ⟨ms, s⟩ = true) (x y : Nat) : (∃ R, BisD ns ms true R ∧ One R ∧ R x y) ↔ LkP (lab ns) (lab ms) (kd ns) (kd ms) x y := by
  have e := bisD_o (rg_evn h) (kyN_of k)
  constructor
  · rintro ⟨R, h1, h2⟩; exact ⟨R, (e R).1 h1, h2⟩
  · rintro ⟨R, h1, h2⟩; exact ⟨R, (e R).2 h1, h2⟩
theorem prs_eq {ns ms : List Nd} {o q : Bool} {x y : Nat} {l : List (Nat × Nat)} (h : q = true → PrsOk ns ms o x y l) (k : q = false → PrsNo ns ms o x y) : q = true ↔ ∃ R, BisD ns ms o R ∧ R x y := by
  cases q
  · exact ⟨fun e => absurd e (by decide), fun e => absurd e (k rfl)⟩
  · exact ⟨fun _ => (h rfl).yes, fun _ => rfl⟩
theorem prs_lk {ns ms : List Nd} {o q : Bool} {x y : Nat} {l : List (Nat × Nat)} (h : PrsOk ns ms o x y l) (k : q = true ↔ Onc l) : q = true ↔ ∃ R, BisD ns ms o R ∧ One R ∧ R x y := k.trans h.once
theorem prs_nl {ns ms : List Nd} {o : Bool} {x y : Nat} (k : PrsNo ns ms o x y) : false = true ↔ ∃ R, BisD ns ms o R ∧ One R ∧ R x y := ⟨fun e => absurd e (by decide), fun ⟨R, h1, _, h3⟩ => absurd ⟨R, h1, h3⟩ k⟩
theorem requal_core {w : World} {ada adb : Option Addr} {n m capa capb : Nat} {ra rb : Int} {nsa nsb : List Nd} (hln : n ≤ 9223372036854775807) (hlm : m ≤ 9223372036854775807) (hNA : NAt w ada n nsa) (hNB : NAt w adb m nsb) (hSa : Sm2 nsa) (hSb : Sm2 nsb) :
    Calls Tryz.prog 8 #[gv ada n capa ra, gv adb m capb rb] w (BRes w (rgG ⟨nsa, ra⟩ && rgG ⟨nsb, rb⟩) (EqP (lab (ris nsa)) (lab (ris nsb)) (kd (ris nsa)) (kd (ris nsb)) ra.toNat rb.toNat)) := by
  have HLa : Hid (n = nsa.length) := hNA.1
  have HLb : Hid (m = nsb.length) := hNB.1
  have h0 := TwS.new w (.slice ada n capa) (.int .i64 ra) (.slice adb m capb) (.int .i64 rb)
  have HA : Hid (∀ W', Hid (TwS w W' w.heap.size (w.heap.size + 1) (.slice ada n capa) (.int .i64 ra) (.slice adb m capb) (.int .i64 rb)) → Calls Tryz.prog 25 #[gv ada n capa ra] W' fun e w'' => e = .returned (.bool (rgG ⟨nsa, ra⟩)) ∧ Hid (TwS w w'' w.heap.size (w.heap.size + 1) (.slice ada n capa) (.int .i64 ra) (.slice adb m capb) (.int .i64 rb))) :=
    fun w' h => (rright12_core hln (hNA.later h.out.bl (Nat.le_refl _)) hSa).mono (fun e w'' q => ⟨q.1, h.out.later q.2⟩)
  have HB : Hid (∀ W', Hid (TwS w W' w.heap.size (w.heap.size + 1) (.slice ada n capa) (.int .i64 ra) (.slice adb m capb) (.int .i64 rb)) → Calls Tryz.prog 25 #[gv adb m capb rb] W' fun e w'' => e = .returned (.bool (rgG ⟨nsb, rb⟩)) ∧ Hid (TwS w w'' w.heap.size (w.heap.size + 1) (.slice ada n capa) (.int .i64 ra) (.slice adb m capb) (.int .i64 rb))) :=
    fun w' h => (rright12_core hlm (hNB.later h.out.bl (Nat.le_refl _)) hSb).mono (fun e w'' q => ⟨q.1, h.out.later q.2⟩)
  cases hqa : rgG ⟨nsa, ra⟩
  · rw [hqa] at HA
    clear HB hSa hSb hNA hNB
    go_enter Tryz.func8, Tryz.ntmps8
    go_wp2_with fail
    generalize (w.alloc (.cells #[.slice ada n capa, .int .i64 ra] 24)).alloc (.cells #[.slice adb m capb, .int .i64 rb] 24) = W0 at h0 ⊢
    refine (HA.out _ h0).mono ?_
    rintro e w1 ⟨rfl, H1⟩
    clear HA h0
    go_wp2
    go_ret2
    exact bres_no (by simp) H1.out.bl
  · rw [hqa] at HA
    cases hqb : rgG ⟨nsb, rb⟩
    · rw [hqb] at HB
      clear hSa hSb hNA hNB
      go_enter Tryz.func8, Tryz.ntmps8
      go_wp2_with fail
      generalize (w.alloc (.cells #[.slice ada n capa, .int .i64 ra] 24)).alloc (.cells #[.slice adb m capb, .int .i64 rb] 24) = W0 at h0 ⊢
      refine (HA.out _ h0).mono ?_
      rintro e w1 ⟨rfl, H1⟩
      obtain ⟨d0, d1⟩ := H1.out.b.c2
      go_wp2_with (go_at_call 25; refine (HB.out _ H1).mono ?_; rintro e w2 ⟨rfl, H2⟩)
      go_ret2
      exact bres_no (by simp) H2.out.bl
    · obtain ⟨f1, f2, f3⟩ := rgG_facts hqa
      have f4 := (hSa f1).2
      rw [← HLa.out] at f1 f2 f3
      obtain ⟨x, rfl, hx⟩ := isP_nat f2
      obtain ⟨g1, g2, g3⟩ := rgG_facts hqb
      have g4 := (hSb g1).2
      rw [← HLb.out] at g1 g2 g3
      obtain ⟨y, rfl, hy⟩ := isP_nat g2
      rw [hqb] at HB
      rw [Int.toNat_natCast, Int.toNat_natCast]
      have HX := (show Hid _ from ex_u hqa hqb x y)
      have HP : Hid (∀ W', Hid (TwS w W' w.heap.size (w.heap.size + 1) (.slice ada n capa) (.int .i64 (x : Int)) (.slice adb m capb) (.int .i64 (y : Int))) → Calls Tryz.prog 26 #[gv ada n capa (x : Int), gv adb m capb (y : Int), .bool false] W' fun e w'' => ∃ (la : Option Addr) (ll lc : Nat) (q : Bool), e = .returned (.tuple #[.slice la ll lc, .bool q]) ∧ Hid (∃ l, PAt w'' la ll l ∧ ll ≤ 1000000000 ∧ (q = true → PrsOk nsa nsb false x y l) ∧ (q = false → PrsNo nsa nsb false x y) ∧ Below w.heap.size w w'')) :=
        fun w' h => (pairs_any false f1 g1 (hNA.later h.out.bl (Nat.le_refl _)) (hNB.later h.out.bl (Nat.le_refl _)) f3 g3 f4 g4 hx hy).mono (fun e w'' z => by
          obtain ⟨la, ll, lc, q, z1, z2⟩ := z
          obtain ⟨l, p0, p9, p1, p2, p3⟩ := z2.out
          exact ⟨la, ll, lc, q, z1, l, p0, p9, p1, p2, h.out.bl.trans (p3.mono h.out.bl.size)⟩)
      clear hSa hSb hNA hNB f1 f2 f3 g1 g2 g3 f4 g4
      go_enter Tryz.func8, Tryz.ntmps8
      go_wp2_with fail
      generalize (w.alloc (.cells #[.slice ada n capa, .int .i64 (x : Int)] 24)).alloc (.cells #[.slice adb m capb, .int .i64 (y : Int)] 24) = W0 at h0 ⊢
      refine (HA.out _ h0).mono ?_
      rintro e w1 ⟨rfl, H1⟩
      obtain ⟨d0, d1⟩ := H1.out.b.c2
      go_upto_region 3 with (go_at_call 25; refine (HB.out _ H1).mono ?_; rintro e w2 ⟨rfl, H2⟩)
      clear d0 d1
      obtain ⟨c0, c1⟩ := H2.out.a.c2
      obtain ⟨c2, c3⟩ := H2.out.b.c2
      go_wp2_with (go_at_call 26; refine (HP.out _ H2).mono ?_; rintro e w3 ⟨la, ll, lc, q, rfl, H3⟩)
      go_ret2
      obtain ⟨l, _, _, p1, p2, p3⟩ := H3.out
      exact bres_yes (by simp) ((prs_eq p1 p2).trans (HX.out)) p3
theorem requal_any {w : World} {v u : Value} {g h : Gr} (hg : GrV w v g) (hh : GrV w u h) (hSa : Sm2 g.nodes) (hSb : Sm2 h.nodes) :
    Calls Tryz.prog 8 #[v, u] w (BRes w (rgG g && rgG h) (EqP (lab (ris g.nodes)) (lab (ris h.nodes)) (kd (ris g.nodes)) (kd (ris h.nodes)) g.root.toNat h.root.toNat)) := by
  obtain ⟨ad, len, cap, rfl, h1, h2, h3, h4⟩ := hg
  obtain ⟨ad', len', cap', rfl, k1, k2, k3, k4⟩ := hh
  have : maxLen = 9223372036854775807 := rfl
  exact requal_core (by omega) (by omega) h4 k4 hSa hSb
theorem rlike_core {w : World} {ada adb : Option Addr} {n m capa capb : Nat} {ra rb : Int} {nsa nsb : List Nd} (hln : n ≤ 9223372036854775807) (hlm : m ≤ 9223372036854775807) (hNA : NAt w ada n nsa) (hNB : NAt w adb m nsb) (hSa : Sm2 nsa) (hSb : Sm2 nsb) :
    Calls Tryz.prog 10 #[gv ada n capa ra, gv adb m capb rb] w (BRes w (rgG ⟨nsa, ra⟩ && rgG ⟨nsb, rb⟩) (LkP (lab (ris nsa)) (lab (ris nsb)) (kd (ris nsa)) (kd (ris nsb)) ra.toNat rb.toNat)) := by
  have HLa : Hid (n = nsa.length) := hNA.1
  have HLb : Hid (m = nsb.length) := hNB.1
  have h0 := TwS.new w (.slice ada n capa) (.int .i64 ra) (.slice adb m capb) (.int .i64 rb)
  have HA : Hid (∀ W', Hid (TwS w W' w.heap.size (w.heap.size + 1) (.slice ada n capa) (.int .i64 ra) (.slice adb m capb) (.int .i64 rb)) → Calls Tryz.prog 25 #[gv ada n capa ra] W' fun e w'' => e = .returned (.bool (rgG ⟨nsa, ra⟩)) ∧ Hid (TwS w w'' w.heap.size (w.heap.size + 1) (.slice ada n capa) (.int .i64 ra) (.slice adb m capb) (.int .i64 rb))) :=
    fun w' h => (rright12_core hln (hNA.later h.out.bl (Nat.le_refl _)) hSa).mono (fun e w'' q => ⟨q.1, h.out.later q.2⟩)
  have HB : Hid (∀ W', Hid (TwS w W' w.heap.size (w.heap.size + 1) (.slice ada n capa) (.int .i64 ra) (.slice adb m capb) (.int .i64 rb)) → Calls Tryz.prog 25 #[gv adb m capb rb] W' fun e w'' => e = .returned (.bool (rgG ⟨nsb, rb⟩)) ∧ Hid (TwS w w'' w.heap.size (w.heap.size + 1) (.slice ada n capa) (.int .i64 ra) (.slice adb m capb) (.int .i64 rb))) :=
    fun w' h => (rright12_core hlm (hNB.later h.out.bl (Nat.le_refl _)) hSb).mono (fun e w'' q => ⟨q.1, h.out.later q.2⟩)
  cases hqa : rgG ⟨nsa, ra⟩
  · rw [hqa] at HA
    clear HB hSa hSb hNA hNB
    go_enter Tryz.func10, Tryz.ntmps10
    go_wp2_with fail
    generalize (w.alloc (.cells #[.slice ada n capa, .int .i64 ra] 24)).alloc (.cells #[.slice adb m capb, .int .i64 rb] 24) = W0 at h0 ⊢
    refine (HA.out _ h0).mono ?_
    rintro e w1 ⟨rfl, H1⟩
    clear HA h0
    go_wp2
    go_ret2
    exact bres_no (by simp) H1.out.bl
  · rw [hqa] at HA
    cases hqb : rgG ⟨nsb, rb⟩
    · rw [hqb] at HB
      clear hSa hSb hNA hNB
      go_enter Tryz.func10, Tryz.ntmps10
      go_wp2_with fail
      generalize (w.alloc (.cells #[.slice ada n capa, .int .i64 ra] 24)).alloc (.cells #[.slice adb m capb, .int .i64 rb] 24) = W0 at h0 ⊢
      refine (HA.out _ h0).mono ?_
      rintro e w1 ⟨rfl, H1⟩
      obtain ⟨d0, d1⟩ := H1.out.b.c2
      go_wp2_with (go_at_call 25; refine (HB.out _ H1).mono ?_; rintro e w2 ⟨rfl, H2⟩)
      go_ret2
      exact bres_no (by simp) H2.out.bl
    · obtain ⟨f1, f2, f3⟩ := rgG_facts hqa
      have f4 := (hSa f1).2
      rw [← HLa.out] at f1 f2 f3
      obtain ⟨x, rfl, hx⟩ := isP_nat f2
      obtain ⟨g1, g2, g3⟩ := rgG_facts hqb
      have g4 := (hSb g1).2
      rw [← HLb.out] at g1 g2 g3
      obtain ⟨y, rfl, hy⟩ := isP_nat g2
      rw [hqb] at HB
      rw [Int.toNat_natCast, Int.toNat_natCast]
      have HX := (show Hid _ from ex_lu hqa hqb x y)
      have HP : Hid (∀ W', Hid (TwS w W' w.heap.size (w.heap.size + 1) (.slice ada n capa) (.int .i64 (x : Int)) (.slice adb m capb) (.int .i64 (y : Int))) → Calls Tryz.prog 26 #[gv ada n capa (x : Int), gv adb m capb (y : Int), .bool false] W' fun e w'' => ∃ (la : Option Addr) (ll lc : Nat) (q : Bool), e = .returned (.tuple #[.slice la ll lc, .bool q]) ∧ Hid (∃ l, PAt w'' la ll l ∧ ll ≤ 1000000000 ∧ (q = true → PrsOk nsa nsb false x y l) ∧ (q = false → PrsNo nsa nsb false x y) ∧ Below w.heap.size w w'')) :=
        fun w' h => (pairs_any false f1 g1 (hNA.later h.out.bl (Nat.le_refl _)) (hNB.later h.out.bl (Nat.le_refl _)) f3 g3 f4 g4 hx hy).mono (fun e w'' z => by
          obtain ⟨la, ll, lc, q, z1, z2⟩ := z
          obtain ⟨l, p0, p9, p1, p2, p3⟩ := z2.out
          exact ⟨la, ll, lc, q, z1, l, p0, p9, p1, p2, h.out.bl.trans (p3.mono h.out.bl.size)⟩)
      clear hSa hSb hNA hNB f1 f2 f3 g1 g2 g3 f4 g4
      go_enter Tryz.func10, Tryz.ntmps10
      go_wp2_with fail
      generalize (w.alloc (.cells #[.slice ada n capa, .int .i64 (x : Int)] 24)).alloc (.cells #[.slice adb m capb, .int .i64 (y : Int)] 24) = W0 at h0 ⊢
      refine (HA.out _ h0).mono ?_
      rintro e w1 ⟨rfl, H1⟩
      obtain ⟨d0, d1⟩ := H1.out.b.c2
      go_upto_region 3 with (go_at_call 25; refine (HB.out _ H1).mono ?_; rintro e w2 ⟨rfl, H2⟩)
      clear d0 d1
      obtain ⟨c0, c1⟩ := H2.out.a.c2
      obtain ⟨c2, c3⟩ := H2.out.b.c2
      go_upto_region 4 with (go_at_call 26; refine (HP.out _ H2).mono ?_; rintro e w3 ⟨la, ll, lc, q, rfl, H3⟩)
      obtain ⟨l, p0, p9, p1, p2, p3⟩ := H3.out
      cases q
      · have HF : Hid (BRes w (true && true) (LkP (lab (ris nsa)) (lab (ris nsb)) (kd (ris nsa)) (kd (ris nsb)) (x : Nat) (y : Nat)) (.returned (.tuple #[.bool false, .int .i64 0])) w3) := bres_yes (by simp) ((prs_nl (p2 rfl)).trans HX.out) p3
        clear p0 p9 p1 p2 p3 H3 HX HP HB
        go_wp2
        go_ret2
        exact HF.out
      · have HO : Hid (Calls Tryz.prog 28 #[.slice la ll lc] w3 fun e w4 => ∃ q : Bool, e = .returned (.bool q) ∧ Hid (BRes w (true && true) (LkP (lab (ris nsa)) (lab (ris nsb)) (kd (ris nsa)) (kd (ris nsb)) (x : Nat) (y : Nat)) (.returned (.tuple #[.bool q, .int .i64 0])) w4)) := (once_any p9 p0).mono (fun e w4 z => by
          obtain ⟨q, z1, z2⟩ := z
          exact ⟨q, z1, bres_yes (by simp) ((prs_lk (p1 rfl) z2.out.1).trans HX.out) (p3.trans (z2.out.2.mono p3.size))⟩)
        clear p0 p9 p1 p2 p3 H3 HX HP HB
        go_wp2_with (go_at_call 28; refine HO.out.mono ?_; rintro e w4 ⟨q, rfl, H4⟩)
        go_ret2
        exact H4.out
theorem rlike_any {w : World} {v u : Value} {g h : Gr} (hg : GrV w v g) (hh : GrV w u h) (hSa : Sm2 g.nodes) (hSb : Sm2 h.nodes) :
    Calls Tryz.prog 10 #[v, u] w (BRes w (rgG g && rgG h) (LkP (lab (ris g.nodes)) (lab (ris h.nodes)) (kd (ris g.nodes)) (kd (ris h.nodes)) g.root.toNat h.root.toNat)) := by
  obtain ⟨ad, len, cap, rfl, h1, h2, h3, h4⟩ := hg
  obtain ⟨ad', len', cap', rfl, k1, k2, k3, k4⟩ := hh
  have : maxLen = 9223372036854775807 := rfl
  exact rlike_core (by omega) (by omega) h4 k4 hSa hSb
theorem riso_core {w : World} {ada adb : Option Addr} {n m capa capb : Nat} {ra rb : Int} {nsa nsb : List Nd} (hln : n ≤ 9223372036854775807) (hlm : m ≤ 9223372036854775807) (hNA : NAt w ada n nsa) (hNB : NAt w adb m nsb) (hSa : Sm2 nsa) (hSb : Sm2 nsb) :
    Calls Tryz.prog 12 #[gv ada n capa ra, gv adb m capb rb] w (BRes w (rgG ⟨nsa, ra⟩ && rgG ⟨nsb, rb⟩) (LkP (lab nsa) (lab nsb) (kd nsa) (kd nsb) ra.toNat rb.toNat)) := by
  have HLa : Hid (n = nsa.length) := hNA.1
  have HLb : Hid (m = nsb.length) := hNB.1
  have h0 := TwS.new w (.slice ada n capa) (.int .i64 ra) (.slice adb m capb) (.int .i64 rb)
  have HA : Hid (∀ W', Hid (TwS w W' w.heap.size (w.heap.size + 1) (.slice ada n capa) (.int .i64 ra) (.slice adb m capb) (.int .i64 rb)) → Calls Tryz.prog 25 #[gv ada n capa ra] W' fun e w'' => e = .returned (.bool (rgG ⟨nsa, ra⟩)) ∧ Hid (TwS w w'' w.heap.size (w.heap.size + 1) (.slice ada n capa) (.int .i64 ra) (.slice adb m capb) (.int .i64 rb))) :=
    fun w' h => (rright12_core hln (hNA.later h.out.bl (Nat.le_refl _)) hSa).mono (fun e w'' q => ⟨q.1, h.out.later q.2⟩)
  have HB : Hid (∀ W', Hid (TwS w W' w.heap.size (w.heap.size + 1) (.slice ada n capa) (.int .i64 ra) (.slice adb m capb) (.int .i64 rb)) → Calls Tryz.prog 25 #[gv adb m capb rb] W' fun e w'' => e = .returned (.bool (rgG ⟨nsb, rb⟩)) ∧ Hid (TwS w w'' w.heap.size (w.heap.size + 1) (.slice ada n capa) (.int .i64 ra) (.slice adb m capb) (.int .i64 rb))) :=
    fun w' h => (rright12_core hlm (hNB.later h.out.bl (Nat.le_refl _)) hSb).mono (fun e w'' q => ⟨q.1, h.out.later q.2⟩)
  cases hqa : rgG ⟨nsa, ra⟩
  · rw [hqa] at HA
    clear HB hSa hSb hNA hNB
    go_enter Tryz.func12, Tryz.ntmps12
    go_wp2_with fail
    generalize (w.alloc (.cells #[.slice ada n capa, .int .i64 ra] 24)).alloc (.cells #[.slice adb m capb, .int .i64 rb] 24) = W0 at h0 ⊢
    refine (HA.out _ h0).mono ?_
    rintro e w1 ⟨rfl, H1⟩
    clear HA h0
    go_wp2
    go_ret2
    exact bres_no (by simp) H1.out.bl
  · rw [hqa] at HA
    cases hqb : rgG ⟨nsb, rb⟩
    · rw [hqb] at HB
      clear hSa hSb hNA hNB
      go_enter Tryz.func12, Tryz.ntmps12
      go_wp2_with fail
      generalize (w.alloc (.cells #[.slice ada n capa, .int .i64 ra] 24)).alloc (.cells #[.slice adb m capb, .int .i64 rb] 24) = W0 at h0 ⊢
      refine (HA.out _ h0).mono ?_
      rintro e w1 ⟨rfl, H1⟩
      obtain ⟨d0, d1⟩ := H1.out.b.c2
      go_wp2_with (go_at_call 25; refine (HB.out _ H1).mono ?_; rintro e w2 ⟨rfl, H2⟩)
      go_ret2
      exact bres_no (by simp) H2.out.bl
    · obtain ⟨f1, f2, f3⟩ := rgG_facts hqa
      have f4 := (hSa f1).2
      rw [← HLa.out] at f1 f2 f3
      obtain ⟨x, rfl, hx⟩ := isP_nat f2
      obtain ⟨g1, g2, g3⟩ := rgG_facts hqb
      have g4 := (hSb g1).2
      rw [← HLb.out] at g1 g2 g3
      obtain ⟨y, rfl, hy⟩ := isP_nat g2
      rw [hqb] at HB
      rw [Int.toNat_natCast, Int.toNat_natCast]
      have HX := (show Hid _ from ex_lo hqa hqb x y)
      have HP : Hid (∀ W', Hid (TwS w W' w.heap.size (w.heap.size + 1) (.slice ada n capa) (.int .i64 (x : Int)) (.slice adb m capb) (.int .i64 (y : Int))) → Calls Tryz.prog 26 #[gv ada n capa (x : Int), gv adb m capb (y : Int), .bool true] W' fun e w'' => ∃ (la : Option Addr) (ll lc : Nat) (q : Bool), e = .returned (.tuple #[.slice la ll lc, .bool q]) ∧ Hid (∃ l, PAt w'' la ll l ∧ ll ≤ 1000000000 ∧ (q = true → PrsOk nsa nsb true x y l) ∧ (q = false → PrsNo nsa nsb true x y) ∧ Below w.heap.size w w'')) :=
        fun w' h => (pairs_any true f1 g1 (hNA.later h.out.bl (Nat.le_refl _)) (hNB.later h.out.bl (Nat.le_refl _)) f3 g3 f4 g4 hx hy).mono (fun e w'' z => by
          obtain ⟨la, ll, lc, q, z1, z2⟩ := z
          obtain ⟨l, p0, p9, p1, p2, p3⟩ := z2.out
          exact ⟨la, ll, lc, q, z1, l, p0, p9, p1, p2, h.out.bl.trans (p3.mono h.out.bl.size)⟩)
      clear hSa hSb hNA hNB f1 f2 f3 g1 g2 g3 f4 g4
      go_enter Tryz.func12, Tryz.ntmps12
      go_wp2_with fail
      generalize (w.alloc (.cells #[.slice ada n capa, .int .i64 (x : Int)] 24)).alloc (.cells #[.slice adb m capb, .int .i64 (y : Int)] 24) = W0 at h0 ⊢
      refine (HA.out _ h0).mono ?_
      rintro e w1 ⟨rfl, H1⟩
      obtain ⟨d0, d1⟩ := H1.out.b.c2
      go_upto_region 3 with (go_at_call 25; refine (HB.out _ H1).mono ?_; rintro e w2 ⟨rfl, H2⟩)
      clear d0 d1
      obtain ⟨c0, c1⟩ := H2.out.a.c2
      obtain ⟨c2, c3⟩ := H2.out.b.c2
      go_upto_region 4 with (go_at_call 26; refine (HP.out _ H2).mono ?_; rintro e w3 ⟨la, ll, lc, q, rfl, H3⟩)
      obtain ⟨l, p0, p9, p1, p2, p3⟩ := H3.out
      cases q
      · have HF : Hid (BRes w (true && true) (LkP (lab nsa) (lab nsb) (kd nsa) (kd nsb) (x : Nat) (y : Nat)) (.returned (.tuple #[.bool false, .int .i64 0])) w3) := bres_yes (by simp) ((prs_nl (p2 rfl)).trans HX.out) p3
        clear p0 p9 p1 p2 p3 H3 HX HP HB
        go_wp2
        go_ret2
        exact HF.out
      · have HO : Hid (Calls Tryz.prog 28 #[.slice la ll lc] w3 fun e w4 => ∃ q : Bool, e = .returned (.bool q) ∧ Hid (BRes w (true && true) (LkP (lab nsa) (lab nsb) (kd nsa) (kd nsb) (x : Nat) (y : Nat)) (.returned (.tuple #[.bool q, .int .i64 0])) w4)) := (once_any p9 p0).mono (fun e w4 z => by
          obtain ⟨q, z1, z2⟩ := z
          exact ⟨q, z1, bres_yes (by simp) ((prs_lk (p1 rfl) z2.out.1).trans HX.out) (p3.trans (z2.out.2.mono p3.size))⟩)
        clear p0 p9 p1 p2 p3 H3 HX HP HB
        go_wp2_with (go_at_call 28; refine HO.out.mono ?_; rintro e w4 ⟨q, rfl, H4⟩)
        go_ret2
        exact H4.out
theorem riso_any {w : World} {v u : Value} {g h : Gr} (hg : GrV w v g) (hh : GrV w u h) (hSa : Sm2 g.nodes) (hSb : Sm2 h.nodes) :
    Calls Tryz.prog 12 #[v, u] w (BRes w (rgG g && rgG h) (LkP (lab g.nodes) (lab h.nodes) (kd g.nodes) (kd h.nodes) g.root.toNat h.root.toNat)) := by
  obtain ⟨ad, len, cap, rfl, h1, h2, h3, h4⟩ := hg
  obtain ⟨ad', len', cap', rfl, k1, k2, k3, k4⟩ := hh
  have : maxLen = 9223372036854775807 := rfl
  exact riso_core (by omega) (by omega) h4 k4 hSa hSb
end Go.Proofs.YtaflbooofchimaaGreatDoor.Alk
end
