/- Several texts as one: FlowRcnt, GraphRcomZ, LayRtm. -/
import Derived.Test.YtaphijgbebhdlaaGreatDoorV48FlowRright
import Derived.Test.YtaphijgbebhdlaaGreatDoorV45FlowRnameQ
import Derived.Test.YtaphijgbebhdlaaGreatDoorV09FlowAllow
import Derived.Test.YtaphijgbebhdlaaGreatDoorV44GraphRad2
import Derived.Test.YtaphijgbebhdlaaGreatDoorV22GraphPlc2
import Derived.Test.YtaphijgbebhdlaaGreatDoorV41LayRtp
import Derived.Test.YtaphijgbebhdlaaGreatDoorV42GraphMayP
section
/- The document's Right. -/
namespace Go.Proofs.YtaphijgbebhdlaaGreatDoor.Flw
open Utf Rws Pln
open Go.RowKit
set_option linter.unusedSimpArgs false
set_option linter.unusedVariables false
set_option maxRecDepth 100000
set_option maxHeartbeats 2000000

theorem manyL_two (f c : Tr → Nat) : ∀ (ks : List Tr) (n : Nat), (∀ k ∈ ks, (c k ≤ 4096 → f k = c k) ∧ (4096 < c k → 4096 < f k)) →
    (n + (ks.map c).sum ≤ 4096 → manyL f ks n = n + (ks.map c).sum) ∧ (4096 < n + (ks.map c).sum → 4096 < manyL f ks n)
  | [], n, h => ⟨fun _ => rfl, fun h => h⟩
  | k :: ks, n, h => by
    have hk := h k (by simp)
    simp only [List.map_cons, List.sum_cons]
    rw [manyL]
    constructor
    · intro hs
      have e := hk.1 (by omega)
      have ih := (manyL_two f c ks (n + f k) (fun z hz => h z (by simp [hz]))).1
      rw [if_pos (by omega), ih (by omega)]
      omega
    · intro hs
      by_cases hn : n ≤ 4096
      · rw [if_pos hn]
        refine (manyL_two f c ks (n + f k) (fun z hz => h z (by simp [hz]))).2 ?_
        by_cases hc : c k ≤ 4096
        · have e := hk.1 hc
          omega
        · have e := hk.2 (by omega)
          omega
      · rw [if_neg hn]; omega
theorem kids_of_rgt {D : Nat} {t : Tr} (h : rgt (D + 1) t = true) : ∀ k ∈ t.kids, rgt D k = true := by
  unfold rgt rstep at h
  simp only [Bool.and_eq_true] at h
  have h2 := h.2
  by_cases c : t.kind ≠ 5 ∧ t.kind ≠ 6
  · rw [if_pos c] at h2
    have e : t.kids = [] := by simpa using h2
    rw [e]; intro k hk; cases hk
  · rw [if_neg c] at h2
    simp only [Bool.and_eq_true, List.all_eq_true] at h2
    exact h2.2
theorem kids_of_rgt0 {t : Tr} (h : rgt 0 t = true) : t.kids = [] := by
  unfold rgt rstep at h
  simp only [Bool.and_eq_true] at h
  have h2 := h.2
  by_cases c : t.kind ≠ 5 ∧ t.kind ≠ 6
  · rw [if_pos c] at h2
    simpa using h2
  · rw [if_neg c] at h2; cases h2
theorem manyT_two : ∀ (D d deep : Nat) (t : Tr), rgt D t = true → D + deep = 64 → D < d → (cntT D t ≤ 4096 → manyT d deep t = cntT D t) ∧ (4096 < cntT D t → 4096 < manyT d deep t)
  | 0, d + 1, deep, t, h, hd, hl => by
    have e := kids_of_rgt0 h
    have e1 : manyT (d + 1) deep t = 1 := by
      unfold manyT
      rw [e]
      split <;> rfl
    rw [e1]
    exact ⟨fun _ => rfl, fun h => absurd h (show ¬ 4096 < 1 by decide)⟩
  | D + 1, d + 1, deep, t, h, hd, hl => by
    have e1 : manyT (d + 1) deep t = manyL (fun k => manyT d (deep + 1) k) t.kids 1 := by
      rw [manyT, if_pos (by omega)]
    rw [e1]
    exact manyL_two _ (fun k => cntT D k) t.kids 1 (fun k hk => manyT_two D d (deep + 1) k (kids_of_rgt h k hk) (by omega) (by omega))
theorem rRight_any {d : Nat} {v : Value} {t : Tr} {w : World} (hd : 64 < d) (hb : brief d t) (h : TrV w d v t) : Calls Tryz.prog 37 #[v] w fun e w' => e = .returned (.bool (rgh d t)) ∧ Below w.heap.size w w' := by
  obtain ⟨ad, len, cap, hv⟩ := h.open4
  have b1 := below_alloc w (.cells #[.int .i64 t.kind, .string (mk t.text), .string (mk t.anc), .slice ad len cap] 29)
  have n1 := Bx.new w #[.int .i64 t.kind, .string (mk t.text), .string (mk t.anc), .slice ad len cap] 29
  have HM : Hid (Calls Tryz.prog 57 #[v, .int .i64 0] (w.alloc (.cells #[.int .i64 t.kind, .string (mk t.text), .string (mk t.anc), .slice ad len cap] 29)) fun e w' => e = .returned (.int .i64 (manyT d 0 t : Int)) ∧ Hid (Below w.heap.size w w' ∧ Bx w' w.heap.size #[.int .i64 t.kind, .string (mk t.text), .string (mk t.anc), .slice ad len cap] 29)) :=
    (rmany_any d v t 0 _ (h.later b1 (Nat.le_refl _)) (by omega)).mono (fun e w' g => ⟨g.1, b1.trans (g.2.mono b1.size), n1.later g.2⟩)
  have HR : Hid (∀ w1, Below w.heap.size w w1 → Calls Tryz.prog 58 #[v, .int .i64 0] w1 fun e w' => e = .returned (.bool (rgt 64 t)) ∧ Hid (Below w.heap.size w w')) := fun w1 c1 =>
    (rright_any d v t 0 w1 (h.later c1 (Nat.le_refl _)) hb (by omega)).mono (fun e w' g => by
      obtain ⟨q, e1, hq, hb2⟩ := g
      have e2 : q = rgt 64 t := by
        cases hr : rgt 64 t
        · cases q
          · rfl
          · have := hq.1 rfl; rw [Nat.sub_zero, hr] at this; cases this
        · exact hq.2 hr
      exact ⟨by rw [e1, e2], c1.trans (hb2.mono c1.size)⟩)
  have hml := manyT_le d 0 t
  have hg : rgh d t = (decide (manyT d 0 t ≤ 4096) && rgt 64 t) := by
    rw [rgh_iff hd]
    cases hr : rgt 64 t
    · simp
    · have h2 := manyT_two 64 d 0 t hr rfl hd
      by_cases hc : cntT 64 t ≤ 4096
      · rw [h2.1 hc]; simp [hc]
      · have := h2.2 (by omega)
        rw [decide_eq_false hc, decide_eq_false (by omega)]; rfl
  have HG : Hid (rgh d t = (decide (manyT d 0 t ≤ 4096) && rgt 64 t)) := hg
  clear h hb b1 n1 hg
  subst hv
  generalize manyT d 0 t = M at *
  generalize rgt 64 t = q at *
  generalize t.kind = k at *
  generalize t.text = x at *
  generalize t.anc = a at *
  obtain ⟨K0, hK0⟩ : ∃ K0, Hid (K0 = w.heap.size) := ⟨_, rfl⟩
  by_cases hm : M ≤ 4096
  · have HG2 : Hid (rgh d t = q) := by rw [HG.out, decide_eq_true hm]; exact Bool.true_and _
    clear HG
    go_enter Tryz.func37, Tryz.ntmps37
    go_wp2_with fail
    refine HM.out.mono ?_
    rintro e w1 ⟨rfl, H1⟩
    have c0 : w1.cell? ⟨w.heap.size, 0, none⟩ = some (.int .i64 k) := H1.out.2.cell 0
    have c1 : w1.cell? ⟨w.heap.size, 1, none⟩ = some (.string (mk x)) := H1.out.2.cell 1
    have c2 : w1.cell? ⟨w.heap.size, 2, none⟩ = some (.string (mk a)) := H1.out.2.cell 2
    have c3 : w1.cell? ⟨w.heap.size, 3, none⟩ = some (.slice ad len cap) := H1.out.2.cell 3
    have HR2 := HR.out w1 H1.out.1
    go_wp2_with fail
    refine HR2.mono ?_
    rintro e w2 ⟨rfl, H2⟩
    go_wp2
    go_ret
    exact ⟨by rw [HG2.out]; rfl, H2.out⟩
  · have HG2 : Hid (rgh d t = false) := by rw [HG.out, decide_eq_false hm]; exact Bool.false_and _
    have hm' : 4096 < M := by omega
    clear HG
    go_enter Tryz.func37, Tryz.ntmps37
    go_wp2_with fail
    refine HM.out.mono ?_
    rintro e w1 ⟨rfl, H1⟩
    go_wp2
    go_ret
    exact ⟨by rw [HG2.out]; rfl, H1.out.1⟩

end Go.Proofs.YtaphijgbebhdlaaGreatDoor.Flw
end

section
/- The document's Compose, by its contract. -/
namespace Go.Proofs.YtaphijgbebhdlaaGreatDoor.Grp
open Utf Rws Pln Flw
open Go.RowKit Go.Maps
set_option linter.unusedSimpArgs false
set_option linter.unusedVariables false
set_option maxRecDepth 100000
set_option maxHeartbeats 4000000

/-- a maker's nodes are a graph -/
theorem mks_grp {w0 W : World} {K e : Nat} {nv lv : Value} {l : List (Nd × Value)} {an : List (Ln × Nat)} (h : MkS w0 W K nv lv l an e) : ∃ ad len cap, nv = .slice ad len cap ∧ GrP (K + 1) W (gv ad len cap 0) ⟨l.map (·.1), 0⟩ := by
  obtain ⟨ad, cap, rfl, h1, h2⟩ := own_shapeN h.ow
  refine ⟨ad, l.length, cap, rfl, fun W' hs hk => ⟨ad, l.length, cap, rfl, h1, h2, ⟨(by decide : (-9223372036854775808 : Int) ≤ 0), (by decide : (0 : Int) ≤ 9223372036854775807)⟩, by rw [List.length_map], fun hp => ?_⟩⟩
  rcases h.ow.2 with ⟨_, h3⟩ | ⟨g, c, cur, e, hb, hh, _⟩
  · omega
  · cases e
    have hgl : g < W.heap.size := (Array.getElem?_eq_some_iff.1 hh).1
    have hkg := hk g hb hgl
    have hc : ∀ j, j < l.length * 3 → W'.cell? ⟨g, j, none⟩ = (ncs l)[j]? := fun j hj => (World.cell?_of_block (w := W) hkg).trans (h.ow.cellAt j hj)
    refine ⟨g, 0, rfl, by omega, fun i hi => ?_⟩
    have hli : l[i]? = some l[i] := List.getElem?_eq_getElem hi
    obtain ⟨k1, k2, kad, klen, kcap, k3, k4, k5, k6, k7⟩ := (h.kk l[i] (List.getElem_mem hi)).1
    have hg : (l.map (·.1)).getD i nd0 = l[i].1 := by rw [List.getD_eq_getElem?_getD, List.getElem?_map, hli]; rfl
    obtain ⟨m1, m2, m3⟩ := ncs_get l i l[i] hli
    rw [hg]
    refine ⟨kad, klen, kcap, k4, k5, k1, k2, ⟨k6.1, fun hq => ?_⟩, ?_, ?_, ?_⟩
    · obtain ⟨b2, off2, e2, hlt, hcc⟩ := k6.2 hq
      have hbk := (k7 b2 off2 hq e2).1
      exact ⟨b2, off2, e2, by omega, fun j hj => ⟨(hcc j hj).1, (World.cell?_of_block (w := W) (hk b2 hbk hlt)).trans (hcc j hj).2⟩⟩
    · rw [Nat.zero_add, hc _ (by omega)]; exact m1
    · rw [Nat.zero_add, hc _ (by omega)]; exact m2
    · rw [Nat.zero_add, hc _ (by omega), m3, k3]
/-- a maker begins -/
theorem mks_new (W : World) : MkS W (W.alloc (.cells #[.slice none 0 0, .int .i64 0, .slice none 0 0, .int .i64 0] 96)) W.heap.size (.slice none 0 0) (.slice none 0 0) [] [] 0 :=
  ⟨Bx.new _ _ _, World.ownsRow_nil _ _ _ _, World.ownsRow_nil _ _ _ _, fun p hp => absurd hp (by simp), fun g hg => (by cases hg), below_alloc _ _, Nat.le_refl _, fun q hq => absurd hq (by simp), Nat.le_refl _⟩
theorem rcompose_any {w : World} {d : Nat} {v : Value} {t : Tr} (hd : 64 < d) (hb : brief d t) (h : TrV w d v t) (hz : tsz d t ≤ 1000000) : Calls Tryz.prog 23 #[v] w (GRes w (cmOk d t) (cmEr d t) ⟨(cmR d t).2.2.ns, 0⟩) := by
  obtain ⟨ad, len, cap, hv⟩ := h.open4
  obtain ⟨tc, htc⟩ : ∃ tc : Array Value, tc = #[.int .i64 t.kind, .string (mk t.text), .string (mk t.anc), .slice ad len cap] := ⟨_, rfl⟩
  have h0 := CoS.new w tc
  have HR : Hid (∀ w', Hid (CoS w w' tc) → Calls Tryz.prog 37 #[v] w' fun e w'' => e = .returned (.bool (rgh d t)) ∧ Hid (CoS w w'' tc)) :=
    fun w' h' => (rRight_any hd hb (h.later h'.out.bl (Nat.le_refl _))).mono (fun e w'' q => ⟨q.1, h'.out.later q.2⟩)
  subst hv
  have HV : Hid (TrV w d (tv t.kind t.text t.anc ad len cap) t) := h
  cases hq : rgh d t
  · have HE : Hid (cmOk d t = false ∧ cmEr d t = 1) := ⟨by unfold cmOk; rw [hq]; rfl, by unfold cmEr; rw [hq]; rfl⟩
    rw [hq] at HR
    clear h
    subst htc
    go_enter Tryz.func23, Tryz.ntmps23
    go_wp2_with fail
    generalize (w.alloc (.cells #[.int .i64 t.kind, .string (mk t.text), .string (mk t.anc), .slice ad len cap] 29)).alloc (.cells #[.slice none 0 0, .int .i64 0] 24) = W0 at h0 ⊢
    refine (HR.out _ h0).mono ?_
    rintro e w1 ⟨rfl, H1⟩
    obtain ⟨c0, c1⟩ := H1.out.r.c2
    have z0 := H1.out.r.fz 0
    have z1 := H1.out.r.fz 1
    have HB : Hid (_ ∧ _) := ⟨(H1.out.r.set 0 (.slice none 0 0)).set 1 (.int .i64 0), (H1.out.bl.setCell (p := ⟨w.heap.size + 1, 0, none⟩) (by show w.heap.size ≤ w.heap.size + 1; omega) (.slice none 0 0)).setCell (p := ⟨w.heap.size + 1, 1, none⟩) (by show w.heap.size ≤ w.heap.size + 1; omega) (.int .i64 0)⟩
    clear H1 h0 HR HV
    go_wp2
    generalize (w1.setCell ⟨w.heap.size + 1, 0, none⟩ (.slice none 0 0)).setCell ⟨w.heap.size + 1, 1, none⟩ (.int .i64 0) = W9 at HB ⊢
    have g0 : W9.cell? ⟨w.heap.size + 1, 0, none⟩ = some (.slice none 0 0) := HB.out.1.cell 0
    have g1 : W9.cell? ⟨w.heap.size + 1, 1, none⟩ = some (.int .i64 0) := HB.out.1.cell 1
    refine bodyPost_ret (v := .tuple #[gv none 0 0 0, .int .i64 1]) (by simp [results, Tryz.results23, go_sem, g0, g1]) rfl ?_
    exact ⟨by rw [HE.out.1, HE.out.2, if_neg (by decide)], HB.out.2⟩
  · rw [hq] at HR
    clear h
    obtain ⟨R, HRR⟩ : ∃ R, Hid (R = cmR d t) := ⟨_, rfl⟩
    have HP : Hid (∀ W, Hid (CoS w W tc) → Calls Tryz.prog 38 #[.pointer (some ⟨W.heap.size, 0, none⟩), tv t.kind t.text t.anc ad len cap] (W.alloc (.cells #[.slice none 0 0, .int .i64 0, .slice none 0 0, .int .i64 0] 96)) fun e W' => ∃ (a : Int) (na : Option Addr) (nl nc : Nat) (lv : Value), e = .returned (.int .i64 a) ∧ Hid (R.2.1 = 0 → GrP (W.heap.size + 1) W' (gv na nl nc 0) ⟨R.2.2.ns, 0⟩) ∧ Hid (Bx W' W.heap.size #[.slice na nl nc, .int .i64 0, lv, .int .i64 (R.2.1 : Int)] 96) ∧ Hid (CoS w W' tc) ∧ W.heap.size < W'.heap.size) := fun W hW => by
      have hc := mks_new W
      have b1 := below_alloc W (.cells #[.slice none 0 0, .int .i64 0, .slice none 0 0, .int .i64 0] 96)
      refine (radd_any W W.heap.size d _ t _ _ _ [] [] (HV.out.later hW.out.bl (Nat.le_refl _)) hc (by simpa using hz)).mono ?_
      rintro e W' ⟨a, nv', lv', l', an', rfl, ha, hM, hE, _, _, _, hC, _, _, _⟩
      obtain ⟨na, nl, nc, rfl, hg⟩ := mks_grp hM
      have e1 : R = plc d t ⟨([] : List (Nd × Value)).map (·.1), []⟩ := HRR.out
      rw [← e1] at hM hE
      refine ⟨a, na, nl, nc, lv', rfl, fun h0 => ?_, hM.bx, hW.out.later hM.bl, hM.bx.lt⟩
      rw [← (hE h0).2.1]; exact hg
    subst htc
    clear hz HV hb
    go_enter Tryz.func23, Tryz.ntmps23
    go_wp2_with fail
    generalize (w.alloc (.cells #[.int .i64 t.kind, .string (mk t.text), .string (mk t.anc), .slice ad len cap] 29)).alloc (.cells #[.slice none 0 0, .int .i64 0] 24) = W0 at h0 ⊢
    refine (HR.out _ h0).mono ?_
    rintro e w1 ⟨rfl, H1⟩
    go_upto_region 4 with fail
    have HPW : Hid (Calls Tryz.prog 38 _ _ _) := HP.out w1 H1
    have b1 := below_alloc w1 (.cells #[.slice none 0 0, .int .i64 0, .slice none 0 0, .int .i64 0] 96)
    obtain ⟨d0, d1, d2, d3⟩ := (H1.out.later b1).g.c4
    clear b1 HP HR h0
    generalize w1.alloc (.cells #[.slice none 0 0, .int .i64 0, .slice none 0 0, .int .i64 0] 96) = W2 at HPW d0 d1 d2 d3 ⊢
    have hlt1 : w.heap.size + 1 < w1.heap.size := H1.out.r.lt
    obtain ⟨M, hM⟩ : ∃ M, M = w1.heap.size := ⟨_, rfl⟩
    rw [← hM] at HPW hlt1 ⊢
    clear hM H1
    go_upto_region 5 with (go_at_call 38; refine HPW.out.mono ?_; rintro e w3 ⟨a3, na, nl, nc, lv3, rfl, H4, H6, H5, hlt3⟩)
    obtain ⟨c0, c1⟩ := H5.out.r.c2
    have z0 := H5.out.r.fz 0
    have z1 := H5.out.r.fz 1
    obtain ⟨y0, y1, y2, y3⟩ := H6.out.c4
    have hne : M ≠ w.heap.size + 1 := by omega
    clear d0 d1 d2 d3 HPW
    by_cases he : R.2.1 = 0
    · have HE : Hid (cmOk d t = true) := by show _ = _; unfold cmOk; rw [hq, ← HRR.out, he]; rfl
      have he' : ((R.2.1 : Int) != 0) = false := by rw [he]; rfl
      have HR2 : Hid ((cmR d t).2.2.ns = R.2.2.ns) := by rw [HRR.out]; exact rfl
      have H4g := H4.out he
      have HB : Hid (_ ∧ _ ∧ _) := ⟨(H5.out.r.set 0 (.slice na nl nc)).set 1 (.int .i64 0), (H5.out.bl.setCell (p := ⟨w.heap.size + 1, 0, none⟩) (by show w.heap.size ≤ w.heap.size + 1; omega) (.slice na nl nc)).setCell (p := ⟨w.heap.size + 1, 1, none⟩) (by show w.heap.size ≤ w.heap.size + 1; omega) (.int .i64 0), (H4g.set (i := 0) (u := .slice na nl nc) (K := w.heap.size + 1) (by omega)).set (i := 1) (u := .int .i64 0) (K := w.heap.size + 1) (by omega)⟩
      have HMM : Hid (w.heap.size ≤ M + 1) := by show _ ≤ _; omega
      clear he H4 H4g hq
      go_wp2
      generalize (w3.setCell ⟨w.heap.size + 1, 0, none⟩ (.slice na nl nc)).setCell ⟨w.heap.size + 1, 1, none⟩ (.int .i64 0) = W9 at HB ⊢
      have g0 : W9.cell? ⟨w.heap.size + 1, 0, none⟩ = some (.slice na nl nc) := HB.out.1.cell 0
      have g1 : W9.cell? ⟨w.heap.size + 1, 1, none⟩ = some (.int .i64 0) := HB.out.1.cell 1
      refine bodyPost_ret (v := .tuple #[gv na nl nc 0, .int .i64 0]) (by simp [results, Tryz.results23, go_sem, g0, g1]) rfl ?_
      exact ⟨by rw [HE.out, if_pos rfl, HR2.out]; exact ⟨_, rfl, HB.out.2.2.mono HMM.out⟩, HB.out.2.1⟩
    · have HE : Hid (cmOk d t = false ∧ cmEr d t = (R.2.1 : Int)) := ⟨by unfold cmOk; rw [hq, ← HRR.out]; simp [he], by unfold cmEr; rw [hq, if_pos rfl, ← HRR.out]⟩
      have he' : ((R.2.1 : Int) != 0) = true := by simp; omega
      have HB : Hid (_ ∧ _) := And.intro ((H5.out.r.set 0 (.slice none 0 0)).set 1 (.int .i64 0)) ((H5.out.bl.setCell (p := ⟨w.heap.size + 1, 0, none⟩) (by show w.heap.size ≤ w.heap.size + 1; omega) (.slice none 0 0)).setCell (p := ⟨w.heap.size + 1, 1, none⟩) (by show w.heap.size ≤ w.heap.size + 1; omega) (.int .i64 0))
      generalize (R.2.1 : Int) = er at *
      clear he H4 hq
      go_wp2
      go_region
      all_goals
        go_wp2
        generalize (w3.setCell ⟨w.heap.size + 1, 0, none⟩ (.slice none 0 0)).setCell ⟨w.heap.size + 1, 1, none⟩ (.int .i64 0) = W9 at HB ⊢
        have g0 : W9.drew.cell? ⟨w.heap.size + 1, 0, none⟩ = some (.slice none 0 0) := HB.out.1.cell 0
        have g1 : W9.drew.cell? ⟨w.heap.size + 1, 1, none⟩ = some (.int .i64 0) := HB.out.1.cell 1
        refine bodyPost_ret (v := .tuple #[gv none 0 0 0, .int .i64 er]) (by simp [results, Tryz.results23, go_sem, g0, g1]) rfl ?_
        exact ⟨by rw [HE.out.1, HE.out.2, if_neg (by decide)], HB.out.2.drew⟩
end Go.Proofs.YtaphijgbebhdlaaGreatDoor.Grp
end

section
/- The document's Trim, by its contract. -/
namespace Go.Proofs.YtaphijgbebhdlaaGreatDoor.Grp
open Utf Rws Pln Flw
open Go.RowKit
set_option linter.unusedSimpArgs false
set_option linter.unusedVariables false
set_option maxRecDepth 100000
set_option maxHeartbeats 4000000

/-- texts stay short -/
def TxB (B : Nat) (s : Cs) : Prop := ∀ n ∈ s.ns, n.text.length ≤ B
theorem pls_tx {B : Nat} {f : Tr → Cs → Nat × Nat × Cs} (k : Int) : ∀ (ts : List Tr) (hf : ∀ t ∈ ts, ∀ s, TxB B s → TxB B (f t s).2.2) (i : Nat) (ks : List (Int × Ln)) (ps : List Nat) (s : Cs), TxB B s → TxB B (pls f k i ts ks ps s).2.2
  | [], _, i, ks, ps, s, h => h
  | t :: ts, hf, i, ks, ps, s, h => by
    rw [pls]
    have h1 := hf t (by simp) s h
    split
    · exact h
    · split
      · exact pls_tx k ts (fun u hu => hf u (by simp [hu])) _ _ _ _ h1
      · exact h1
theorem plc_tx {B : Nat} : ∀ (d : Nat) (t : Tr) (s : Cs), bri B d t → TxB B s → TxB B (plc d t s).2.2
  | 0, t, s, hb, h => hb.elim
  | d + 1, t, s, hb, h => by
    rw [plc]
    split
    · split <;> exact h
    · have h1 : TxB B (put1 t s) := fun n hn => by
        unfold put1 at hn
        simp only [List.mem_append, List.mem_singleton] at hn
        rcases hn with hn | rfl
        · exact h n hn
        · exact hb.1
      have h2 := pls_tx (B := B) (f := plc d) t.kind t.kids (fun u hu s' hs' => by
        obtain ⟨i, hi, rfl⟩ := List.getElem_of_mem hu
        have := hb.2.2 i hi
        rw [List.getD_eq_getElem?_getD, List.getElem?_eq_getElem hi] at this
        exact plc_tx d _ s' this hs') 0 [] [] _ h1
      intro n hn
      unfold setK at hn
      rcases List.mem_or_eq_of_mem_set hn with hn | rfl
      · exact h2 n hn
      · exact hb.1
/-- what is composed is small enough for the document's functions -/
theorem cm_sm2 {d : Nat} {t : Tr} (hB : brief d t) (h : cmOk d t = true) : Sm2 (cmR d t).2.2.ns := by
  have hb : bri 2147483648 d t := bri.mono (by decide) hB
  unfold cmOk rgh at h
  rw [Bool.and_eq_true] at h
  obtain ⟨n', hn'⟩ := Option.isSome_iff_exists.1 h.1
  have he := of_decide_eq_true h.2
  have hI : anI ⟨[], []⟩ := fun q hq => absurd hq (by simp)
  obtain ⟨_, o⟩ := plc_ext d 0 t ⟨[], []⟩ 0 n' hb hn' hI he
  have hE : Ext ⟨[], []⟩ (cmR d t).2.2 [(cmR d t).1] (n' - 0) := o.ex
  have hn : n' ≤ 4096 := (alw_sound 64 t 0 0 d n' (by omega) hn').2.2
  have hsk := hE.sk
  rw [show (⟨[], []⟩ : Cs).ns.length = 0 from rfl, List.drop_zero] at hsk
  have hK : sumK (cmR d t).2.2.ns ≤ 4096 := by omega
  have hX : TxB 65536 (cmR d t).2.2 := plc_tx d t ⟨[], []⟩ hB (fun n hn => absurd hn (by simp))
  exact fun _ => ⟨fun n hn => ⟨hX n hn, by have := kids_sum hn; omega⟩, by omega⟩
theorem rtrim_core {w : World} {d : Nat} {k : Int} {x a : Ln} {ad : Option Addr} {len cap : Nat} {t : Tr} (hd : 64 < d) (hB : brief d t) (hV : TrV w d (tv k x a ad len cap) t) (hT : Tb w) (hz : tsz d t ≤ 1000000) :
    Calls Tryz.prog 14 #[tv k x a ad len cap] w (LTRes w ((cmR d t).2.2.ns.length + 1) (tmE d t) (tmT d t)) := by
  have h0 := TqS.new w #[.int .i64 k, .string (mk x), .string (mk a), .slice ad len cap]
  have HC0 : ∀ W, TqS w W w.heap.size (w.heap.size + 1) #[.int .i64 k, .string (mk x), .string (mk a), .slice ad len cap] → Calls Tryz.prog 23 #[tv k x a ad len cap] W (GRes W (cmOk d t) (cmEr d t) ⟨(cmR d t).2.2.ns, 0⟩) := fun W h => rcompose_any hd hB (hV.later h.bl (Nat.le_refl _)) hz
  obtain ⟨KR, hKR⟩ : ∃ KR, KR = w.heap.size + 1 := ⟨_, rfl⟩
  have hwK : w.heap.size ≤ KR := by omega
  rw [← hKR] at h0 HC0
  have HKR : Hid (w.heap.size + 1 = KR) := hKR.symm
  obtain ⟨K0, hK0⟩ : ∃ K0, K0 = w.heap.size := ⟨_, rfl⟩
  have HK0 : Hid (w.heap.size = K0) := hK0.symm
  have hK0R : K0 < KR := by omega
  rw [← hK0] at h0 HC0
  clear hK0 hKR
  have HTb : Hid (Tb w) := hT
  cases hc : cmOk d t
  case false =>
    have HE : Hid (tmE d t = cmEr d t) := by show _ = _; unfold tmE; rw [if_neg (by rw [hc]; decide)]
    have HG : Hid (tmT d t = tr0) := by show _ = _; unfold tmT; rw [if_neg (by rw [hc]; decide)]
    have he := cmEr_no hc
    rw [HE.out, HG.out]
    generalize (cmR d t).2.2.ns.length = n
    generalize hEr : cmEr d t = Er at *
    have he2 : (Er != 0) = true := by simpa using he
    have HC : Hid (∀ W, Hid (TqS w W K0 KR #[.int .i64 k, .string (mk x), .string (mk a), .slice ad len cap]) → Calls Tryz.prog 23 #[tv k x a ad len cap] W fun e W' => e = .returned (.tuple #[.agg #[.slice none 0 0, .int .i64 0], .int .i64 Er]) ∧ Hid (TqS w W' K0 KR #[.int .i64 k, .string (mk x), .string (mk a), .slice ad len cap])) := fun W h => (HC0 W h.out).mono (fun e W' q => by
      obtain ⟨q1, q2⟩ := q
      rw [hc, if_neg (by decide)] at q1
      exact ⟨q1, h.out.later q2⟩)
    clear HC0 hV hT hc HE HG hB hd hz hEr HTb he
    go_enter Tryz.func14, Tryz.ntmps14
    go_upto_region 1 with fail
    try rw [HKR.out]
    try rw [HK0.out]
    generalize (w.alloc (.cells #[.int .i64 k, .string (mk x), .string (mk a), .slice ad len cap] 29)).alloc (.cells #[.int .i64 0, .string ⟨#[]⟩, .string ⟨#[]⟩, .slice none 0 0] 29) = W0 at h0 ⊢
    have H0 : Hid (TqS w W0 K0 KR #[.int .i64 k, .string (mk x), .string (mk a), .slice ad len cap]) := h0
    clear h0
    obtain ⟨c0, c1, c2, c3⟩ := H0.out.t.c4
    go_upto_region 3 with (go_at_call 23; refine (HC.out _ H0).mono ?_; rintro e w1 ⟨rfl, H1⟩)
    have H2 : Hid (TqS w (w1.alloc (.cells #[.slice none 0 0, .int .i64 0] 24)) K0 KR #[.int .i64 k, .string (mk x), .string (mk a), .slice ad len cap]) := H1.out.later (below_alloc _ _)
    generalize w1.alloc (.cells #[.slice none 0 0, .int .i64 0] 24) = w2 at H2 ⊢
    clear H0 c0 c1 c2 c3 HC H1
    have HT1 : TrP (KR + 1) w2 (n + 1) (.agg #[.int .i64 0, .string ⟨#[]⟩, .string ⟨#[]⟩, .slice none 0 0]) tr0 := trp_none _ _ _
    obtain ⟨n9, t9, b9⟩ := H2.out.store hwK HT1
    have HN9 : Hid (Bx _ KR _ _) := n9
    have HT9 : Hid (TrP w.heap.size _ _ _ _) := t9
    have HB9 : Hid (Below w.heap.size w _) := b9
    clear n9 t9 b9 HT1
    obtain ⟨r0, r1, r2, r3⟩ := (show Bx w2 KR #[.int .i64 0, .string ⟨#[]⟩, .string ⟨#[]⟩, .slice none 0 0] 29 from H2.out.r).c4
    have z0 := H2.out.r.fz 0
    have z1 := H2.out.r.fz 1
    have z2 := H2.out.r.fz 2
    have z3 := H2.out.r.fz 3
    clear H2
    go_wp2_with fail
    generalize (((w2.setCell ⟨KR, 0, none⟩ (.int .i64 0)).setCell ⟨KR, 1, none⟩ (.string ⟨#[]⟩)).setCell ⟨KR, 2, none⟩ (.string ⟨#[]⟩)).setCell ⟨KR, 3, none⟩ (.slice none 0 0) = W9 at HN9 HT9 HB9 ⊢
    obtain ⟨g0, g1, g2, g3⟩ := HN9.out.c4
    refine bodyPost_ret (v := .tuple #[.agg #[.int .i64 0, .string ⟨#[]⟩, .string ⟨#[]⟩, .slice none 0 0], .int .i64 Er]) (by simp [results, Tryz.results14, go_sem, g0, g1, g2, g3]) rfl ?_
    exact ⟨0, ⟨#[]⟩, ⟨#[]⟩, none, 0, 0, rfl, HT9, HB9⟩
  case true =>
    have HE : Hid (tmE d t = lyE (cmG d t)) := by show _ = _; unfold tmE; rw [if_pos hc]
    have HG : Hid (tmT d t = lyG (cmG d t)) := by show _ = _; unfold tmT; rw [if_pos hc]
    obtain ⟨f1, f2, f3, f4⟩ := cm_facts (bri.mono (by decide) hB) hc
    rw [HE.out, HG.out]
    have HC : Hid (∀ W, Hid (TqS w W K0 KR #[.int .i64 k, .string (mk x), .string (mk a), .slice ad len cap]) → Calls Tryz.prog 23 #[tv k x a ad len cap] W fun e W' => ∃ ga gl gc, e = .returned (.tuple #[.agg #[.slice ga gl gc, .int .i64 0], .int .i64 0]) ∧ Hid (GrV W' (gv ga gl gc 0) (cmG d t)) ∧ Hid (TqS w W' K0 KR #[.int .i64 k, .string (mk x), .string (mk a), .slice ad len cap])) := fun W h => (HC0 W h.out).mono (fun e W' q => by
      obtain ⟨q1, q2⟩ := q
      rw [hc, if_pos rfl] at q1
      obtain ⟨v, rfl, hv⟩ := q1
      have hv2 := hv.v
      obtain ⟨ga, gl, gc, rfl, hr⟩ := hv.v
      exact ⟨ga, gl, gc, rfl, hv2, h.out.later q2⟩)
    have HTr : Hid (∀ W ga gl gc, Hid (TqS w W K0 KR #[.int .i64 k, .string (mk x), .string (mk a), .slice ad len cap]) → GrV W (gv ga gl gc 0) (cmG d t) → Calls Tryz.prog 8 #[gv ga gl gc 0] W fun e W' => ∃ (rk : Int) (rx ry : ByteArray) (rad : Option Addr) (rl rc : Nat), e = .returned (.tuple #[.agg #[.int .i64 rk, .string rx, .string ry, .slice rad rl rc], .int .i64 (lyE (cmG d t))]) ∧ Hid (TrP (KR + 1) W' ((cmG d t).nodes.length + 1) (.agg #[.int .i64 rk, .string rx, .string ry, .slice rad rl rc]) (lyG (cmG d t))) ∧ Hid (TqS w W' K0 KR #[.int .i64 k, .string (mk x), .string (mk a), .slice ad len cap])) := fun W ga gl gc h hg => (rtp_any hg f4 (cm_sm2 hB hc)).mono (fun e W' q => by
      obtain ⟨rk, rx, ry, rad, rl, rc, q1, q2, q3⟩ := q
      exact ⟨rk, rx, ry, rad, rl, rc, q1, q2.out.mono (by have := h.out.r.lt; omega), h.out.later q3.out⟩)
    have hn : (cmR d t).2.2.ns.length = (cmG d t).nodes.length := rfl
    rw [hn]
    generalize cmG d t = g at *
    generalize g.nodes.length = n at *
    generalize lyE g = Er at *
    generalize lyG g = T at *
    clear HC0 hV hT hc HE HG hB hd hz HTb f1 f2 f3 f4 hn
    go_enter Tryz.func14, Tryz.ntmps14
    go_upto_region 1 with fail
    try rw [HKR.out]
    try rw [HK0.out]
    generalize (w.alloc (.cells #[.int .i64 k, .string (mk x), .string (mk a), .slice ad len cap] 29)).alloc (.cells #[.int .i64 0, .string ⟨#[]⟩, .string ⟨#[]⟩, .slice none 0 0] 29) = W0 at h0 ⊢
    have H0 : Hid (TqS w W0 K0 KR #[.int .i64 k, .string (mk x), .string (mk a), .slice ad len cap]) := h0
    clear h0
    obtain ⟨c0, c1, c2, c3⟩ := H0.out.t.c4
    go_upto_region 4 with (go_at_call 23; refine (HC.out _ H0).mono ?_; rintro e w1 ⟨ga, gl, gc, rfl, G1, H1⟩)
    have H2 : Hid (TqS w (w1.alloc (.cells #[.slice ga gl gc, .int .i64 0] 24)) K0 KR #[.int .i64 k, .string (mk x), .string (mk a), .slice ad len cap]) := H1.out.later (below_alloc _ _)
    have G2 : Hid (GrV (w1.alloc (.cells #[.slice ga gl gc, .int .i64 0] 24)) (gv ga gl gc 0) g) := G1.out.later (below_alloc _ _) (Nat.le_refl _)
    have N2 := Bx.new w1 #[.slice ga gl gc, .int .i64 0] 24
    generalize w1.alloc (.cells #[.slice ga gl gc, .int .i64 0] 24) = w2 at H2 G2 N2 ⊢
    generalize w1.heap.size = K4 at N2 ⊢
    obtain ⟨d0, d1⟩ := N2.c2
    clear H0 c0 c1 c2 c3 HC H1 G1 N2
    go_wp2_with (go_at_call 8; refine (HTr.out _ _ _ _ H2 G2.out).mono ?_; rintro r w3 ⟨rk, rx, ry, rad, rl, rc, rfl, HT3, H3⟩; obtain ⟨n9, t9, b9⟩ := H3.out.store hwK HT3.out; have HN9 : Hid (Bx _ KR _ _) := n9; have HT9 : Hid (TrP w.heap.size _ _ _ _) := t9; have HB9 : Hid (Below w.heap.size w _) := b9; clear n9 t9 b9; obtain ⟨r0, r1, r2, r3⟩ := (show Bx w3 KR #[.int .i64 0, .string ⟨#[]⟩, .string ⟨#[]⟩, .slice none 0 0] 29 from H3.out.r).c4; have z0 := H3.out.r.fz 0; have z1 := H3.out.r.fz 1; have z2 := H3.out.r.fz 2; have z3 := H3.out.r.fz 3)
    generalize (((w3.setCell ⟨KR, 0, none⟩ (.int .i64 rk)).setCell ⟨KR, 1, none⟩ (.string rx)).setCell ⟨KR, 2, none⟩ (.string ry)).setCell ⟨KR, 3, none⟩ (.slice rad rl rc) = W9 at HN9 HT9 HB9 ⊢
    obtain ⟨g0, g1, g2, g3⟩ := HN9.out.c4
    refine bodyPost_ret (v := .tuple #[.agg #[.int .i64 rk, .string rx, .string ry, .slice rad rl rc], .int .i64 Er]) (by simp [results, Tryz.results14, go_sem, g0, g1, g2, g3]) rfl ?_
    exact ⟨rk, rx, ry, rad, rl, rc, rfl, HT9, HB9⟩
theorem rtrim_any {w : World} {d : Nat} {v : Value} {t : Tr} (hd : 64 < d) (hB : brief d t) (hV : TrV w d v t) (hT : Tb w) (hz : tsz d t ≤ 1000000) : Calls Tryz.prog 14 #[v] w (LTRes w ((cmR d t).2.2.ns.length + 1) (tmE d t) (tmT d t)) := by
  obtain ⟨ad, len, cap, rfl⟩ := hV.open4
  exact rtrim_core hd hB hV hT hz
end Go.Proofs.YtaphijgbebhdlaaGreatDoor.Grp
end
