/- Several texts as one: GraphRcom, GraphComW. -/
import Derived.Test.YtjlpdmpfemhkpaaGreatDoorQGraphRad2
import Derived.Test.YtjlpdmpfemhkpaaGreatDoorQGgJ
import Derived.Test.YtjlpdmpfemhkpaaGreatDoorQFr
import Derived.Test.YtjlpdmpfemhkpaaGreatDoorQGraphFar
import Derived.Test.YtjlpdmpfemhkpaaGreatDoorQGraphAgS
import Derived.Test.YtjlpdmpfemhkpaaGreatDoorQGraphAlive
import Derived.Test.YtjlpdmpfemhkpaaGreatDoorQGgK
section
/- The document's Compose; GraphComposes: the law's walk. -/
namespace Go.Proofs.YtjlpdmpfemhkpaaGreatDoor.Grp
open Utf Rws Pln Flw
open Go.RowKit Go.Maps
set_option linter.unusedSimpArgs false
set_option linter.unusedVariables false
set_option maxRecDepth 100000
set_option maxHeartbeats 4000000

/-- a maker's nodes are a graph -/
theorem mks_grp {w0 W : World} {K e : Nat} {nv lv : Value} {l : List (Nd × Value)} {an : List (Ln × Nat)} (h : MkS w0 W K nv lv l an e) : ∃ ad len cap, nv = .slice ad len cap ∧ GrP (K + 1) W (gv ad len cap 0) ⟨l.map (·.1), 0⟩ := by
  obtain ⟨ad, cap, rfl, h1, h2⟩ := own_shapeN h.ow
  refine ⟨ad, l.length, cap, rfl, fun W' hs hk => ⟨ad, l.length, cap, rfl, h1, h2, ⟨(by decide : (-9223372036854775808 : Int) ≤ 0), (by decide : (0 : Int) ≤ 9223372036854775807)⟩, by rw [List.length_map], fun hp => ?_⟩⟩
  rcases h.ow.2 with ⟨_, h3⟩ | ⟨g, c, cur, e, hb, hh, _⟩
  · omega
  · cases e
    have hgl : g < W.heap.size := (Array.getElem?_eq_some_iff.1 hh).1
    have hkg := hk g hb hgl
    have hc : ∀ j, j < l.length * 3 → W'.cell? ⟨g, j, none⟩ = (ncs l)[j]? := fun j hj => (World.cell?_of_block (w := W) hkg).trans (h.ow.cellAt j hj)
    refine ⟨g, 0, rfl, by omega, fun i hi => ?_⟩
    have hli : l[i]? = some l[i] := List.getElem?_eq_getElem hi
    obtain ⟨k1, k2, kad, klen, kcap, k3, k4, k5, k6, k7⟩ := (h.kk l[i] (List.getElem_mem hi)).1
    have hg : (l.map (·.1)).getD i nd0 = l[i].1 := by rw [List.getD_eq_getElem?_getD, List.getElem?_map, hli]; rfl
    obtain ⟨m1, m2, m3⟩ := ncs_get l i l[i] hli
    rw [hg]
    refine ⟨kad, klen, kcap, k4, k5, k1, k2, ⟨k6.1, fun hq => ?_⟩, ?_, ?_, ?_⟩
    · obtain ⟨b2, off2, e2, hlt, hcc⟩ := k6.2 hq
      have hbk := (k7 b2 off2 hq e2).1
      exact ⟨b2, off2, e2, by omega, fun j hj => ⟨(hcc j hj).1, (World.cell?_of_block (w := W) (hk b2 hbk hlt)).trans (hcc j hj).2⟩⟩
    · rw [Nat.zero_add, hc _ (by omega)]; exact m1
    · rw [Nat.zero_add, hc _ (by omega)]; exact m2
    · rw [Nat.zero_add, hc _ (by omega), m3, k3]
/-- a maker begins -/
theorem mks_new (W : World) : MkS W (W.alloc (.cells #[.slice none 0 0, .int .i64 0, .slice none 0 0, .int .i64 0] 68)) W.heap.size (.slice none 0 0) (.slice none 0 0) [] [] 0 :=
  ⟨Bx.new _ _ _, World.ownsRow_nil _ _ _ _, World.ownsRow_nil _ _ _ _, fun p hp => absurd hp (by simp), fun g hg => (by cases hg), below_alloc _ _, Nat.le_refl _, fun q hq => absurd hq (by simp), Nat.le_refl _⟩
theorem rcompose_any {w : World} {d : Nat} {v : Value} {t : Tr} (hd : 64 < d) (hb : brief d t) (h : TrV w d v t) (hz : tsz d t ≤ 1000000) : Calls Tryz.prog 9 #[v] w (GRes w (cmOk d t) (cmEr d t) ⟨(cmR d t).2.2.ns, 0⟩) := by
  obtain ⟨ad, len, cap, hv⟩ := h.open4
  obtain ⟨tc, htc⟩ : ∃ tc : Array Value, tc = #[.int .i64 t.kind, .string (mk t.text), .string (mk t.anc), .slice ad len cap] := ⟨_, rfl⟩
  have h0 := CoS.new w tc
  have HR : Hid (∀ w', Hid (CoS w w' tc) → Calls Tryz.prog 29 #[v] w' fun e w'' => e = .returned (.bool (rgh d t)) ∧ Hid (CoS w w'' tc)) :=
    fun w' h' => (rRight_any hd hb (h.later h'.out.bl (Nat.le_refl _))).mono (fun e w'' q => ⟨q.1, h'.out.later q.2⟩)
  subst hv
  have HV : Hid (TrV w d (tv t.kind t.text t.anc ad len cap) t) := h
  cases hq : rgh d t
  · have HE : Hid (cmOk d t = false ∧ cmEr d t = 1) := ⟨by unfold cmOk; rw [hq]; rfl, by unfold cmEr; rw [hq]; rfl⟩
    rw [hq] at HR
    clear h
    subst htc
    go_enter Tryz.func9, Tryz.ntmps9
    go_wp2_with fail
    generalize (w.alloc (.cells #[.int .i64 t.kind, .string (mk t.text), .string (mk t.anc), .slice ad len cap] 24)).alloc (.cells #[.slice none 0 0, .int .i64 0] 30) = W0 at h0 ⊢
    refine (HR.out _ h0).mono ?_
    rintro e w1 ⟨rfl, H1⟩
    obtain ⟨c0, c1⟩ := H1.out.r.c2
    have z0 := H1.out.r.fz 0
    have z1 := H1.out.r.fz 1
    have HB : Hid (_ ∧ _) := ⟨(H1.out.r.set 0 (.slice none 0 0)).set 1 (.int .i64 0), (H1.out.bl.setCell (p := ⟨w.heap.size + 1, 0, none⟩) (by show w.heap.size ≤ w.heap.size + 1; omega) (.slice none 0 0)).setCell (p := ⟨w.heap.size + 1, 1, none⟩) (by show w.heap.size ≤ w.heap.size + 1; omega) (.int .i64 0)⟩
    clear H1 h0 HR HV
    go_wp2
    generalize (w1.setCell ⟨w.heap.size + 1, 0, none⟩ (.slice none 0 0)).setCell ⟨w.heap.size + 1, 1, none⟩ (.int .i64 0) = W9 at HB ⊢
    have g0 : W9.cell? ⟨w.heap.size + 1, 0, none⟩ = some (.slice none 0 0) := HB.out.1.cell 0
    have g1 : W9.cell? ⟨w.heap.size + 1, 1, none⟩ = some (.int .i64 0) := HB.out.1.cell 1
    refine bodyPost_ret (v := .tuple #[gv none 0 0 0, .int .i64 1]) (by simp [results, Tryz.results9, go_sem, g0, g1]) rfl ?_
    exact ⟨by rw [HE.out.1, HE.out.2, if_neg (by decide)], HB.out.2⟩
  · rw [hq] at HR
    clear h
    obtain ⟨R, HRR⟩ : ∃ R, Hid (R = cmR d t) := ⟨_, rfl⟩
    have HP : Hid (∀ W, Hid (CoS w W tc) → Calls Tryz.prog 30 #[.pointer (some ⟨W.heap.size, 0, none⟩), tv t.kind t.text t.anc ad len cap] (W.alloc (.cells #[.slice none 0 0, .int .i64 0, .slice none 0 0, .int .i64 0] 68)) fun e W' => ∃ (a : Int) (na : Option Addr) (nl nc : Nat) (lv : Value), e = .returned (.int .i64 a) ∧ Hid (R.2.1 = 0 → GrP (W.heap.size + 1) W' (gv na nl nc 0) ⟨R.2.2.ns, 0⟩) ∧ Hid (Bx W' W.heap.size #[.slice na nl nc, .int .i64 0, lv, .int .i64 (R.2.1 : Int)] 68) ∧ Hid (CoS w W' tc) ∧ W.heap.size < W'.heap.size) := fun W hW => by
      have hc := mks_new W
      have b1 := below_alloc W (.cells #[.slice none 0 0, .int .i64 0, .slice none 0 0, .int .i64 0] 68)
      refine (radd_any W W.heap.size d _ t _ _ _ [] [] (HV.out.later hW.out.bl (Nat.le_refl _)) hc (by simpa using hz)).mono ?_
      rintro e W' ⟨a, nv', lv', l', an', rfl, ha, hM, hE, _, _, _, hC, _, _, _⟩
      obtain ⟨na, nl, nc, rfl, hg⟩ := mks_grp hM
      have e1 : R = plc d t ⟨([] : List (Nd × Value)).map (·.1), []⟩ := HRR.out
      rw [← e1] at hM hE
      refine ⟨a, na, nl, nc, lv', rfl, fun h0 => ?_, hM.bx, hW.out.later hM.bl, hM.bx.lt⟩
      rw [← (hE h0).2.1]; exact hg
    subst htc
    clear hz HV hb
    go_enter Tryz.func9, Tryz.ntmps9
    go_wp2_with fail
    generalize (w.alloc (.cells #[.int .i64 t.kind, .string (mk t.text), .string (mk t.anc), .slice ad len cap] 24)).alloc (.cells #[.slice none 0 0, .int .i64 0] 30) = W0 at h0 ⊢
    refine (HR.out _ h0).mono ?_
    rintro e w1 ⟨rfl, H1⟩
    go_upto_region 4 with fail
    have HPW : Hid (Calls Tryz.prog 30 _ _ _) := HP.out w1 H1
    have b1 := below_alloc w1 (.cells #[.slice none 0 0, .int .i64 0, .slice none 0 0, .int .i64 0] 68)
    obtain ⟨d0, d1, d2, d3⟩ := (H1.out.later b1).g.c4
    clear b1 HP HR h0
    generalize w1.alloc (.cells #[.slice none 0 0, .int .i64 0, .slice none 0 0, .int .i64 0] 68) = W2 at HPW d0 d1 d2 d3 ⊢
    have hlt1 : w.heap.size + 1 < w1.heap.size := H1.out.r.lt
    obtain ⟨M, hM⟩ : ∃ M, M = w1.heap.size := ⟨_, rfl⟩
    rw [← hM] at HPW hlt1 ⊢
    clear hM H1
    go_upto_region 5 with (go_at_call 30; refine HPW.out.mono ?_; rintro e w3 ⟨a3, na, nl, nc, lv3, rfl, H4, H6, H5, hlt3⟩)
    obtain ⟨c0, c1⟩ := H5.out.r.c2
    have z0 := H5.out.r.fz 0
    have z1 := H5.out.r.fz 1
    obtain ⟨y0, y1, y2, y3⟩ := H6.out.c4
    have hne : M ≠ w.heap.size + 1 := by omega
    clear d0 d1 d2 d3 HPW
    by_cases he : R.2.1 = 0
    · have HE : Hid (cmOk d t = true) := by show _ = _; unfold cmOk; rw [hq, ← HRR.out, he]; rfl
      have he' : ((R.2.1 : Int) != 0) = false := by rw [he]; rfl
      have HR2 : Hid ((cmR d t).2.2.ns = R.2.2.ns) := by rw [HRR.out]; exact rfl
      have H4g := H4.out he
      have HB : Hid (_ ∧ _ ∧ _) := ⟨(H5.out.r.set 0 (.slice na nl nc)).set 1 (.int .i64 0), (H5.out.bl.setCell (p := ⟨w.heap.size + 1, 0, none⟩) (by show w.heap.size ≤ w.heap.size + 1; omega) (.slice na nl nc)).setCell (p := ⟨w.heap.size + 1, 1, none⟩) (by show w.heap.size ≤ w.heap.size + 1; omega) (.int .i64 0), (H4g.set (i := 0) (u := .slice na nl nc) (K := w.heap.size + 1) (by omega)).set (i := 1) (u := .int .i64 0) (K := w.heap.size + 1) (by omega)⟩
      have HMM : Hid (w.heap.size ≤ M + 1) := by show _ ≤ _; omega
      clear he H4 H4g hq
      go_wp2
      generalize (w3.setCell ⟨w.heap.size + 1, 0, none⟩ (.slice na nl nc)).setCell ⟨w.heap.size + 1, 1, none⟩ (.int .i64 0) = W9 at HB ⊢
      have g0 : W9.cell? ⟨w.heap.size + 1, 0, none⟩ = some (.slice na nl nc) := HB.out.1.cell 0
      have g1 : W9.cell? ⟨w.heap.size + 1, 1, none⟩ = some (.int .i64 0) := HB.out.1.cell 1
      refine bodyPost_ret (v := .tuple #[gv na nl nc 0, .int .i64 0]) (by simp [results, Tryz.results9, go_sem, g0, g1]) rfl ?_
      exact ⟨by rw [HE.out, if_pos rfl, HR2.out]; exact ⟨_, rfl, HB.out.2.2.mono HMM.out⟩, HB.out.2.1⟩
    · have HE : Hid (cmOk d t = false ∧ cmEr d t = (R.2.1 : Int)) := ⟨by unfold cmOk; rw [hq, ← HRR.out]; simp [he], by unfold cmEr; rw [hq, if_pos rfl, ← HRR.out]⟩
      have he' : ((R.2.1 : Int) != 0) = true := by simp; omega
      have HB : Hid (_ ∧ _) := And.intro ((H5.out.r.set 0 (.slice none 0 0)).set 1 (.int .i64 0)) ((H5.out.bl.setCell (p := ⟨w.heap.size + 1, 0, none⟩) (by show w.heap.size ≤ w.heap.size + 1; omega) (.slice none 0 0)).setCell (p := ⟨w.heap.size + 1, 1, none⟩) (by show w.heap.size ≤ w.heap.size + 1; omega) (.int .i64 0))
      generalize (R.2.1 : Int) = er at *
      clear he H4 hq
      go_wp2
      go_region
      all_goals
        go_wp2
        generalize (w3.setCell ⟨w.heap.size + 1, 0, none⟩ (.slice none 0 0)).setCell ⟨w.heap.size + 1, 1, none⟩ (.int .i64 0) = W9 at HB ⊢
        have g0 : W9.drew.cell? ⟨w.heap.size + 1, 0, none⟩ = some (.slice none 0 0) := HB.out.1.cell 0
        have g1 : W9.drew.cell? ⟨w.heap.size + 1, 1, none⟩ = some (.int .i64 0) := HB.out.1.cell 1
        refine bodyPost_ret (v := .tuple #[gv none 0 0 0, .int .i64 er]) (by simp [results, Tryz.results9, go_sem, g0, g1]) rfl ?_
        exact ⟨by rw [HE.out.1, HE.out.2, if_neg (by decide)], HB.out.2.drew⟩
end Go.Proofs.YtjlpdmpfemhkpaaGreatDoor.Grp
end

section
/- GraphComposes: the law's walk. -/
namespace Go.Proofs.YtjlpdmpfemhkpaaGreatDoor.Grp
open Utf Rws Pln Flw
open Go.RowKit Go.Maps
set_option linter.unusedSimpArgs false
set_option linter.unusedVariables false
set_option maxRecDepth 100000
set_option maxHeartbeats 4000000

theorem grv_nil (W : World) : GrV W (gv none 0 0 0) ⟨[], 0⟩ := ⟨none, 0, 0, rfl, Nat.le_refl _, Nat.zero_le _, ⟨(by decide : (-9223372036854775808 : Int) ≤ 0), (by decide : (0 : Int) ≤ 9223372036854775807)⟩, rfl, fun h => absurd h (by decide)⟩
def coE (q : Bool) (er : Int) : Int := if q = true then 0 else er
def coN (q : Bool) (ns : List Nd) : List Nd := if q = true then ns else []
/-- what both answer: a graph and an error -/
def CoRes (W : World) (ns : List Nd) (er : Int) (e : Ending) (W' : World) : Prop := ∃ (ad : Option Addr) (len cap : Nat), e = .returned (.tuple #[gv ad len cap 0, .int .i64 er]) ∧ Hid (GrV W' (gv ad len cap 0) ⟨ns, 0⟩) ∧ Hid (Below W.heap.size W W')
theorem co_of {W : World} {q : Bool} {er : Int} {ns : List Nd} {e : Ending} {W' : World} (h : GRes W q er ⟨ns, 0⟩ e W') : CoRes W (coN q ns) (coE q er) e W' := by
  cases q
  · obtain ⟨h1, h2⟩ := h
    rw [if_neg (by decide)] at h1
    exact ⟨none, 0, 0, h1, grv_nil W', h2⟩
  · obtain ⟨h1, h2⟩ := h
    rw [if_pos rfl] at h1
    obtain ⟨v, rfl, hv⟩ := h1
    have hv2 := hv.v
    obtain ⟨ad, len, cap, rfl, _⟩ := hv.v
    exact ⟨ad, len, cap, rfl, hv2, h2⟩
theorem composes_core {w : World} {d : Nat} {k : Int} {x a : Ln} {ad : Option Addr} {len cap : Nat} {t : Tr} (hd : 64 < d) (hV : TrV w d (tv k x a ad len cap) t) (hT : Tb w) : Calls Tryz.prog 3 #[tv k x a ad len cap] w fun e w' => e = .returned (.bool true) ∧ Below w.heap.size w w' := by
  have HA : Hid (∀ W, Below w.heap.size w W → Calls Tryz.prog 7 #[] W fun e W' => e = .returned (.bool true) ∧ Hid (Below w.heap.size w W')) := fun W b => (alive_any (hT.later b)).mono (fun e W' q => ⟨q.1, b.trans (q.2.mono b.size)⟩)
  have HF : Hid (Calls Tryz.prog 6 _ _ _) := far_new hV
  have HC : Hid (fineT 81 t ∧ cntT 81 t ≤ 700 → ∀ W, Hid (MyS w W #[.int .i64 k, .string (mk x), .string (mk a), .slice ad len cap]) → Calls Tryz.prog 8 #[tv k x a ad len cap] W (CoRes W (coN (cmOk d t) (cmR d t).2.2.ns) (coE (cmOk d t) (cmEr d t)))) := fun hq W hW =>
    (compose_any (bri_fine (by decide) hV hq.1) (hV.later hW.out.bl (Nat.le_refl _)) (hT.later hW.out.bl) (by have := tsz_fine hV hq.1; omega)).mono (fun e W' q => co_of q)
  have HD : Hid (fineT 81 t ∧ cntT 81 t ≤ 700 → ∀ W, Hid (MyS w W #[.int .i64 k, .string (mk x), .string (mk a), .slice ad len cap]) → Calls Tryz.prog 9 #[tv k x a ad len cap] W (CoRes W (coN (cmOk d t) (cmR d t).2.2.ns) (coE (cmOk d t) (cmEr d t)))) := fun hq W hW =>
    (rcompose_any hd (brief_of hV hq.1) (hV.later hW.out.bl (Nat.le_refl _)) (by have := tsz_fine hV hq.1; omega)).mono (fun e W' q => co_of q)
  obtain ⟨er, her⟩ : ∃ er, er = coE (cmOk d t) (cmEr d t) := ⟨_, rfl⟩
  obtain ⟨ns, hns⟩ : ∃ ns, ns = coN (cmOk d t) (cmR d t).2.2.ns := ⟨_, rfl⟩
  rw [← her, ← hns] at HC HD
  have HSA : Hid (∀ W v v', GrV W v ⟨ns, 0⟩ → GrV W v' ⟨ns, 0⟩ → Calls Tryz.prog 10 #[v, v'] W fun e W' => e = .returned (.bool true) ∧ Hid (Below W.heap.size W W')) := fun W v v' h h' => rsame_eq h h'
  clear her hns hT hV
  go_enter Tryz.func3, Tryz.ntmps3
  go_wp2_with fail
  refine HF.out.mono ?_
  rintro e w3 ⟨q, rfl, B3, _, hq, _⟩
  have H3 : Hid (MyS w w3 #[.int .i64 k, .string (mk x), .string (mk a), .slice ad len cap]) := MyS.far B3.out
  clear HF B3
  cases q
  rotate_left
  · clear HC HD hq HSA
    go_wp2_with (go_at_call 7; refine (HA.out _ H3.out.bl).mono ?_; rintro e w4 ⟨rfl, H4⟩)
    go_ret
    exact ⟨rfl, H4.out⟩
  · have hq2 := hq.out rfl
    have HC3 : Hid (Calls Tryz.prog 8 #[tv k x a ad len cap] w3 _) := HC.out hq2 _ H3
    have HD2 : Hid (∀ W, Hid (MyS w W #[.int .i64 k, .string (mk x), .string (mk a), .slice ad len cap]) → Calls Tryz.prog 9 #[tv k x a ad len cap] W _) := HD.out hq2
    clear HC HD hq hq2
    obtain ⟨c0, c1, c2, c3⟩ := H3.out.b.c4
    go_upto_region 5 with (go_at_call 8; refine HC3.out.mono ?_; rintro e w4 ⟨ad4, len4, cap4, rfl, hg4, B4⟩)
    have H4 : Hid (MyS w w4 #[.int .i64 k, .string (mk x), .string (mk a), .slice ad len cap]) := H3.out.later B4.out
    have b5 := below_alloc w4 (.cells #[.slice ad4 len4 cap4, .int .i64 0] 30)
    have H5 : Hid (MyS w (w4.alloc (.cells #[.slice ad4 len4 cap4, .int .i64 0] 30)) #[.int .i64 k, .string (mk x), .string (mk a), .slice ad len cap]) := H4.out.later b5
    have HA5 : Hid (AgS w (w4.alloc (.cells #[.slice ad4 len4 cap4, .int .i64 0] 30)) w4.heap.size ad4 len4 cap4 0 ns) := AgS.new H4.out.bl hg4.out
    clear H3 H4 hg4 B4 HC3 c0 c1 c2 c3 b5
    generalize w4.alloc (.cells #[.slice ad4 len4 cap4, .int .i64 0] 30) = w5 at H5 HA5 ⊢
    obtain ⟨K5, hK5⟩ : ∃ K5, w4.heap.size = K5 := ⟨_, rfl⟩
    rw [hK5] at HA5 ⊢
    clear hK5
    have HD5 : Hid (Calls Tryz.prog 9 #[tv k x a ad len cap] w5 _) := HD2.out _ H5
    clear HD2
    obtain ⟨c0, c1, c2, c3⟩ := H5.out.b.c4
    go_upto_region 6 with (go_at_call 9; refine HD5.out.mono ?_; rintro e w6 ⟨ad6, len6, cap6, rfl, hg6, B6⟩)
    have H7 : Hid (AgS w (w6.alloc (.cells #[.slice ad6 len6 cap6, .int .i64 0] 30)) K5 ad4 len4 cap4 0 ns) := (HA5.out.later B6.out).later (below_alloc _ _)
    have HD7 : Hid (AgS w (w6.alloc (.cells #[.slice ad6 len6 cap6, .int .i64 0] 30)) w6.heap.size ad6 len6 cap6 0 ns) := AgS.new (HA5.out.later B6.out).bl hg6.out
    clear H5 HA5 B6 hg6 c0 c1 c2 c3 HD5
    generalize w6.alloc (.cells #[.slice ad6 len6 cap6, .int .i64 0] 30) = w7 at H7 HD7 ⊢
    obtain ⟨K7, hK7⟩ : ∃ K7, w6.heap.size = K7 := ⟨_, rfl⟩
    rw [hK7] at HD7 ⊢
    clear hK7
    obtain ⟨d0, d1⟩ := H7.out.b.c2
    obtain ⟨e0, e1⟩ := HD7.out.b.c2
    go_wp2_with (first | (go_at_call 10; refine (HSA.out _ _ _ H7.out.g HD7.out.g).mono ?_; rintro e w9 ⟨rfl, B9⟩) | (go_at_call 7; refine (HA.out _ (H7.out.later B9.out).bl).mono ?_; rintro e w10 ⟨rfl, H10⟩))
    go_ret
    exact ⟨rfl, H10.out⟩
theorem composes_walk (d : Nat) (v : Value) (t : Tr) (w : World) (hV : TrV w d v t) (hT : Tb w) : Calls Tryz.prog 3 #[v] w fun e w' => e = .returned (.bool true) ∧ Below w.heap.size w w' := by
  obtain ⟨ad, len, cap, rfl⟩ := hV.open4
  exact composes_core (d := d + 82) (by omega) (hV.more (by omega)) hT
end Go.Proofs.YtjlpdmpfemhkpaaGreatDoor.Grp
end
