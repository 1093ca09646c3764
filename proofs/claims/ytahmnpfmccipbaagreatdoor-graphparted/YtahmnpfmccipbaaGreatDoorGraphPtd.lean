/- grommetlaw12.GraphParted. -/
import Derived.Test.YtahmnpfmccipbaaGreatDoorGraphAgS
import Derived.Test.YtahmnpfmccipbaaGreatDoorGraphAlive
import Derived.Test.YtahmnpfmccipbaaGreatDoorGgK
import Derived.Test.YtahmnpfmccipbaaGreatDoorGgL
import Derived.Test.YtahmnpfmccipbaaGreatDoorFbX
namespace Go.Proofs.YtahmnpfmccipbaaGreatDoor.Grp
open Utf Rws Pln Flw
open Go.RowKit
set_option linter.unusedSimpArgs false
set_option linter.unusedVariables false
set_option maxRecDepth 100000
set_option maxHeartbeats 4000000

theorem idx_nd {l : List Nat} (h : l.Nodup) (j : Nat) (hj : j < l.length) : l.idxOf l[j] = j := by
  have h1 : l.idxOf l[j] < l.length := List.idxOf_lt_length_of_mem (List.getElem_mem hj)
  have h2 : l[l.idxOf l[j]] = l[j] := List.getElem_idxOf h1
  rcases Nat.lt_trichotomy (l.idxOf l[j]) j with q | q | q
  · exact absurd h2 (List.pairwise_iff_getElem.1 h _ _ h1 hj q)
  · exact q
  · exact absurd h2.symm (List.pairwise_iff_getElem.1 h _ _ hj h1 q)
theorem gr_len {w : World} {ad : Option Addr} {len cap : Nat} {r : Int} {g : Gr} (h : GrV w (gv ad len cap r) g) : len = g.nodes.length := by
  obtain ⟨_, _, _, e, _, _, _, hN⟩ := h
  cases e
  exact hN.1
theorem gr_nil (w : World) : GrV w (gv none 0 0 0) ⟨[], 0⟩ := ⟨none, 0, 0, rfl, Nat.le_refl _, Nat.zero_le _, ⟨(by decide : (-9223372036854775808 : Int) ≤ 0), (by decide : (0 : Int) ≤ 9223372036854775807)⟩, rfl, fun h => absurd h (by simp)⟩
theorem gr_root {w : World} {ad : Option Addr} {len cap : Nat} {r : Int} {ns : List Nd} (h : GrV w (gv ad len cap r) ⟨ns, r⟩) {m : Nat} (hm : m ≤ 1000000) : GrV w (gv ad len cap (m : Int)) ⟨ns, (m : Int)⟩ := by
  obtain ⟨_, _, _, e, h1, h2, h3, hN⟩ := h
  cases e
  exact ⟨_, _, _, rfl, h1, h2, ⟨by simp only; omega, by simp only; omega⟩, hN⟩
/-- a graph that lies beside a block -/
def GrQ (K : Nat) (W : World) (v : Value) (g : Gr) : Prop := ∀ W' : World, W.heap.size ≤ W'.heap.size → (∀ k, k ≠ K → k < W.heap.size → W'.heap[k]? = W.heap[k]?) → GrV W' v g
theorem GrQ.of_p {K B : Nat} {W : World} {v : Value} {g : Gr} (h : GrP B W v g) (hK : K < B) : GrQ K W v g := fun W' hs hk => h W' hs (fun k h1 h2 => hk k (by omega) h2)
theorem GrQ.new {B : Nat} {W : World} {v : Value} {g : Gr} (h : GrP B W v g) (o : Obj) : GrQ W.heap.size (W.alloc o) v g := fun W' hs hk => h W' (by rw [World.size_alloc] at hs; omega) (fun k h1 h2 => (hk k (by omega) (by rw [World.size_alloc]; omega)).trans (Below.heap_alloc _ _ _ h2))
theorem GrQ.two {K i i' : Nat} {W : World} {v u u' : Value} {g : Gr} (h : GrQ K W v g) : GrQ K ((W.setCell ⟨K, i, none⟩ u).setCell ⟨K, i', none⟩ u') v g := fun W' hs hk => h W' (by rw [World.size_setCell, World.size_setCell] at hs; exact hs) (fun k h1 h2 => (hk k h1 (by rw [World.size_setCell, World.size_setCell]; exact h2)).trans ((Below.heap_setCell _ _ _ _ h1).trans (Below.heap_setCell _ _ _ _ h1)))
theorem GrQ.v {K : Nat} {W : World} {v : Value} {g : Gr} (h : GrQ K W v g) : GrV W v g := h W (Nat.le_refl _) (fun _ _ _ => rfl)
structure PtE where
  K : Nat
  a : Option Addr
  l : Nat
  c : Nat
  W : World
theorem wpOp_call {P : Program} {ops : Array Oper} {Q : Exit → Act → World → Prop} {j : Nat} {o : Oper} {Kk : Act → World → Prop} {a : Act} {w : World} (ho : ops[j]? = some o) (hg : o.guard = none) (f : FuncId) (xs : Array Operand) (ts : Array TypeId)
    (hop : o.op = .call { callee := .value (.func f), args := xs, argTypes := ts }) (vs : Array Value) (hcf : (callFunc f vs).run P w = .ok (.enter f vs) w) (hv : xs.map a.eval = vs) {R : Ending → World → Prop} (hc : Calls P f vs w R) (hR : ∀ e w', R e w' → ∃ v, e = .returned v ∧ Kk (a.put o.dst v) w') : wpOp P ops Q j Kk a w := by
  refine wpOp_at ho (by simp [Region.wanted, hg]) ?_
  subst hv
  unfold Oper.wp
  simp [execOp, hop, resolve, invoke, Result.andThen, Act.eval, Deferred.ofValue]
  rw [hcf]
  exact hc.mono fun e w' hr => by obtain ⟨v, rfl, hk⟩ := hR e w' hr; exact hk
def ptdDp : List (List Nat) := [[], [], [], [1, 2], [3], [0, 4], [5], [6], [6], [], [5, 7, 9], [8, 10]]
theorem parted_core {w : World} {ad : Option Addr} {len cap : Nat} {r a nx : Int} {ns : List Nd} (hG : GrV w (gv ad len cap r) ⟨ns, r⟩) (hnx : i64 nx) (hT : Tb w) : Calls Tryz.prog 6 #[gv ad len cap r, .int .i64 a, .int .i64 nx] w fun e w' => e = .returned (.bool true) ∧ Below w.heap.size w w' := by
  have HA : Hid (∀ W, Below w.heap.size w W → Calls Tryz.prog 8 #[] W fun e W' => e = .returned (.bool true) ∧ Hid (Below w.heap.size w W')) := fun W b => (alive_any (hT.later b)).mono (fun e W' q => ⟨q.1, b.trans (q.2.mono b.size)⟩)
  have HLG : Hid (∀ W, Hid (AgS w W w.heap.size ad len cap r ns) → Calls Tryz.prog 13 #[gv ad len cap r] W fun e W' => e = .returned (.bool (lgB ns)) ∧ Hid (AgS w W' w.heap.size ad len cap r ns)) := fun W h => (large_any h.out.g).mono (fun e W' q => ⟨q.1, h.out.later q.2⟩)
  have h0 : Hid (AgS w (w.alloc (.cells #[.slice ad len cap, .int .i64 r] 30)) w.heap.size ad len cap r ns) := AgS.new (Below.refl _ _) hG
  cases hl : lgB ns
  case true =>
    rw [hl] at HLG
    clear hT hG
    go_enter Tryz.func6, Tryz.ntmps6
    go_wp2_with fail
    generalize w.alloc (.cells #[.slice ad len cap, .int .i64 r] 30) = W0 at h0 ⊢
    refine (HLG.out _ h0).mono ?_
    rintro e w1 ⟨rfl, H1⟩
    go_wp2_with (go_at_call 8; refine (HA.out _ H1.out.bl).mono ?_; rintro e w2 ⟨rfl, H2⟩)
    go_ret
    exact ⟨rfl, H2.out⟩
  case false =>
    have hS := lgB_sml hl
    have HSB : Hid (∀ W, Hid (AgS w W w.heap.size ad len cap r ns) → ∀ b : Int, Calls Tryz.prog 21 #[gv ad len cap r, .int .i64 b] W fun e W' => ∃ a1 l1 c1, e = .returned (.tuple #[gv a1 l1 c1 0, .int .i64 (sbE ns r b)]) ∧ Hid (GrP W.heap.size W' (gv a1 l1 c1 0) ⟨if sbE ns r b = 0 then cnN ns (odG ns b.toNat) else [], 0⟩) ∧ Hid (AgS w W' w.heap.size ad len cap r ns) ∧ Hid (Below W.heap.size W W')) := fun W h b => (sub_any h.out.g hS (hT.later h.out.bl)).mono (fun e W' q => by
      have q1 := q.1
      simp only at q1
      split at q1
      · rename_i hc
        rw [if_pos hc, hc]
        obtain ⟨v, rfl, hv⟩ := q1
        obtain ⟨ad', len', cap', rfl, _⟩ := hv.v
        exact ⟨ad', len', cap', rfl, hv, h.out.later q.2, q.2⟩
      · rename_i hc
        rw [if_neg hc]
        exact ⟨none, 0, 0, q1, fun W'' _ _ => gr_nil W'', h.out.later q.2, q.2⟩)
    rw [hl] at HLG
    by_cases hq : sbE ns r a = 0
    case neg =>
      have hq' : (sbE ns r a != 0) = true := by simpa using hq
      go_enter Tryz.func6, Tryz.ntmps6
      go_wp2_with fail
      generalize w.alloc (.cells #[.slice ad len cap, .int .i64 r] 30) = W0 at h0 ⊢
      refine (HLG.out _ h0).mono ?_
      rintro e w1 ⟨rfl, H1⟩
      clear h0 HLG
      obtain ⟨c0, c1⟩ := H1.out.b.c2
      go_upto_region 4 with (go_at_call 21; refine (HSB.out _ H1 _).mono ?_; rintro e w2 ⟨a1, l1, c1, rfl, hg2, H2, B2⟩)
      have hl1 : l1 = 0 := by
        have := hg2.out.v
        rw [if_neg hq] at this
        exact gr_len this
      subst hl1
      have H3 : Hid (AgS w (w2.alloc (.cells #[.slice a1 0 c1, .int .i64 0] 30)) w.heap.size ad len cap r ns) := H2.out.later (below_alloc _ _)
      have T3 := Bx.new w2 #[.slice a1 0 c1, .int .i64 0] 30
      generalize w2.alloc (.cells #[.slice a1 0 c1, .int .i64 0] 30) = w3 at H3 T3 ⊢
      obtain ⟨K3, hK3⟩ : ∃ K3, w2.heap.size = K3 := ⟨_, rfl⟩
      rw [hK3] at T3 ⊢
      obtain ⟨d0, d1⟩ := T3.c2
      clear T3 hK3 H2 H1 HSB c0 hg2 B2 hq
      go_wp2_with (go_at_call 8; refine (HA.out _ H3.out.bl).mono ?_; rintro e w5 ⟨rfl, H5⟩)
      go_ret
      exact ⟨rfl, H5.out⟩
    case pos =>
      have hq2 := hq
      unfold sbE at hq2
      split at hq2
      case isFalse => exact absurd hq2 (by decide)
      rename_i hrg
      split at hq2
      case isFalse => exact absurd hq2 (by decide)
      rename_i hpk
      obtain ⟨f1, f2, f3⟩ := rgG_facts hrg
      obtain ⟨m, rfl, hm⟩ := isP_nat hpk.1
      obtain ⟨O, hO⟩ : ∃ O, O = odG ns m := ⟨_, rfl⟩
      obtain ⟨cn, hcn⟩ : ∃ cn, cn = cnN ns O := ⟨_, rfl⟩
      have hSc : Sml cn := by rw [hcn, hO]; exact sml_can hrg hm hS
      have hqc : rgG ⟨cn, 0⟩ = true := by rw [hcn, hO]; exact rg_can hrg hm (.inr hpk.2)
      have hrm : rgG ⟨ns, (m : Int)⟩ = true := rg_root hrg hm hpk.2
      have hcl : cn.length = O.length := by rw [hcn, cnN_len]
      have hO0 : 0 < O.length := by rw [hO]; exact (od_pos ns m).1
      have hOl : O.length ≤ 4096 := by rw [← hcl]; exact (rgG_facts hqc).1
      have hm6 : m ≤ 1000000 := by omega
      have hOm : ∀ b ∈ O, b < ns.length := by rw [hO]; exact odG_lt f3 hm
      have HKY : Hid (∀ j, ∀ h : j < O.length, sbE cn 0 (j : Int) = sbE ns r (O[j] : Int) ∧ (sbE ns r (O[j] : Int) = 0 → cnN cn (odG cn j) = cnN ns (odG ns O[j]))) := fun j h => by
        have hmem : O[j] ∈ odG ns m := by rw [← hO]; exact List.getElem_mem h
        have hix : (odG ns m).idxOf O[j] = j := by
          rw [← hO]
          exact idx_nd (by rw [hO]; exact odG_nd ns m) j h
        have k1 := ky_can hrg hm hpk.2 hmem
        rw [hix, ← hO, ← hcn] at k1
        refine ⟨?_, fun _ => ?_⟩
        · have p1 : isP cn.length (j : Int) = true := by unfold isP; simp only [Bool.and_eq_true, decide_eq_true_eq]; omega
          have p2 : isP ns.length (O[j] : Int) = true := by have := hOm _ (List.getElem_mem h); unfold isP; simp only [Bool.and_eq_true, decide_eq_true_eq]; omega
          unfold sbE
          rw [if_pos hqc, if_pos hrg, p1, p2, k1]
        · have k2 := cn_sub f3 hm hmem
          rw [hix, ← hO, ← hcn] at k2
          exact k2
      have HSC : Hid (∀ W a2 l2 c2, Below w.heap.size w W → GrV W (gv a2 l2 c2 0) ⟨cn, 0⟩ → ∀ b : Int, Calls Tryz.prog 21 #[gv a2 l2 c2 0, .int .i64 b] W fun e W' => ∃ a1 l1 c1, e = .returned (.tuple #[gv a1 l1 c1 0, .int .i64 (sbE cn 0 b)]) ∧ Hid (GrV W' (gv a1 l1 c1 0) ⟨if sbE cn 0 b = 0 then cnN cn (odG cn b.toNat) else [], 0⟩) ∧ Hid (Below W.heap.size W W')) := fun W a2 l2 c2 bl h b => (sub_any h hSc (hT.later bl)).mono (fun e W' q => by
        have q1 := q.1
        simp only at q1
        split at q1
        · rename_i hc
          rw [if_pos hc, hc]
          obtain ⟨v, rfl, hv⟩ := q1
          have hv2 := hv.v
          obtain ⟨ad', len', cap', rfl, _⟩ := hv.v
          exact ⟨ad', len', cap', rfl, hv2, q.2⟩
        · rename_i hc
          rw [if_neg hc]
          exact ⟨none, 0, 0, q1, gr_nil W', q.2⟩)
      have HOR : Hid (∀ W, Below w.heap.size w W → GrV W (gv ad len cap (m : Int)) ⟨ns, (m : Int)⟩ → Calls Tryz.prog 14 #[gv ad len cap (m : Int)] W fun e W' => ∃ oa oc, e = .returned (.tuple #[.slice oa O.length oc, .int .i64 0]) ∧ Hid (IAt W' oa O.length (O.map fun a : Nat => (a : Int))) ∧ Hid (Below W.heap.size W W')) := fun W b h => (order_any h hS (hT.later b)).mono (fun e W' q => by
        have q1 := q.1
        simp only [Int.toNat_natCast] at q1
        rw [if_pos hrm, ← hO] at q1
        obtain ⟨oa, oc, rfl, hi, _⟩ := q1
        exact ⟨oa, oc, rfl, hi, q.2⟩)
      have HSA : Hid (∀ W v v' g, GrV W v g → GrV W v' g → Calls Tryz.prog 12 #[v, v'] W fun e W' => e = .returned (.bool true) ∧ Hid (Below w.heap.size w W' ∨ True) ∧ Hid (Below W.heap.size W W')) := fun W v v' g h h' => (rsame_eq h h').mono (fun e W' q => ⟨q.1, .inr trivial, q.2⟩)
      have HSE : Hid (sbE ns r (m : Int) = 0) := hq
      have HCN : Hid ((if sbE ns r (m : Int) = 0 then cnN ns (odG ns (m : Int).toNat) else []) = cn) := by
        show _ = _
        rw [if_pos hq, Int.toNat_natCast, ← hO, ← hcn]
      have HCL : Hid (cn.length = O.length) := hcl
      have HSB1 : Hid (∀ W, Hid (AgS w W w.heap.size ad len cap r ns) → Calls Tryz.prog 21 #[gv ad len cap r, .int .i64 (m : Int)] W fun e W' => ∃ a1 c1, e = .returned (.tuple #[gv a1 O.length c1 0, .int .i64 0]) ∧ Hid (GrV W' (gv a1 O.length c1 0) ⟨cn, 0⟩) ∧ Hid (AgS w W' w.heap.size ad len cap r ns)) := fun W h => (HSB.out W h (m : Int)).mono (fun e W' q => by
        obtain ⟨a1, l1, c1, rfl, h1, h2, h3⟩ := q
        have h1' := h1.out.v
        rw [HCN.out] at h1'
        have := gr_len h1'
        simp only at this
        rw [hcl] at this
        subst this
        rw [hq]
        exact ⟨a1, c1, rfl, h1', h2⟩)
      clear hT hG hS hSc hqc hrm hcl hcn hO f1 f2 f3 hrg hpk hm hl hq hq2 hOm HCN HSE
      go_enter Tryz.func6, Tryz.ntmps6
      go_wp2_with fail
      generalize w.alloc (.cells #[.slice ad len cap, .int .i64 r] 30) = W0 at h0 ⊢
      refine (HLG.out _ h0).mono ?_
      rintro e w1 ⟨rfl, H1⟩
      clear h0 HLG
      obtain ⟨c0, c1⟩ := H1.out.b.c2
      go_upto_region 6 with (go_at_call 21; refine (HSB1.out _ H1).mono ?_; rintro e w2 ⟨a1, p1, rfl, hg2, H2⟩)
      have H3 : Hid (AgS w (w2.alloc (.cells #[.slice a1 O.length p1, .int .i64 0] 30)) w.heap.size ad len cap r ns) := H2.out.later (below_alloc _ _)
      have HC3 : Hid (AgS w (w2.alloc (.cells #[.slice a1 O.length p1, .int .i64 0] 30)) w2.heap.size a1 O.length p1 0 cn) := AgS.new H2.out.bl hg2.out
      clear H2 H1 HSB1 c0 c1 hg2
      generalize w2.alloc (.cells #[.slice a1 O.length p1, .int .i64 0] 30) = w3 at H3 HC3 ⊢
      obtain ⟨K3, hK3⟩ : ∃ K3, w2.heap.size = K3 := ⟨_, rfl⟩
      rw [hK3] at HC3 ⊢
      clear hK3
      obtain ⟨c0, c1⟩ := H3.out.b.c2
      go_upto_region 8 with fail
      have H5 : Hid (AgS w (w3.alloc (.cells #[.slice ad len cap, .int .i64 (m : Int)] 30)) w.heap.size ad len cap r ns) := H3.out.later (below_alloc _ _)
      have HC5 : Hid (AgS w (w3.alloc (.cells #[.slice ad len cap, .int .i64 (m : Int)] 30)) K3 a1 O.length p1 0 cn) := HC3.out.later (below_alloc _ _)
      have HD5 : Hid (AgS w (w3.alloc (.cells #[.slice ad len cap, .int .i64 (m : Int)] 30)) w3.heap.size ad len cap (m : Int) ns) := AgS.new H3.out.bl (gr_root H3.out.g hm6)
      clear H3 HC3 c0 c1
      generalize w3.alloc (.cells #[.slice ad len cap, .int .i64 (m : Int)] 30) = w5 at H5 HC5 HD5 ⊢
      obtain ⟨K5, hK5⟩ : ∃ K5, w3.heap.size = K5 := ⟨_, rfl⟩
      rw [hK5] at HD5 ⊢
      clear hK5
      obtain ⟨d0, d1⟩ := HD5.out.b.c2
      go_upto_region 9 with (go_at_call 14; refine (HOR.out _ HD5.out.bl HD5.out.g).mono ?_; rintro e w6 ⟨oa, oc, rfl, hi6, B6⟩)
      have H6 : Hid (AgS w w6 w.heap.size ad len cap r ns) := H5.out.later B6.out
      have HC6 : Hid (AgS w w6 K3 a1 O.length p1 0 cn) := HC5.out.later B6.out
      clear H5 HC5 HD5 B6 d0 d1 HOR
      obtain ⟨d0, d1⟩ := HC6.out.b.c2
      go_upto_region 11 with fail
      obtain ⟨j, hj, hjn⟩ : ∃ j : Nat, (wrap64 (nx.tmod O.length + O.length)).tmod O.length = (j : Int) ∧ j < O.length := by
        have t1 : (-(O.length : Int)) < nx.tmod O.length ∧ nx.tmod O.length < (O.length : Int) := by
          have h1 := Int.tmod_lt_of_pos nx (b := (O.length : Int)) (by omega)
          have h2 := Int.lt_tmod_of_pos nx (b := (O.length : Int)) (by omega)
          exact ⟨h2, h1⟩
        have e1 : wrap64 (nx.tmod O.length + O.length) = nx.tmod O.length + O.length := by unfold wrap64; omega
        rw [e1]
        refine ⟨((nx.tmod O.length + O.length).tmod O.length).toNat, ?_, ?_⟩
        · have := Int.tmod_nonneg (a := nx.tmod O.length + O.length) (O.length : Int) (by omega)
          omega
        · have h1 := Int.tmod_lt_of_pos (nx.tmod O.length + O.length) (b := (O.length : Int)) (by omega)
          have := Int.tmod_nonneg (a := nx.tmod O.length + O.length) (O.length : Int) (by omega)
          omega
      go_upto_region 12 with fail
      obtain ⟨ob, oo, hoa, hob, hoc⟩ := hi6.out.2 hO0
      subst hoa
      have hoj := (hoc j hjn).2
      rw [List.getD_eq_getElem?_getD, List.getElem?_map, List.getElem?_eq_getElem hjn, Option.map_some, Option.getD_some] at hoj
      obtain ⟨HK1, HK2⟩ := HKY.out j hjn
      obtain ⟨b, hb⟩ : ∃ b : Int, b = (O[j] : Int) := ⟨_, rfl⟩
      have hbn : b.toNat = O[j] := by rw [hb]; exact Int.toNat_natCast _
      rw [← hb] at hoj HK1 HK2
      rw [← hbn] at HK2
      obtain ⟨g1, hg1⟩ : ∃ g1 : Gr, g1 = ⟨if sbE ns r b = 0 then cnN ns (odG ns b.toNat) else [], 0⟩ := ⟨_, rfl⟩
      have hg2 : (⟨if sbE cn 0 (j : Int) = 0 then cnN cn (odG cn (j : Int).toNat) else [], 0⟩ : Gr) = g1 := by
        rw [hg1, HK1]
        by_cases hz : sbE ns r b = 0
        · rw [if_pos hz, if_pos hz, Int.toNat_natCast, HK2 hz]
        · rw [if_neg hz, if_neg hz]
      have HG2 : Hid (_ = g1) := hg2
      have HSBE : Hid (sbE cn 0 (j : Int) = sbE ns r b) := HK1
      have HSB9 := HSB.out
      have HJN : Hid ((wrap64 (nx.tmod O.length + O.length)).tmod O.length = (j : Int)) := hj
      have hmix : Tryz.prog.follows .mixedOrders = true := by kernel_rfl
      have HSB2 : Hid (∀ W, Hid (AgS w W w.heap.size ad len cap r ns) → Calls Tryz.prog 21 #[gv ad len cap r, .int .i64 b] W fun e W' => ∃ a1 l1 c1, e = .returned (.tuple #[gv a1 l1 c1 0, .int .i64 (sbE ns r b)]) ∧ Hid (GrP W.heap.size W' (gv a1 l1 c1 0) g1) ∧ Hid (AgS w W' w.heap.size ad len cap r ns) ∧ Hid (Below W.heap.size W W')) := fun W h => by rw [hg1]; exact HSB9 W h b
      clear HSB HSB9 hg2 HK1 HK2 HKY hg1 hbn hb hj hoc hi6 d0 d1
      --R12
      refine wp_region_E hmix (N := 12) (dp := ptdDp) (by kernel_rfl) (E := PtE) (fun (e : PtE) (s : List Bool) => Hid (Below w6.heap.size w6 e.W) ∧ (s.getD 5 false = true → Hid (cond (s.getD 9 false) (GrQ e.K e.W (gv e.a e.l e.c 0) g1) (∃ B, GrP B e.W (gv e.a e.l e.c 0) g1))) ∧ (s.getD 9 false = true → Hid (w6.heap.size ≤ e.K ∧ Bx e.W e.K (cond (s.getD 10 false) #[.slice e.a e.l e.c, .int .i64 0] #[.slice none 0 0, .int .i64 0]) 30)) ∧ (s.getD 10 false = true → s.getD 9 false = true ∧ s.getD 5 false = true) ∧ (s.getD 6 false = true → s.getD 5 false = true) ∧ (s.getD 7 false = true → s.getD 6 false = true) ∧ (s.getD 8 false = true → s.getD 6 false = true) ∧ (s.getD 11 false = true → s.getD 8 false = true)) (fun (e : PtE) (s : List Bool) => { tmps := #[gv ad len cap r, .int .i64 (m : Int), .int .i64 (j : Int), .pointer (some ⟨w.heap.size, 0, none⟩), undef, undef, .bool false, .pointer (some ⟨K3, 0, none⟩), .int .i64 0, .pointer (some ⟨K5, 0, none⟩), .slice (some ⟨ob, oo, none⟩) O.length oc, .int .i64 0, slu (s.getD 9 false) (.pointer (some ⟨e.K, 0, none⟩)) undef, slu (s.getD 11 false) (.int .i64 (sbE ns r b)) undef, undef, undef, .agg #[.slice ad len cap, .int .i64 r], .bool false, undef, .tuple #[gv a1 O.length p1 0, .int .i64 0], .agg #[.slice ad len cap, .int .i64 r], .int .i64 (m : Int), .tuple #[gv a1 O.length p1 0, .int .i64 0], gv a1 O.length p1 0, .int .i64 0, .int .i64 0, .bool false, undef, undef, undef, undef, undef, undef, undef, .agg #[.slice ad len cap, .int .i64 r], .int .i64 (m : Int), .pointer (some ⟨K5, 1, none⟩), .tuple #[.slice (some ⟨ob, oo, none⟩) O.length oc, .int .i64 0], .agg #[.slice ad len cap, .int .i64 (m : Int)], .tuple #[.slice (some ⟨ob, oo, none⟩) O.length oc, .int .i64 0], .slice (some ⟨ob, oo, none⟩) O.length oc, .int .i64 0, .int .i64 0, .bool false, .bool false, .slice (some ⟨ob, oo, none⟩) O.length oc, .int .i64 (O.length : Int), .pointer (some ⟨K3, 0, none⟩), .slice a1 O.length p1, .int .i64 (O.length : Int), .bool false, .bool false, .int .i64 nx, .slice (some ⟨ob, oo, none⟩) O.length oc, .int .i64 (O.length : Int), .int .i64 (nx.tmod (O.length : Int)), .slice (some ⟨ob, oo, none⟩) O.length oc, .int .i64 (O.length : Int), .int .i64 (wrap64 (nx.tmod (O.length : Int) + (O.length : Int))), .slice (some ⟨ob, oo, none⟩) O.length oc, .int .i64 (O.length : Int), .int .i64 (j : Int), slu (s.getD 6 false) (.tuple #[gv e.a e.l e.c 0, .int .i64 (sbE ns r b)]) undef, slu (s.getD 0 false) (.agg #[.slice ad len cap, .int .i64 r]) undef, slu (s.getD 1 false) (.slice (some ⟨ob, oo, none⟩) O.length oc) undef, slu (s.getD 2 false) (.int .i64 (j : Int)) undef, slu (s.getD 3 false) (.pointer (some ⟨ob, oo + j, none⟩)) undef, slu (s.getD 4 false) (.int .i64 b) undef, slu (s.getD 5 false) (.tuple #[gv e.a e.l e.c 0, .int .i64 (sbE ns r b)]) undef, slu (s.getD 7 false) (gv e.a e.l e.c 0) undef, slu (s.getD 8 false) (.int .i64 (sbE ns r b)) undef, undef, undef, undef, undef, undef, undef, undef, undef, undef, undef, undef, undef, undef, undef, undef, undef, undef], defers := [] }) (fun (e : PtE) (s : List Bool) => e.W) ?hS ?hF ⟨0, none, 0, 0, w6.drew⟩ ⟨(Below.refl _ w6).drew, fun h => absurd h (by decide), fun h => absurd h (by decide), fun h => absurd h (by decide), fun h => absurd h (by decide), fun h => absurd h (by decide), fun h => absurd h (by decide), fun h => absurd h (by decide)⟩ rfl rfl
      case hS =>
        rintro e s hJ hl i hi' hbi hd Kk hK
        match s, hl with
        | [b0, b1, b2, b3, b4, b5, b6, b7, b8, b9, b10, b11], _ =>
          simp only [List.getD_cons_zero, List.getD_cons_succ] at hJ ⊢
          obtain ⟨JB, J5, J9, J10, J6, J7, J8, J11⟩ := hJ
          have hi2 : i = 0 ∨ i = 1 ∨ i = 2 ∨ i = 3 ∨ i = 4 ∨ i = 5 ∨ i = 6 ∨ i = 7 ∨ i = 8 ∨ i = 9 ∨ i = 10 ∨ i = 11 := by omega
          rcases hi2 with rfl | rfl | rfl | rfl | rfl | rfl | rfl | rfl | rfl | rfl | rfl | rfl
          · have g0 : b0 = false := hbi
            subst g0 
            have hK2 := hK e ⟨JB, J5, J9, J10, (by first | assumption | exact fun _ => rfl), (by first | assumption | exact fun _ => rfl), (by first | assumption | exact fun _ => rfl), (by first | assumption | exact fun _ => rfl)⟩
            obtain ⟨y0, y1⟩ := (H6.out.later JB.out).b.c2
            clear hK hd hbi JB J5 J9 J10 J6 J7 J8 J11
            simp only [List.set_cons_zero, List.set_cons_succ, List.getD_cons_zero, List.getD_cons_succ, slu_t, slu_f, cond_true, cond_false] at hK2 ⊢
            refine wpOp_if rfl ?_
            go_simp
            exact hK2
          · have g1 : b1 = false := hbi
            subst g1 
            have hK2 := hK e ⟨JB, J5, J9, J10, (by first | assumption | exact fun _ => rfl), (by first | assumption | exact fun _ => rfl), (by first | assumption | exact fun _ => rfl), (by first | assumption | exact fun _ => rfl)⟩
            clear hK hd hbi JB J5 J9 J10 J6 J7 J8 J11
            simp only [List.set_cons_zero, List.set_cons_succ, List.getD_cons_zero, List.getD_cons_succ, slu_t, slu_f, cond_true, cond_false] at hK2 ⊢
            refine wpOp_if rfl ?_
            go_simp
            exact hK2
          · have g2 : b2 = false := hbi
            subst g2 
            have hK2 := hK e ⟨JB, J5, J9, J10, (by first | assumption | exact fun _ => rfl), (by first | assumption | exact fun _ => rfl), (by first | assumption | exact fun _ => rfl), (by first | assumption | exact fun _ => rfl)⟩
            clear hK hd hbi JB J5 J9 J10 J6 J7 J8 J11
            simp only [List.set_cons_zero, List.set_cons_succ, List.getD_cons_zero, List.getD_cons_succ, slu_t, slu_f, cond_true, cond_false] at hK2 ⊢
            refine wpOp_if rfl ?_
            go_simp
            exact hK2
          · have g3 : b3 = false := hbi
            have e1 : b1 = true := hd 1 (by simp [ptdDp])
            have e2 : b2 = true := hd 2 (by simp [ptdDp])
            subst g3 e1 e2
            have hK2 := hK e ⟨JB, J5, J9, J10, (by first | assumption | exact fun _ => rfl), (by first | assumption | exact fun _ => rfl), (by first | assumption | exact fun _ => rfl), (by first | assumption | exact fun _ => rfl)⟩
            clear hK hd hbi JB J5 J9 J10 J6 J7 J8 J11
            simp only [List.set_cons_zero, List.set_cons_succ, List.getD_cons_zero, List.getD_cons_succ, slu_t, slu_f, cond_true, cond_false] at hK2 ⊢
            refine wpOp_if rfl ?_
            go_simp
            exact hK2
          · have g4 : b4 = false := hbi
            have e3 : b3 = true := hd 3 (by simp [ptdDp])
            subst g4 e3
            have hK2 := hK e ⟨JB, J5, J9, J10, (by first | assumption | exact fun _ => rfl), (by first | assumption | exact fun _ => rfl), (by first | assumption | exact fun _ => rfl), (by first | assumption | exact fun _ => rfl)⟩
            have x4 := (JB.out.cell (p := ⟨ob, oo + j, none⟩) hob).trans hoj
            clear hK hd hbi JB J5 J9 J10 J6 J7 J8 J11
            simp only [List.set_cons_zero, List.set_cons_succ, List.getD_cons_zero, List.getD_cons_succ, slu_t, slu_f, cond_true, cond_false] at hK2 ⊢
            refine wpOp_if rfl ?_
            go_simp
            exact hK2
          · have g5 : b5 = false := hbi
            have e0 : b0 = true := hd 0 (by simp [ptdDp])
            have e4 : b4 = true := hd 4 (by simp [ptdDp])
            have f10 : b10 = false := by cases b10 with | false => rfl | true => exact absurd (J10 rfl).2 (by rw [g5]; simp)
            have f6 : b6 = false := by cases b6 with | false => rfl | true => exact absurd (J6 rfl) (by rw [g5]; simp)
            have f7 : b7 = false := by cases b7 with | false => rfl | true => exact absurd (J7 rfl) (by rw [f6]; simp)
            have f8 : b8 = false := by cases b8 with | false => rfl | true => exact absurd (J8 rfl) (by rw [f6]; simp)
            have f11 : b11 = false := by cases b11 with | false => rfl | true => exact absurd (J11 rfl) (by rw [f8]; simp)
            subst g5 e0 e4 f10 f6 f7 f8 f11
            have hA := H6.out.later JB.out
            refine wpOp_call rfl rfl _ _ _ rfl #[gv ad len cap r, .int .i64 b] (enters_of Tryz.func21 (by kernel_rfl) rfl _ _) (by simp [Act.eval, slu_t]) (HSB2.out e.W hA) (fun ee w' hR => ?_)
            obtain ⟨a7, l7, c7, rfl, hg7, H7, B7⟩ := hR
            refine ⟨_, rfl, hK ⟨e.K, a7, l7, c7, w'⟩ ⟨JB.out.trans (B7.out.mono JB.out.size), fun _ => ?_, fun h => ?_, fun h => absurd h (by simp), fun _ => rfl, fun h => absurd h (by simp), fun h => absurd h (by simp), fun h => absurd h (by simp)⟩⟩
            · cases b9 with
              | false => exact ⟨_, hg7.out⟩
              | true => exact GrQ.of_p hg7.out ((J9 rfl).out.2.lt)
            · exact ⟨(J9 h).out.1, (J9 h).out.2.later B7.out⟩
          · have g6 : b6 = false := hbi
            have e5 : b5 = true := hd 5 (by simp [ptdDp])
            subst g6 e5
            have hK2 := hK e ⟨JB, J5, J9, J10, (by first | assumption | exact fun _ => rfl), (by first | assumption | exact fun _ => rfl), (by first | assumption | exact fun _ => rfl), (by first | assumption | exact fun _ => rfl)⟩
            clear hK hd hbi JB J5 J9 J10 J6 J7 J8 J11
            simp only [List.set_cons_zero, List.set_cons_succ, List.getD_cons_zero, List.getD_cons_succ, slu_t, slu_f, cond_true, cond_false] at hK2 ⊢
            refine wpOp_if rfl ?_
            go_simp
            exact hK2
          · have g7 : b7 = false := hbi
            have e6 : b6 = true := hd 6 (by simp [ptdDp])
            subst g7 e6
            have hK2 := hK e ⟨JB, J5, J9, J10, (by first | assumption | exact fun _ => rfl), (by first | assumption | exact fun _ => rfl), (by first | assumption | exact fun _ => rfl), (by first | assumption | exact fun _ => rfl)⟩
            clear hK hd hbi JB J5 J9 J10 J6 J7 J8 J11
            simp only [List.set_cons_zero, List.set_cons_succ, List.getD_cons_zero, List.getD_cons_succ, slu_t, slu_f, cond_true, cond_false] at hK2 ⊢
            refine wpOp_if rfl ?_
            go_simp
            exact hK2
          · have g8 : b8 = false := hbi
            have e6 : b6 = true := hd 6 (by simp [ptdDp])
            subst g8 e6
            have hK2 := hK e ⟨JB, J5, J9, J10, (by first | assumption | exact fun _ => rfl), (by first | assumption | exact fun _ => rfl), (by first | assumption | exact fun _ => rfl), (by first | assumption | exact fun _ => rfl)⟩
            clear hK hd hbi JB J5 J9 J10 J6 J7 J8 J11
            simp only [List.set_cons_zero, List.set_cons_succ, List.getD_cons_zero, List.getD_cons_succ, slu_t, slu_f, cond_true, cond_false] at hK2 ⊢
            refine wpOp_if rfl ?_
            go_simp
            exact hK2
          · have g9 : b9 = false := hbi
            have f10 : b10 = false := by cases b10 with | false => rfl | true => exact absurd (J10 rfl).1 (by rw [g9]; simp)
            subst g9  f10
            have bA := below_alloc e.W (.cells #[.slice none 0 0, .int .i64 0] 30)
            have hK2 := hK ⟨e.W.heap.size, e.a, e.l, e.c, e.W.alloc (.cells #[.slice none 0 0, .int .i64 0] 30)⟩ ⟨JB.out.trans (bA.mono JB.out.size), fun h => (by obtain ⟨B, hB⟩ := (J5 h).out; exact GrQ.new hB _), fun _ => ⟨JB.out.size, Bx.new _ _ _⟩, fun h => absurd h (by simp), J6, J7, J8, J11⟩
            clear hK hd hbi J5 J9 J10 J6 J7 J8 J11 bA
            simp only [List.set_cons_zero, List.set_cons_succ, List.getD_cons_zero, List.getD_cons_succ, slu_t, slu_f, cond_true, cond_false] at hK2 ⊢
            refine wpOp_if rfl ?_
            go_simp
            exact hK2
          · have g10 : b10 = false := hbi
            have e5 : b5 = true := hd 5 (by simp [ptdDp])
            have e7 : b7 = true := hd 7 (by simp [ptdDp])
            have e9 : b9 = true := hd 9 (by simp [ptdDp])
            subst g10 e5 e7 e9
            have hB := (J9 rfl).out
            have hQ := (J5 rfl).out
            simp only [cond_true, cond_false] at hB hQ
            obtain ⟨y0, y1⟩ := hB.2.c2
            have z0 := hB.2.fz 0
            have z1 := hB.2.fz 1
            have hK2 := hK ⟨e.K, e.a, e.l, e.c, (e.W.setCell ⟨e.K, 0, none⟩ (.slice e.a e.l e.c)).setCell ⟨e.K, 1, none⟩ (.int .i64 0)⟩ ⟨(JB.out.setCell (p := ⟨e.K, 0, none⟩) hB.1 _).setCell (p := ⟨e.K, 1, none⟩) hB.1 _, fun _ => hQ.two, fun _ => ⟨hB.1, (hB.2.set 0 _).set 1 _⟩, fun _ => ⟨rfl, rfl⟩, J6, J7, J8, J11⟩
            clear hK hd hbi J5 J9 J10 J6 J7 J8 J11 hB hQ
            simp only [List.set_cons_zero, List.set_cons_succ, List.getD_cons_zero, List.getD_cons_succ, slu_t, slu_f, cond_true, cond_false] at hK2 ⊢
            refine wpOp_if rfl ?_
            go_simp
            exact hK2
          · have g11 : b11 = false := hbi
            have e8 : b8 = true := hd 8 (by simp [ptdDp])
            have e10 : b10 = true := hd 10 (by simp [ptdDp])
            subst g11 e8 e10
            have hK2 := hK e ⟨JB, J5, J9, J10, (by first | assumption | exact fun _ => rfl), (by first | assumption | exact fun _ => rfl), (by first | assumption | exact fun _ => rfl), (by first | assumption | exact fun _ => rfl)⟩
            clear hK hd hbi JB J5 J9 J10 J6 J7 J8 J11
            simp only [List.set_cons_zero, List.set_cons_succ, List.getD_cons_zero, List.getD_cons_succ, slu_t, slu_f, cond_true, cond_false] at hK2 ⊢
            refine wpOp_if rfl ?_
            go_simp
            exact hK2
      case hF =>
        rintro ⟨K7, a7, l7, c7, w7⟩ ⟨JB, J5, J9, _⟩
        have hQ := (J5 rfl).out
        have hB := (J9 rfl).out
        simp only [show List.replicate 12 true = [true, true, true, true, true, true, true, true, true, true, true, true] from rfl, List.getD_cons_zero, List.getD_cons_succ, slu_t, cond_true] at hQ hB ⊢
        have HC7 : Hid (AgS w w7 K3 a1 O.length p1 0 cn) := HC6.out.later JB.out
        have HX7 : Hid (Bx w7 K7 #[.slice a7 l7 c7, .int .i64 0] 30 ∧ GrV w7 (gv a7 l7 c7 0) g1) := ⟨hB.2, hQ.v⟩
        have HSC2 : Hid (∀ W, Hid (AgS w W K3 a1 O.length p1 0 cn) → Calls Tryz.prog 21 #[gv a1 O.length p1 0, .int .i64 (j : Int)] W fun e W' => ∃ a2 l2 c2, e = .returned (.tuple #[gv a2 l2 c2 0, .int .i64 (sbE ns r b)]) ∧ Hid (GrV W' (gv a2 l2 c2 0) g1) ∧ Hid (Below W.heap.size W W')) := fun W h => (HSC.out W _ _ _ h.out.bl h.out.g (j : Int)).mono (fun e W' q => by
          obtain ⟨a2, l2, c2, rfl, h1, h2⟩ := q
          have h1' := h1.out
          rw [HG2.out] at h1'
          rw [HSBE.out]
          exact ⟨a2, l2, c2, rfl, h1', h2⟩)
        clear JB J5 J9 hQ hB HC6 HSC HG2 HSBE HSB2 hoj hob H6
        generalize sbE ns r b = er at *
        obtain ⟨d0, d1⟩ := HC7.out.b.c2
        go_upto_region 14 with (go_at_call 21; refine (HSC2.out _ HC7).mono ?_; rintro e w8 ⟨a8, l8, c8, rfl, hg8, B8⟩)
        have b9 := below_alloc w8 (.cells #[.slice a8 l8 c8, .int .i64 0] 30)
        have HX9 : Hid (Bx (w8.alloc (.cells #[.slice a8 l8 c8, .int .i64 0] 30)) K7 #[.slice a7 l7 c7, .int .i64 0] 30 ∧ GrV (w8.alloc (.cells #[.slice a8 l8 c8, .int .i64 0] 30)) (gv a7 l7 c7 0) g1) := ⟨(HX7.out.1.later B8.out).later b9, (HX7.out.2.later B8.out (Nat.le_refl _)).later b9 (Nat.le_refl _)⟩
        have HY9 : Hid (Bx (w8.alloc (.cells #[.slice a8 l8 c8, .int .i64 0] 30)) w8.heap.size #[.slice a8 l8 c8, .int .i64 0] 30 ∧ GrV (w8.alloc (.cells #[.slice a8 l8 c8, .int .i64 0] 30)) (gv a8 l8 c8 0) g1) := ⟨Bx.new _ _ _, hg8.out.later b9 (Nat.le_refl _)⟩
        have HC9 : Hid (Below w.heap.size w (w8.alloc (.cells #[.slice a8 l8 c8, .int .i64 0] 30))) := ((HC7.out.later B8.out).later b9).bl
        clear HC7 HX7 B8 hg8 b9 d0 d1 HSC2
        generalize w8.alloc (.cells #[.slice a8 l8 c8, .int .i64 0] 30) = w9 at HX9 HY9 HC9 ⊢
        obtain ⟨K9, hK9⟩ : ∃ K9, w8.heap.size = K9 := ⟨_, rfl⟩
        rw [hK9] at HY9 ⊢
        clear hK9
        obtain ⟨d0, d1⟩ := HX9.out.1.c2
        obtain ⟨e0, e1⟩ := HY9.out.1.c2
        have HS9 : Hid (Calls Tryz.prog 12 _ _ _) := HSA.out _ _ _ g1 HX9.out.2 HY9.out.2
        go_wp2_with (first | (go_at_call 12; refine HS9.out.mono ?_; rintro e w10 ⟨rfl, _, B10⟩) | (go_at_call 8; refine (HA.out _ (HC9.out.trans (B10.out.mono HC9.out.size))).mono ?_; rintro e w12 ⟨rfl, H12⟩))
        go_ret
        exact ⟨rfl, H12.out⟩
      --R12E
theorem parted_walk (v : Value) (g : Gr) (a nx : Int) (w : World) (hG : GrV w v g) (ha : (Lit.int .i64 a).wf = true) (hnx : (Lit.int .i64 nx).wf = true) (hT : Tb w) : Calls Tryz.prog 6 #[v, .int .i64 a, .int .i64 nx] w fun e w' => e = .returned (.bool true) ∧ Below w.heap.size w w' := by
  obtain ⟨ns, r⟩ := g
  have h2 := hG
  obtain ⟨ad, len, cap, rfl, _⟩ := h2
  exact parted_core hG (i64_bounds hnx) hT
end Go.Proofs.YtahmnpfmccipbaaGreatDoor.Grp
