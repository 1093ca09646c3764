/- Several texts as one: LayTm. -/
import Derived.Test.YtcplgjclkjcekaaGreatDoorY22LayLd
import Derived.Test.YtcplgjclkjcekaaGreatDoorYGraphComp
import Derived.Test.YtcplgjclkjcekaaGreatDoorYGraphMayP
section
/- Package lay's Trim, by its contract. -/
namespace Go.Proofs.YtcplgjclkjcekaaGreatDoor.Grp
open Utf Rws Pln Flw
open Go.RowKit
set_option linter.unusedSimpArgs false
set_option linter.unusedVariables false
set_option maxRecDepth 100000
set_option maxHeartbeats 4000000

def cmG (d : Nat) (t : Tr) : Gr := ⟨(cmR d t).2.2.ns, 0⟩
def tmE (d : Nat) (t : Tr) : Int := if cmOk d t = true then lyE (cmG d t) else cmEr d t
def tmT (d : Nat) (t : Tr) : Tr := if cmOk d t = true then lyG (cmG d t) else tr0
theorem cmEr_no {d : Nat} {t : Tr} (h : cmOk d t = false) : cmEr d t ≠ 0 := by
  unfold cmOk at h
  unfold cmEr
  split
  · rename_i hr
    rw [hr, Bool.true_and, decide_eq_false_iff_not] at h
    omega
  · decide
/-- the boxes of a tree and an answer -/
structure TqS (w W : World) (K0 KR : Nat) (tc : Array Value) : Prop where
  t : Bx W K0 tc 29
  r : Bx W KR zT 29
  bl : Below w.heap.size w W
theorem TqS.later {w W W' : World} {K0 KR : Nat} {tc : Array Value} (h : TqS w W K0 KR tc) (hb : Below W.heap.size W W') : TqS w W' K0 KR tc := ⟨h.t.later hb, h.r.later hb, h.bl.trans (hb.mono h.bl.size)⟩
theorem TqS.new (w : World) (tc : Array Value) : TqS w ((w.alloc (.cells tc 29)).alloc (.cells #[.int .i64 0, .string ⟨#[]⟩, .string ⟨#[]⟩, .slice none 0 0] 29)) w.heap.size (w.heap.size + 1) tc := by
  have b1 := below_alloc w (.cells tc 29)
  have s1 : (w.alloc (.cells tc 29)).heap.size = w.heap.size + 1 := World.size_alloc _ _
  have b2 := below_alloc (w.alloc (.cells tc 29)) (.cells zT 29)
  have n2 := Bx.new (w.alloc (.cells tc 29)) zT 29
  rw [s1] at n2
  exact ⟨(Bx.new w _ _).later b2, n2, b1.trans (b2.mono b1.size)⟩
theorem TqS.store {w W : World} {K0 KR n : Nat} {tc : Array Value} {rk : Int} {rx ry : ByteArray} {rad : Option Addr} {rl rc : Nat} {t : Tr} (h : TqS w W K0 KR tc) (hk : w.heap.size ≤ KR) (hT : TrP (KR + 1) W n (.agg #[.int .i64 rk, .string rx, .string ry, .slice rad rl rc]) t) :
    Bx ((((W.setCell ⟨KR, 0, none⟩ (.int .i64 rk)).setCell ⟨KR, 1, none⟩ (.string rx)).setCell ⟨KR, 2, none⟩ (.string ry)).setCell ⟨KR, 3, none⟩ (.slice rad rl rc)) KR #[.int .i64 rk, .string rx, .string ry, .slice rad rl rc] 29 ∧
    TrP w.heap.size ((((W.setCell ⟨KR, 0, none⟩ (.int .i64 rk)).setCell ⟨KR, 1, none⟩ (.string rx)).setCell ⟨KR, 2, none⟩ (.string ry)).setCell ⟨KR, 3, none⟩ (.slice rad rl rc)) n (.agg #[.int .i64 rk, .string rx, .string ry, .slice rad rl rc]) t ∧
    Below w.heap.size w ((((W.setCell ⟨KR, 0, none⟩ (.int .i64 rk)).setCell ⟨KR, 1, none⟩ (.string rx)).setCell ⟨KR, 2, none⟩ (.string ry)).setCell ⟨KR, 3, none⟩ (.slice rad rl rc)) := by
  have hK : KR < KR + 1 := Nat.lt_succ_self _
  exact ⟨(((h.r.set 0 _).set 1 _).set 2 _).set 3 _, ((((hT.set hK).set hK).set hK).set hK).mono (by omega), (((h.bl.setCell (p := ⟨KR, 0, none⟩) hk _).setCell (p := ⟨KR, 1, none⟩) hk _).setCell (p := ⟨KR, 2, none⟩) hk _).setCell (p := ⟨KR, 3, none⟩) hk _⟩
theorem trim_core {w : World} {d : Nat} {k : Int} {x a : Ln} {ad : Option Addr} {len cap : Nat} {t : Tr} (hb : bri 2147483648 d t) (hV : TrV w d (tv k x a ad len cap) t) (hT : Tb w) (hz : tsz d t ≤ 1000000) :
    Calls Tryz.prog 16 #[tv k x a ad len cap] w (LTRes w ((cmR d t).2.2.ns.length + 1) (tmE d t) (tmT d t)) := by
  have h0 := TqS.new w #[.int .i64 k, .string (mk x), .string (mk a), .slice ad len cap]
  have HC0 : ∀ W, TqS w W w.heap.size (w.heap.size + 1) #[.int .i64 k, .string (mk x), .string (mk a), .slice ad len cap] → Calls Tryz.prog 11 #[tv k x a ad len cap] W (GRes W (cmOk d t) (cmEr d t) ⟨(cmR d t).2.2.ns, 0⟩) := fun W h => compose_any hb (hV.later h.bl (Nat.le_refl _)) (hT.later h.bl) hz
  obtain ⟨KR, hKR⟩ : ∃ KR, KR = w.heap.size + 1 := ⟨_, rfl⟩
  have hwK : w.heap.size ≤ KR := by omega
  rw [← hKR] at h0 HC0
  have HKR : Hid (w.heap.size + 1 = KR) := hKR.symm
  obtain ⟨K0, hK0⟩ : ∃ K0, K0 = w.heap.size := ⟨_, rfl⟩
  have HK0 : Hid (w.heap.size = K0) := hK0.symm
  have hK0R : K0 < KR := by omega
  rw [← hK0] at h0 HC0
  clear hK0 hKR
  have HTb : Hid (Tb w) := hT
  cases hc : cmOk d t
  case false =>
    have HE : Hid (tmE d t = cmEr d t) := by show _ = _; unfold tmE; rw [if_neg (by rw [hc]; decide)]
    have HG : Hid (tmT d t = tr0) := by show _ = _; unfold tmT; rw [if_neg (by rw [hc]; decide)]
    have he := cmEr_no hc
    rw [HE.out, HG.out]
    generalize (cmR d t).2.2.ns.length = n
    generalize hEr : cmEr d t = Er at *
    have he2 : (Er != 0) = true := by simpa using he
    have HC : Hid (∀ W, Hid (TqS w W K0 KR #[.int .i64 k, .string (mk x), .string (mk a), .slice ad len cap]) → Calls Tryz.prog 11 #[tv k x a ad len cap] W fun e W' => e = .returned (.tuple #[.agg #[.slice none 0 0, .int .i64 0], .int .i64 Er]) ∧ Hid (TqS w W' K0 KR #[.int .i64 k, .string (mk x), .string (mk a), .slice ad len cap])) := fun W h => (HC0 W h.out).mono (fun e W' q => by
      obtain ⟨q1, q2⟩ := q
      rw [hc, if_neg (by decide)] at q1
      exact ⟨q1, h.out.later q2⟩)
    clear HC0 hV hT hc HE HG hb hz hEr HTb he
    go_enter Tryz.func16, Tryz.ntmps16
    go_upto_region 1 with fail
    try rw [HKR.out]
    try rw [HK0.out]
    generalize (w.alloc (.cells #[.int .i64 k, .string (mk x), .string (mk a), .slice ad len cap] 29)).alloc (.cells #[.int .i64 0, .string ⟨#[]⟩, .string ⟨#[]⟩, .slice none 0 0] 29) = W0 at h0 ⊢
    have H0 : Hid (TqS w W0 K0 KR #[.int .i64 k, .string (mk x), .string (mk a), .slice ad len cap]) := h0
    clear h0
    obtain ⟨c0, c1, c2, c3⟩ := H0.out.t.c4
    go_upto_region 3 with (go_at_call 11; refine (HC.out _ H0).mono ?_; rintro e w1 ⟨rfl, H1⟩)
    have H2 : Hid (TqS w (w1.alloc (.cells #[.slice none 0 0, .int .i64 0] 24)) K0 KR #[.int .i64 k, .string (mk x), .string (mk a), .slice ad len cap]) := H1.out.later (below_alloc _ _)
    generalize w1.alloc (.cells #[.slice none 0 0, .int .i64 0] 24) = w2 at H2 ⊢
    clear H0 c0 c1 c2 c3 HC H1
    have HT1 : TrP (KR + 1) w2 (n + 1) (.agg #[.int .i64 0, .string ⟨#[]⟩, .string ⟨#[]⟩, .slice none 0 0]) tr0 := trp_none _ _ _
    obtain ⟨n9, t9, b9⟩ := H2.out.store hwK HT1
    have HN9 : Hid (Bx _ KR _ _) := n9
    have HT9 : Hid (TrP w.heap.size _ _ _ _) := t9
    have HB9 : Hid (Below w.heap.size w _) := b9
    clear n9 t9 b9 HT1
    obtain ⟨r0, r1, r2, r3⟩ := (show Bx w2 KR #[.int .i64 0, .string ⟨#[]⟩, .string ⟨#[]⟩, .slice none 0 0] 29 from H2.out.r).c4
    have z0 := H2.out.r.fz 0
    have z1 := H2.out.r.fz 1
    have z2 := H2.out.r.fz 2
    have z3 := H2.out.r.fz 3
    clear H2
    go_wp2_with fail
    generalize (((w2.setCell ⟨KR, 0, none⟩ (.int .i64 0)).setCell ⟨KR, 1, none⟩ (.string ⟨#[]⟩)).setCell ⟨KR, 2, none⟩ (.string ⟨#[]⟩)).setCell ⟨KR, 3, none⟩ (.slice none 0 0) = W9 at HN9 HT9 HB9 ⊢
    obtain ⟨g0, g1, g2, g3⟩ := HN9.out.c4
    refine bodyPost_ret (v := .tuple #[.agg #[.int .i64 0, .string ⟨#[]⟩, .string ⟨#[]⟩, .slice none 0 0], .int .i64 Er]) (by simp [results, Tryz.results16, go_sem, g0, g1, g2, g3]) rfl ?_
    exact ⟨0, ⟨#[]⟩, ⟨#[]⟩, none, 0, 0, rfl, HT9, HB9⟩
  case true =>
    have HE : Hid (tmE d t = lyE (cmG d t)) := by show _ = _; unfold tmE; rw [if_pos hc]
    have HG : Hid (tmT d t = lyG (cmG d t)) := by show _ = _; unfold tmT; rw [if_pos hc]
    obtain ⟨f1, f2, f3, f4⟩ := cm_facts hb hc
    rw [HE.out, HG.out]
    have HC : Hid (∀ W, Hid (TqS w W K0 KR #[.int .i64 k, .string (mk x), .string (mk a), .slice ad len cap]) → Calls Tryz.prog 11 #[tv k x a ad len cap] W fun e W' => ∃ ga gl gc, e = .returned (.tuple #[.agg #[.slice ga gl gc, .int .i64 0], .int .i64 0]) ∧ Hid (GrV W' (gv ga gl gc 0) (cmG d t)) ∧ Hid (TqS w W' K0 KR #[.int .i64 k, .string (mk x), .string (mk a), .slice ad len cap])) := fun W h => (HC0 W h.out).mono (fun e W' q => by
      obtain ⟨q1, q2⟩ := q
      rw [hc, if_pos rfl] at q1
      obtain ⟨v, rfl, hv⟩ := q1
      have hv2 := hv.v
      obtain ⟨ga, gl, gc, rfl, hr⟩ := hv.v
      exact ⟨ga, gl, gc, rfl, hv2, h.out.later q2⟩)
    have HTr : Hid (∀ W ga gl gc, Hid (TqS w W K0 KR #[.int .i64 k, .string (mk x), .string (mk a), .slice ad len cap]) → GrV W (gv ga gl gc 0) (cmG d t) → Calls Tryz.prog 9 #[gv ga gl gc 0] W fun e W' => ∃ (rk : Int) (rx ry : ByteArray) (rad : Option Addr) (rl rc : Nat), e = .returned (.tuple #[.agg #[.int .i64 rk, .string rx, .string ry, .slice rad rl rc], .int .i64 (lyE (cmG d t))]) ∧ Hid (TrP (KR + 1) W' ((cmG d t).nodes.length + 1) (.agg #[.int .i64 rk, .string rx, .string ry, .slice rad rl rc]) (lyG (cmG d t))) ∧ Hid (TqS w W' K0 KR #[.int .i64 k, .string (mk x), .string (mk a), .slice ad len cap])) := fun W ga gl gc h hg => (ttree_any hg f4 (HTb.out.later h.out.bl)).mono (fun e W' q => by
      obtain ⟨rk, rx, ry, rad, rl, rc, q1, q2, q3⟩ := q
      exact ⟨rk, rx, ry, rad, rl, rc, q1, q2.out.mono (by have := h.out.r.lt; omega), h.out.later q3.out⟩)
    have hn : (cmR d t).2.2.ns.length = (cmG d t).nodes.length := rfl
    rw [hn]
    generalize cmG d t = g at *
    generalize g.nodes.length = n at *
    generalize lyE g = Er at *
    generalize lyG g = T at *
    clear HC0 hV hT hc HE HG hb hz HTb f1 f2 f3 f4 hn
    go_enter Tryz.func16, Tryz.ntmps16
    go_upto_region 1 with fail
    try rw [HKR.out]
    try rw [HK0.out]
    generalize (w.alloc (.cells #[.int .i64 k, .string (mk x), .string (mk a), .slice ad len cap] 29)).alloc (.cells #[.int .i64 0, .string ⟨#[]⟩, .string ⟨#[]⟩, .slice none 0 0] 29) = W0 at h0 ⊢
    have H0 : Hid (TqS w W0 K0 KR #[.int .i64 k, .string (mk x), .string (mk a), .slice ad len cap]) := h0
    clear h0
    obtain ⟨c0, c1, c2, c3⟩ := H0.out.t.c4
    go_upto_region 4 with (go_at_call 11; refine (HC.out _ H0).mono ?_; rintro e w1 ⟨ga, gl, gc, rfl, G1, H1⟩)
    have H2 : Hid (TqS w (w1.alloc (.cells #[.slice ga gl gc, .int .i64 0] 24)) K0 KR #[.int .i64 k, .string (mk x), .string (mk a), .slice ad len cap]) := H1.out.later (below_alloc _ _)
    have G2 : Hid (GrV (w1.alloc (.cells #[.slice ga gl gc, .int .i64 0] 24)) (gv ga gl gc 0) g) := G1.out.later (below_alloc _ _) (Nat.le_refl _)
    have N2 := Bx.new w1 #[.slice ga gl gc, .int .i64 0] 24
    generalize w1.alloc (.cells #[.slice ga gl gc, .int .i64 0] 24) = w2 at H2 G2 N2 ⊢
    generalize w1.heap.size = K4 at N2 ⊢
    obtain ⟨d0, d1⟩ := N2.c2
    clear H0 c0 c1 c2 c3 HC H1 G1 N2
    go_wp2_with (go_at_call 9; refine (HTr.out _ _ _ _ H2 G2.out).mono ?_; rintro r w3 ⟨rk, rx, ry, rad, rl, rc, rfl, HT3, H3⟩; obtain ⟨n9, t9, b9⟩ := H3.out.store hwK HT3.out; have HN9 : Hid (Bx _ KR _ _) := n9; have HT9 : Hid (TrP w.heap.size _ _ _ _) := t9; have HB9 : Hid (Below w.heap.size w _) := b9; clear n9 t9 b9; obtain ⟨r0, r1, r2, r3⟩ := (show Bx w3 KR #[.int .i64 0, .string ⟨#[]⟩, .string ⟨#[]⟩, .slice none 0 0] 29 from H3.out.r).c4; have z0 := H3.out.r.fz 0; have z1 := H3.out.r.fz 1; have z2 := H3.out.r.fz 2; have z3 := H3.out.r.fz 3)
    generalize (((w3.setCell ⟨KR, 0, none⟩ (.int .i64 rk)).setCell ⟨KR, 1, none⟩ (.string rx)).setCell ⟨KR, 2, none⟩ (.string ry)).setCell ⟨KR, 3, none⟩ (.slice rad rl rc) = W9 at HN9 HT9 HB9 ⊢
    obtain ⟨g0, g1, g2, g3⟩ := HN9.out.c4
    refine bodyPost_ret (v := .tuple #[.agg #[.int .i64 rk, .string rx, .string ry, .slice rad rl rc], .int .i64 Er]) (by simp [results, Tryz.results16, go_sem, g0, g1, g2, g3]) rfl ?_
    exact ⟨rk, rx, ry, rad, rl, rc, rfl, HT9, HB9⟩
theorem trim_any {w : World} {d : Nat} {v : Value} {t : Tr} (hb : bri 2147483648 d t) (hV : TrV w d v t) (hT : Tb w) (hz : tsz d t ≤ 1000000) : Calls Tryz.prog 16 #[v] w (LTRes w ((cmR d t).2.2.ns.length + 1) (tmE d t) (tmT d t)) := by
  obtain ⟨ad, len, cap, rfl⟩ := hV.open4
  exact trim_core hb hV hT hz
end Go.Proofs.YtcplgjclkjcekaaGreatDoor.Grp
end
