/- Several texts as one: LayAg. -/
import Derived.Test.YtcplgjclkjcekaaGreatDoorYLayBkS
import Derived.Test.YtcplgjclkjcekaaGreatDoorYLayTm
import Derived.Test.YtcplgjclkjcekaaGreatDoorYLayFar
import Derived.Test.YtcplgjclkjcekaaGreatDoorYIsoTop
section
/- LayAgain: the law's walk. -/
namespace Go.Proofs.YtcplgjclkjcekaaGreatDoor.Grp
open Utf Rws Pln Flw
open Go.RowKit
set_option linter.unusedSimpArgs false
set_option linter.unusedVariables false
set_option maxRecDepth 100000
set_option maxHeartbeats 4000000

theorem tm_no {d : Nat} {t : Tr} (h : tmE d t ≠ 0) : tmT d t = tr0 := by
  unfold tmE at h
  unfold tmT
  split
  · rename_i hc
    rw [if_pos hc] at h
    exact lyG_no h
  · rfl
/-- what is trimmed is trimmed to itself, and means the same -/
structure TmOk (d D : Nat) (t : Tr) : Prop where
  ok : cmOk d t = true
  ok2 : cmOk D (tmT d t) = true
  ns2 : (cmR D (tmT d t)).2.2.ns = (cmR d t).2.2.ns
  e2 : tmE D (tmT d t) = 0
  t2 : tmT D (tmT d t) = tmT d t
  br : bri 2147483648 D (tmT d t)
  tz : tsz D (tmT d t) ≤ 1000000
  rg : rgG ⟨(cmR d t).2.2.ns, 0⟩ = true
  sm : Sml (cmR d t).2.2.ns
theorem tm_ok {d : Nat} {t : Tr} (hb : bri 2147483648 d t) (h : tmE d t = 0) : TmOk d ((cmR d t).2.2.ns.length + 80) t := by
  have hc : cmOk d t = true := by
    unfold tmE at h
    cases q : cmOk d t
    · rw [q, if_neg (by decide)] at h
      exact absurd h (cmEr_no q)
    · rfl
  have h1 : lyE (cmG d t) = 0 := by unfold tmE at h; rw [if_pos hc] at h; exact h
  have hT : tmT d t = lyG (cmG d t) := by unfold tmT; rw [if_pos hc]
  obtain ⟨f1, f2, f3, f4⟩ := cm_facts hb hc
  have hl4 : (cmR d t).2.2.ns.length ≤ 4096 := (rgG_facts f1).1
  have hok := ly_ok h1 (D := (cmR d t).2.2.ns.length + 80) (by show (cmR d t).2.2.ns.length + 1 ≤ _; omega)
  have hbr : bri 2147483648 ((cmR d t).2.2.ns.length + 80) (lyG (cmG d t)) := ly_bri h1 (by decide) (f4 hl4).1 (by show (cmR d t).2.2.ns.length + 1 ≤ _; omega)
  have hcn : (cmR ((cmR d t).2.2.ns.length + 80) (lyG (cmG d t))).2.2.ns = (cmR d t).2.2.ns := hok.cn.trans f3
  have hk : cmG ((cmR d t).2.2.ns.length + 80) (lyG (cmG d t)) = cmG d t := by unfold cmG at hcn ⊢; rw [hcn]
  refine ⟨hc, by rw [hT]; exact hok.ok, by rw [hT]; exact hcn, ?_, ?_, by rw [hT]; exact hbr, ?_, f1, f4⟩
  · rw [hT]; unfold tmE; rw [if_pos hok.ok, hk, h1]
  · rw [hT]
    show tmT _ (lyG (cmG d t)) = _
    unfold tmT
    rw [if_pos hok.ok, hk]
  · rw [hT]
    have h5 := hok.tz
    have h6 := hok.s4
    omega
theorem again_core {w : World} {d : Nat} {k : Int} {x a : Ln} {ad : Option Addr} {len cap : Nat} {t : Tr} (hV : TrV w d (tv k x a ad len cap) t) (hT : Tb w) :
    Calls Tryz.prog 4 #[tv k x a ad len cap] w fun e w' => e = .returned (.bool true) ∧ Below w.heap.size w w' := by
  have HA : Hid (∀ W, Below w.heap.size w W → Calls Tryz.prog 8 #[] W fun e W' => e = .returned (.bool true) ∧ Hid (Below w.heap.size w W')) := fun W b => (alive_any (hT.later b)).mono (fun e W' q => ⟨q.1, b.trans (q.2.mono b.size)⟩)
  have HF : Hid (Calls Tryz.prog 15 _ _ _) := far_new hV
  have HTS : Hid (∀ W, MyS w W #[.int .i64 k, .string (mk x), .string (mk a), .slice ad len cap] → TgS w W w.heap.size k (mk x) (mk a) ad len cap d t) := fun W h => ⟨h.b, h.bl, hV.later h.bl (Nat.le_refl _)⟩
  have HBR : Hid (fineT 81 t → bri 2147483648 d t) := fun h => bri_fine (by decide) hV h
  have HTZ : Hid (fineT 81 t ∧ cntT 81 t ≤ 600 → tsz d t ≤ 1000000) := fun h => by have := tsz_fine hV h.1; have := h.2; omega
  have HTm0 : Hid (bri 2147483648 d t → tsz d t ≤ 1000000 → ∀ W K, TgS w W K k (mk x) (mk a) ad len cap d t → Calls Tryz.prog 16 #[tv k x a ad len cap] W (LTRes W ((cmR d t).2.2.ns.length + 1) (tmE d t) (tmT d t))) := fun h1 h2 W K h => trim_any h1 h.t (hT.later h.bl) h2
  have HCo0 : Hid (bri 2147483648 d t → tsz d t ≤ 1000000 → ∀ W K, TgS w W K k (mk x) (mk a) ad len cap d t → Calls Tryz.prog 11 #[tv k x a ad len cap] W (GRes W (cmOk d t) (cmEr d t) ⟨(cmR d t).2.2.ns, 0⟩)) := fun h1 h2 W K h => compose_any h1 h.t (hT.later h.bl) h2
  go_enter Tryz.func4, Tryz.ntmps4
  go_wp2_with fail
  refine HF.out.mono ?_
  rintro e w3 ⟨q, rfl, B3, _, hq, _⟩
  have H3 : Hid (MyS w w3 #[.int .i64 k, .string (mk x), .string (mk a), .slice ad len cap]) := MyS.far B3.out
  clear HF B3
  cases q
  rotate_left
  · clear hV hT hq HBR HTZ HTm0 HCo0 HTS
    go_wp2_with (go_at_call 8; refine (HA.out _ H3.out.bl).mono ?_; rintro e w4 ⟨rfl, H4⟩)
    go_ret
    exact ⟨rfl, H4.out⟩
  have hq2 := hq.out rfl
  have hb := HBR.out hq2.1
  have T3 : Hid (TgS w w3 w.heap.size k (mk x) (mk a) ad len cap d t) := HTS.out _ H3.out
  have HTm := HTm0.out hb (HTZ.out hq2)
  have HCo := HCo0.out hb (HTZ.out hq2)
  clear hq hq2 HBR HTZ HTm0 HCo0 HTS H3
  by_cases hE : tmE d t = 0
  · have hok := tm_ok hb hE
    rw [hE] at HTm
    have HTr : Hid (∀ W K, Hid (TgS w W K k (mk x) (mk a) ad len cap d t) → Calls Tryz.prog 16 #[tv k x a ad len cap] W fun e W' => ∃ (k2 : Int) (x2 y2 : ByteArray) (a2 : Option Addr) (l2 c2 : Nat), e = .returned (.tuple #[.agg #[.int .i64 k2, .string x2, .string y2, .slice a2 l2 c2], .int .i64 0]) ∧ Hid (TrV W' ((cmR d t).2.2.ns.length + 80) (.agg #[.int .i64 k2, .string x2, .string y2, .slice a2 l2 c2]) (tmT d t)) ∧ Hid (TgS w W' K k (mk x) (mk a) ad len cap d t)) := fun W K h => (HTm W K h.out).mono (fun e W' q => by
      obtain ⟨k2, x2, y2, a2, l2, c2, q1, q2, q3⟩ := q
      exact ⟨k2, x2, y2, a2, l2, c2, q1, q2.out.v.more (by omega), h.out.later q3.out⟩)
    have HT2 : Hid (∀ W K k2 x2 y2 a2 l2 c2, Hid (TgS w W K k2 x2 y2 a2 l2 c2 ((cmR d t).2.2.ns.length + 80) (tmT d t)) → Calls Tryz.prog 16 #[.agg #[.int .i64 k2, .string x2, .string y2, .slice a2 l2 c2]] W fun e W' => ∃ (k3 : Int) (x3 y3 : ByteArray) (a3 : Option Addr) (l3 c3 : Nat), e = .returned (.tuple #[.agg #[.int .i64 k3, .string x3, .string y3, .slice a3 l3 c3], .int .i64 0]) ∧ Hid (TrV W' ((cmR d t).2.2.ns.length + 80) (.agg #[.int .i64 k3, .string x3, .string y3, .slice a3 l3 c3]) (tmT d t)) ∧ Hid (Below W.heap.size W W')) := fun W K k2 x2 y2 a2 l2 c2 h => (trim_any hok.br h.out.t (hT.later h.out.bl) hok.tz).mono (fun e W' q => by
      obtain ⟨k3, x3, y3, a3, l3, c3, q1, q2, q3⟩ := q
      rw [hok.e2] at q1
      rw [hok.t2, hok.ns2] at q2
      exact ⟨k3, x3, y3, a3, l3, c3, q1, q2.out.v.more (by omega), q3⟩)
    have HC1 : Hid (∀ W K, Hid (TgS w W K k (mk x) (mk a) ad len cap d t) → Calls Tryz.prog 11 #[tv k x a ad len cap] W fun e W' => ∃ ga gl gc, e = .returned (.tuple #[gv ga gl gc 0, .int .i64 0]) ∧ Hid (GrV W' (gv ga gl gc 0) ⟨(cmR d t).2.2.ns, 0⟩) ∧ Hid (Below W.heap.size W W')) := fun W K h => (HCo W K h.out).mono (fun e W' q => by
      obtain ⟨q1, q2⟩ := q
      rw [hok.ok, if_pos rfl] at q1
      obtain ⟨v, rfl, hv⟩ := q1
      have hv2 := hv.v
      obtain ⟨ga, gl, gc, rfl, _⟩ := hv.v
      exact ⟨ga, gl, gc, rfl, hv2, q2⟩)
    have HC2 : Hid (∀ W K k2 x2 y2 a2 l2 c2, Hid (TgS w W K k2 x2 y2 a2 l2 c2 ((cmR d t).2.2.ns.length + 80) (tmT d t)) → Calls Tryz.prog 11 #[.agg #[.int .i64 k2, .string x2, .string y2, .slice a2 l2 c2]] W fun e W' => ∃ ga gl gc, e = .returned (.tuple #[gv ga gl gc 0, .int .i64 0]) ∧ Hid (GrV W' (gv ga gl gc 0) ⟨(cmR d t).2.2.ns, 0⟩) ∧ Hid (Below W.heap.size W W')) := fun W K k2 x2 y2 a2 l2 c2 h => (compose_any hok.br h.out.t (hT.later h.out.bl) hok.tz).mono (fun e W' q => by
      obtain ⟨q1, q2⟩ := q
      rw [hok.ok2, if_pos rfl, hok.ns2] at q1
      obtain ⟨v, rfl, hv⟩ := q1
      have hv2 := hv.v
      obtain ⟨ga, gl, gc, rfl, _⟩ := hv.v
      exact ⟨ga, gl, gc, rfl, hv2, q2⟩)
    have HIs : Hid (∀ W v v', Below w.heap.size w W → GrV W v ⟨(cmR d t).2.2.ns, 0⟩ → GrV W v' ⟨(cmR d t).2.2.ns, 0⟩ → Calls Tryz.prog 17 #[v, v'] W fun e W' => e = .returned (.tuple #[.bool true, .int .i64 0]) ∧ Hid (Below W.heap.size W W')) := fun W v v' hb h h' => (Alk.iso_any h h' hok.sm hok.sm (hT.later hb)).mono (fun e W' q => by
      obtain ⟨q0, q1, q2, q3⟩ := q
      rw [hok.rg] at q1 q2
      have : q0 = true := q2.2 ⟨rfl, Alk.lkP_refl _ _ _⟩
      subst this
      exact ⟨by simpa using q1, q3⟩)
    have HSm : Hid (∀ W D v v', TrV W D v (tmT d t) → TrV W D v' (tmT d t) → Calls Tryz.prog 10 #[v, v'] W fun e W' => e = .returned (.bool true) ∧ Hid (Below W.heap.size W W')) := fun W D v v' h h' => rsame_is h h'
    generalize (cmR d t).2.2.ns = ns at *
    generalize ns.length + 80 = D at *
    generalize tmT d t = A at *
    clear hV hT hE hok hb HTm HCo
    obtain ⟨c0, c1, c2, c3⟩ := T3.out.b.c4
    go_upto_region 5 with (go_at_call 16; refine (HTr.out _ _ T3).mono ?_; rintro e w4 ⟨k2, x2, y2, a2, l2, c2', rfl, A4, T4⟩)
    have A5 : Hid (TgS w (w4.alloc (.cells #[.int .i64 k2, .string x2, .string y2, .slice a2 l2 c2'] 29)) w4.heap.size k2 x2 y2 a2 l2 c2' D A) := TgS.new T4.out.bl A4.out
    have T5 : Hid (TgS w (w4.alloc (.cells #[.int .i64 k2, .string x2, .string y2, .slice a2 l2 c2'] 29)) w.heap.size k (mk x) (mk a) ad len cap d t) := T4.out.later (below_alloc _ _)
    generalize w4.alloc (.cells #[.int .i64 k2, .string x2, .string y2, .slice a2 l2 c2'] 29) = w5 at A5 T5 ⊢
    generalize w4.heap.size = K5 at A5 ⊢
    clear T3 A4 T4 c0 c1 c2 c3 HTr
    obtain ⟨d0, d1, d2, d3⟩ := A5.out.b.c4
    go_upto_region 8 with (go_at_call 16; refine (HT2.out _ _ _ _ _ _ _ _ A5).mono ?_; rintro e w6 ⟨k3, x3, y3, a3, l3, c3', rfl, S6, B6⟩)
    have S7 : Hid (TgS w (w6.alloc (.cells #[.int .i64 k3, .string x3, .string y3, .slice a3 l3 c3'] 29)) w6.heap.size k3 x3 y3 a3 l3 c3' D A) := TgS.new (A5.out.later B6.out).bl S6.out
    have A7 : Hid (TgS w (w6.alloc (.cells #[.int .i64 k3, .string x3, .string y3, .slice a3 l3 c3'] 29)) K5 k2 x2 y2 a2 l2 c2' D A) := (A5.out.later B6.out).later (below_alloc _ _)
    have T7 : Hid (TgS w (w6.alloc (.cells #[.int .i64 k3, .string x3, .string y3, .slice a3 l3 c3'] 29)) w.heap.size k (mk x) (mk a) ad len cap d t) := (T5.out.later B6.out).later (below_alloc _ _)
    generalize w6.alloc (.cells #[.int .i64 k3, .string x3, .string y3, .slice a3 l3 c3'] 29) = w7 at S7 A7 T7 ⊢
    generalize w6.heap.size = K7 at S7 ⊢
    clear A5 T5 S6 B6 d0 d1 d2 d3 HT2
    obtain ⟨c0, c1, c2, c3⟩ := T7.out.b.c4
    go_upto_region 9 with (go_at_call 11; refine (HC1.out _ _ T7).mono ?_; rintro e w8 ⟨ga, gl, gc, rfl, G8, B8⟩)
    have G9 : Hid (AgS w (w8.alloc (.cells #[.slice ga gl gc, .int .i64 0] 24)) w8.heap.size ga gl gc 0 ns) := AgS.new (T7.out.later B8.out).bl G8.out
    have S9 : Hid (TgS w (w8.alloc (.cells #[.slice ga gl gc, .int .i64 0] 24)) K7 k3 x3 y3 a3 l3 c3' D A) := (S7.out.later B8.out).later (below_alloc _ _)
    have A9 : Hid (TgS w (w8.alloc (.cells #[.slice ga gl gc, .int .i64 0] 24)) K5 k2 x2 y2 a2 l2 c2' D A) := (A7.out.later B8.out).later (below_alloc _ _)
    generalize w8.alloc (.cells #[.slice ga gl gc, .int .i64 0] 24) = w9 at G9 S9 A9 ⊢
    generalize w8.heap.size = K9 at G9 ⊢
    clear S7 A7 T7 G8 B8 c0 c1 c2 c3 HC1
    obtain ⟨d0, d1, d2, d3⟩ := A9.out.b.c4
    go_upto_region 10 with (go_at_call 11; refine (HC2.out _ _ _ _ _ _ _ _ A9).mono ?_; rintro e w10 ⟨ha, hl, hc, rfl, G10, B10⟩)
    have H11 : Hid (AgS w (w10.alloc (.cells #[.slice ha hl hc, .int .i64 0] 24)) w10.heap.size ha hl hc 0 ns) := AgS.new (A9.out.later B10.out).bl G10.out
    have G11 : Hid (AgS w (w10.alloc (.cells #[.slice ha hl hc, .int .i64 0] 24)) K9 ga gl gc 0 ns) := (G9.out.later B10.out).later (below_alloc _ _)
    have S11 : Hid (TgS w (w10.alloc (.cells #[.slice ha hl hc, .int .i64 0] 24)) K7 k3 x3 y3 a3 l3 c3' D A) := (S9.out.later B10.out).later (below_alloc _ _)
    have A11 : Hid (TgS w (w10.alloc (.cells #[.slice ha hl hc, .int .i64 0] 24)) K5 k2 x2 y2 a2 l2 c2' D A) := (A9.out.later B10.out).later (below_alloc _ _)
    generalize w10.alloc (.cells #[.slice ha hl hc, .int .i64 0] 24) = w11 at H11 G11 S11 A11 ⊢
    generalize w10.heap.size = K11 at H11 ⊢
    clear G9 S9 A9 G10 B10 d0 d1 d2 d3 HC2
    obtain ⟨p0, p1⟩ := G11.out.b.c2
    obtain ⟨q0, q1⟩ := H11.out.b.c2
    go_upto_region 11 with (go_at_call 17; refine (HIs.out _ _ _ G11.out.bl G11.out.g H11.out.g).mono ?_; rintro e w12 ⟨rfl, B12⟩)
    have S12 : Hid (TgS w w12 K7 k3 x3 y3 a3 l3 c3' D A) := S11.out.later B12.out
    have A12 : Hid (TgS w w12 K5 k2 x2 y2 a2 l2 c2' D A) := A11.out.later B12.out
    clear p0 p1 q0 q1 G11 H11 S11 A11 B12 HIs
    obtain ⟨d0, d1, d2, d3⟩ := A12.out.b.c4
    obtain ⟨s0, s1, s2, s3⟩ := S12.out.b.c4
    go_wp2_with (first | (go_at_call 10; refine (HSm.out _ _ _ _ A12.out.t S12.out.t).mono ?_; rintro e w13 ⟨rfl, B13⟩; have C13 : Hid (Below w.heap.size w w13) := (A12.out.later B13.out).bl) | (go_at_call 8; refine (HA.out _ C13.out).mono ?_; rintro e w14 ⟨rfl, H14⟩))
    go_ret
    exact ⟨rfl, H14.out⟩
  · have hG := tm_no hE
    have he : (tmE d t != 0) = true := by simpa using hE
    rw [hG] at HTm
    have HTr : Hid (∀ W K, Hid (TgS w W K k (mk x) (mk a) ad len cap d t) → Calls Tryz.prog 16 #[tv k x a ad len cap] W fun e W' => ∃ (k2 : Int) (x2 y2 : ByteArray) (a2 : Option Addr) (l2 c2 : Nat), e = .returned (.tuple #[.agg #[.int .i64 k2, .string x2, .string y2, .slice a2 l2 c2], .int .i64 (tmE d t)]) ∧ Hid (TrV W' ((cmR d t).2.2.ns.length + 1) (.agg #[.int .i64 k2, .string x2, .string y2, .slice a2 l2 c2]) tr0) ∧ Hid (Below w.heap.size w W')) := fun W K h => (HTm W K h.out).mono (fun e W' q => by
      obtain ⟨k2, x2, y2, a2, l2, c2, q1, q2, q3⟩ := q
      exact ⟨k2, x2, y2, a2, l2, c2, q1, q2.out.v, (h.out.later q3.out).bl⟩)
    have HSa : Hid (∀ W d k x y ra rl rc, TrV W d (.agg #[.int .i64 k, .string x, .string y, .slice ra rl rc]) tr0 → Below w.heap.size w W → Calls Tryz.prog 10 #[.agg #[.int .i64 k, .string x, .string y, .slice ra rl rc], .agg #[.int .i64 0, .string ⟨#[]⟩, .string ⟨#[]⟩, .slice none 0 0]] W fun e W' => e = .returned (.bool true) ∧ Hid (Below w.heap.size w W')) := fun W d k x y ra rl rc h hb => (rsame_is h (trv_none W 0)).mono (fun e W' q => ⟨q.1, hb.trans (q.2.mono hb.size)⟩)
    generalize tmE d t = Er at *
    generalize (cmR d t).2.2.ns.length + 1 = D at *
    clear hV hT hE hG hb HTm HCo
    obtain ⟨c0, c1, c2, c3⟩ := T3.out.b.c4
    go_upto_region 5 with (go_at_call 16; refine (HTr.out _ _ T3).mono ?_; rintro e w4 ⟨k2, x2, y2, a2, l2, c2', rfl, A4, B4⟩)
    have A5 : Hid (TgS w (w4.alloc (.cells #[.int .i64 k2, .string x2, .string y2, .slice a2 l2 c2'] 29)) w4.heap.size k2 x2 y2 a2 l2 c2' D tr0) := TgS.new B4.out A4.out
    generalize w4.alloc (.cells #[.int .i64 k2, .string x2, .string y2, .slice a2 l2 c2'] 29) = w5 at A5 ⊢
    generalize w4.heap.size = K5 at A5 ⊢
    clear T3 A4 B4 c0 c1 c2 c3 HTr
    obtain ⟨d0, d1, d2, d3⟩ := A5.out.b.c4
    go_wp2_with (first | (go_at_call 10; refine (HSa.out _ _ _ _ _ _ _ _ A5.out.t A5.out.bl).mono ?_; rintro e w6 ⟨rfl, B6⟩) | (go_at_call 8; refine (HA.out _ B6.out).mono ?_; rintro e w7 ⟨rfl, H7⟩))
    go_ret
    exact ⟨rfl, H7.out⟩
theorem lagain_walk (d : Nat) (v : Value) (t : Tr) (w : World) (hV : TrV w d v t) (hT : Tb w) : Calls Tryz.prog 4 #[v] w fun e w' => e = .returned (.bool true) ∧ Below w.heap.size w w' := by
  obtain ⟨ad, len, cap, rfl⟩ := hV.open4
  exact again_core hV hT
end Go.Proofs.YtcplgjclkjcekaaGreatDoor.Grp
end
