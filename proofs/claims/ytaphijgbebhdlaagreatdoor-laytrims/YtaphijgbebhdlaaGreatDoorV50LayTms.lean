/- Several texts as one: LayTms. -/
import Derived.Test.YtaphijgbebhdlaaGreatDoorV27LayWr
import Derived.Test.YtaphijgbebhdlaaGreatDoorV49FlowRcnt
import Derived.Test.YtaphijgbebhdlaaGreatDoorV47FlowBrfZ
section
/- LayTrims: the law's walk. -/
namespace Go.Proofs.YtaphijgbebhdlaaGreatDoor.Grp
open Utf Rws Pln Flw
open Go.RowKit
set_option linter.unusedSimpArgs false
set_option linter.unusedVariables false
set_option maxRecDepth 100000
set_option maxHeartbeats 4000000

theorem trims_core {w : World} {d : Nat} {k : Int} {x a : Ln} {ad : Option Addr} {len cap : Nat} {t : Tr} (hd : 64 < d) (hV : TrV w d (tv k x a ad len cap) t) (hT : Tb w) :
    Calls Tryz.prog 4 #[tv k x a ad len cap] w fun e w' => e = .returned (.bool true) ∧ Below w.heap.size w w' := by
  have HA : Hid (∀ W, Below w.heap.size w W → Calls Tryz.prog 6 #[] W fun e W' => e = .returned (.bool true) ∧ Hid (Below w.heap.size w W')) := fun W b => (alive_any (hT.later b)).mono (fun e W' q => ⟨q.1, b.trans (q.2.mono b.size)⟩)
  have HF : Hid (Calls Tryz.prog 12 _ _ _) := far_new hV
  have HTS : Hid (∀ W, MyS w W #[.int .i64 k, .string (mk x), .string (mk a), .slice ad len cap] → TgS w W w.heap.size k (mk x) (mk a) ad len cap d t) := fun W h => ⟨h.b, h.bl, hV.later h.bl (Nat.le_refl _)⟩
  have HBR : Hid (fineT 81 t → brief d t) := fun h => brief_of hV h
  have HTZ : Hid (fineT 81 t ∧ cntT 81 t ≤ 600 → tsz d t ≤ 1000000) := fun h => by have := tsz_fine hV h.1; have := h.2; omega
  have HTm0 : Hid (brief d t → tsz d t ≤ 1000000 → ∀ W K, TgS w W K k (mk x) (mk a) ad len cap d t → Calls Tryz.prog 13 #[tv k x a ad len cap] W (LTRes W ((cmR d t).2.2.ns.length + 1) (tmE d t) (tmT d t))) := fun h1 h2 W K h => trim_any (bri.mono (by decide) h1) h.t (hT.later h.bl) h2
  have HRm0 : Hid (brief d t → tsz d t ≤ 1000000 → ∀ W K, TgS w W K k (mk x) (mk a) ad len cap d t → Calls Tryz.prog 14 #[tv k x a ad len cap] W (LTRes W ((cmR d t).2.2.ns.length + 1) (tmE d t) (tmT d t))) := fun h1 h2 W K h => rtrim_any hd h1 h.t (hT.later h.bl) h2
  go_enter Tryz.func4, Tryz.ntmps4
  go_wp2_with fail
  refine HF.out.mono ?_
  rintro e w3 ⟨q, rfl, B3, _, hq, _⟩
  have H3 : Hid (MyS w w3 #[.int .i64 k, .string (mk x), .string (mk a), .slice ad len cap]) := MyS.far B3.out
  clear HF B3
  cases q
  rotate_left
  · clear hV hT hq HBR HTZ HTm0 HRm0 HTS
    go_wp2_with (go_at_call 6; refine (HA.out _ H3.out.bl).mono ?_; rintro e w4 ⟨rfl, H4⟩)
    go_ret
    exact ⟨rfl, H4.out⟩
  have hq2 := hq.out rfl
  have hb := HBR.out hq2.1
  have T3 : Hid (TgS w w3 w.heap.size k (mk x) (mk a) ad len cap d t) := HTS.out _ H3.out
  have HTm := HTm0.out hb (HTZ.out hq2)
  have HRm := HRm0.out hb (HTZ.out hq2)
  clear hq hq2 HBR HTZ HTm0 HRm0 HTS H3
  have HTr : Hid (∀ W K, Hid (TgS w W K k (mk x) (mk a) ad len cap d t) → Calls Tryz.prog 13 #[tv k x a ad len cap] W fun e W' => ∃ (k2 : Int) (x2 y2 : ByteArray) (a2 : Option Addr) (l2 c2 : Nat), e = .returned (.tuple #[.agg #[.int .i64 k2, .string x2, .string y2, .slice a2 l2 c2], .int .i64 (tmE d t)]) ∧ Hid (TrV W' ((cmR d t).2.2.ns.length + 1) (.agg #[.int .i64 k2, .string x2, .string y2, .slice a2 l2 c2]) (tmT d t)) ∧ Hid (TgS w W' K k (mk x) (mk a) ad len cap d t)) := fun W K h => (HTm W K h.out).mono (fun e W' q => by
    obtain ⟨k2, x2, y2, a2, l2, c2, q1, q2, q3⟩ := q
    exact ⟨k2, x2, y2, a2, l2, c2, q1, q2.out.v, h.out.later q3.out⟩)
  have HRr : Hid (∀ W K, Hid (TgS w W K k (mk x) (mk a) ad len cap d t) → Calls Tryz.prog 14 #[tv k x a ad len cap] W fun e W' => ∃ (k2 : Int) (x2 y2 : ByteArray) (a2 : Option Addr) (l2 c2 : Nat), e = .returned (.tuple #[.agg #[.int .i64 k2, .string x2, .string y2, .slice a2 l2 c2], .int .i64 (tmE d t)]) ∧ Hid (TrV W' ((cmR d t).2.2.ns.length + 1) (.agg #[.int .i64 k2, .string x2, .string y2, .slice a2 l2 c2]) (tmT d t)) ∧ Hid (Below W.heap.size W W')) := fun W K h => (HRm W K h.out).mono (fun e W' q => by
    obtain ⟨k2, x2, y2, a2, l2, c2, q1, q2, q3⟩ := q
    exact ⟨k2, x2, y2, a2, l2, c2, q1, q2.out.v, q3.out⟩)
  have HSm : Hid (∀ W D v v', TrV W D v (tmT d t) → TrV W D v' (tmT d t) → Calls Tryz.prog 11 #[v, v'] W fun e W' => e = .returned (.bool true) ∧ Hid (Below W.heap.size W W')) := fun W D v v' h h' => rsame_is h h'
  generalize (cmR d t).2.2.ns.length + 1 = D at *
  generalize tmT d t = A at *
  generalize tmE d t = Er at *
  clear hV hT hb HTm HRm
  obtain ⟨c0, c1, c2, c3⟩ := T3.out.b.c4
  go_upto_region 5 with (go_at_call 13; refine (HTr.out _ _ T3).mono ?_; rintro e w4 ⟨k2, x2, y2, a2, l2, c2', rfl, A4, T4⟩)
  have A5 : Hid (TgS w (w4.alloc (.cells #[.int .i64 k2, .string x2, .string y2, .slice a2 l2 c2'] 29)) w4.heap.size k2 x2 y2 a2 l2 c2' D A) := TgS.new T4.out.bl A4.out
  have T5 : Hid (TgS w (w4.alloc (.cells #[.int .i64 k2, .string x2, .string y2, .slice a2 l2 c2'] 29)) w.heap.size k (mk x) (mk a) ad len cap d t) := T4.out.later (below_alloc _ _)
  generalize w4.alloc (.cells #[.int .i64 k2, .string x2, .string y2, .slice a2 l2 c2'] 29) = w5 at A5 T5 ⊢
  generalize w4.heap.size = K5 at A5 ⊢
  clear T3 A4 T4 c0 c1 c2 c3 HTr
  obtain ⟨d0, d1, d2, d3⟩ := T5.out.b.c4
  go_upto_region 6 with (go_at_call 14; refine (HRr.out _ _ T5).mono ?_; rintro e w6 ⟨k3, x3, y3, a3, l3, c3', rfl, S6, B6⟩)
  have S7 : Hid (TgS w (w6.alloc (.cells #[.int .i64 k3, .string x3, .string y3, .slice a3 l3 c3'] 29)) w6.heap.size k3 x3 y3 a3 l3 c3' D A) := TgS.new (A5.out.later B6.out).bl S6.out
  have A7 : Hid (TgS w (w6.alloc (.cells #[.int .i64 k3, .string x3, .string y3, .slice a3 l3 c3'] 29)) K5 k2 x2 y2 a2 l2 c2' D A) := (A5.out.later B6.out).later (below_alloc _ _)
  generalize w6.alloc (.cells #[.int .i64 k3, .string x3, .string y3, .slice a3 l3 c3'] 29) = w7 at S7 A7 ⊢
  generalize w6.heap.size = K7 at S7 ⊢
  clear A5 T5 S6 B6 d0 d1 d2 d3 HRr
  obtain ⟨e0, e1, e2, e3⟩ := A7.out.b.c4
  obtain ⟨s0, s1, s2, s3⟩ := S7.out.b.c4
  go_wp2_with (first | (go_at_call 11; refine (HSm.out _ _ _ _ A7.out.t S7.out.t).mono ?_; rintro e w8 ⟨rfl, B8⟩; have C8 : Hid (Below w.heap.size w w8) := (A7.out.later B8.out).bl) | (go_at_call 6; refine (HA.out _ C8.out).mono ?_; rintro e w9 ⟨rfl, H9⟩))
  go_ret
  exact ⟨rfl, H9.out⟩
theorem ltrims_walk (d : Nat) (v : Value) (t : Tr) (w : World) (hV : TrV w d v t) (hT : Tb w) : Calls Tryz.prog 4 #[v] w fun e w' => e = .returned (.bool true) ∧ Below w.heap.size w w' := by
  obtain ⟨ad, len, cap, rfl⟩ := hV.open4
  exact trims_core (d := d + 82) (by omega) (hV.more (by omega)) hT
end Go.Proofs.YtaphijgbebhdlaaGreatDoor.Grp
end
