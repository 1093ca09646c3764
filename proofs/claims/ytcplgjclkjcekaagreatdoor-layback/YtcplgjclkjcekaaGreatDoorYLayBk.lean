/- Several texts as one: LayBk. -/
import Derived.Test.YtcplgjclkjcekaaGreatDoorYLayBkS
import Derived.Test.YtcplgjclkjcekaaGreatDoorYGraphSameY
section
/- LayBack: the law's walk. -/
namespace Go.Proofs.YtcplgjclkjcekaaGreatDoor.Grp
open Utf Rws Pln Flw
open Go.RowKit
set_option linter.unusedSimpArgs false
set_option linter.unusedVariables false
set_option maxRecDepth 100000
set_option maxHeartbeats 4000000

theorem back_core {w : World} {ad : Option Addr} {len cap : Nat} {r : Int} {ns : List Nd} (hg : GrV w (gv ad len cap r) ⟨ns, r⟩) (hT : Tb w) :
    Calls Tryz.prog 3 #[gv ad len cap r] w fun e w' => e = .returned (.bool true) ∧ Below w.heap.size w w' := by
  have HA : Hid (∀ W, Below w.heap.size w W → Calls Tryz.prog 8 #[] W fun e W' => e = .returned (.bool true) ∧ Hid (Below w.heap.size w W')) := fun W b => (alive_any (hT.later b)).mono (fun e W' q => ⟨q.1, b.trans (q.2.mono b.size)⟩)
  have HL : Hid (∀ W K, Hid (AgS w W K ad len cap r ns) → Calls Tryz.prog 7 #[gv ad len cap r] W fun e W' => e = .returned (.bool (lgB ns)) ∧ Hid (AgS w W' K ad len cap r ns)) := fun W K h => (large_any h.out.g).mono (fun e W' q => ⟨q.1, h.out.later q.2⟩)
  have h0 : AgS w (w.alloc (.cells #[.slice ad len cap, .int .i64 r] 24)) w.heap.size ad len cap r ns := AgS.new (Below.refl _ _) hg
  cases hl : lgB ns
  case true =>
    rw [hl] at HL
    clear hT hl
    go_enter Tryz.func3, Tryz.ntmps3
    go_upto_region 1 with fail
    generalize w.alloc (.cells #[.slice ad len cap, .int .i64 r] 24) = W0 at h0 ⊢
    obtain ⟨K0, hK0⟩ : ∃ K0, K0 = w.heap.size := ⟨_, rfl⟩
    rw [← hK0] at h0 ⊢
    have H0 : Hid (AgS w W0 K0 ad len cap r ns) := h0
    clear hK0 h0
    obtain ⟨c0, c1⟩ := H0.out.b.c2
    go_wp2_with (first | (go_at_call 7; refine (HL.out _ _ H0).mono ?_; rintro e w1 ⟨rfl, H1⟩) | (go_at_call 8; refine (HA.out _ H1.out.bl).mono ?_; rintro e w2 ⟨rfl, H2⟩))
    go_ret
    exact ⟨rfl, H2.out⟩
  case false =>
  rw [hl] at HL
  have hS := lgB_sml hl
  have HTr : Hid (∀ W K, Hid (AgS w W K ad len cap r ns) → Calls Tryz.prog 9 #[gv ad len cap r] W fun e W' => ∃ (k : Int) (x y : ByteArray) (ra : Option Addr) (rl rc : Nat), e = .returned (.tuple #[.agg #[.int .i64 k, .string x, .string y, .slice ra rl rc], .int .i64 (lyE ⟨ns, r⟩)]) ∧ Hid (TrV W' (ns.length + 80) (.agg #[.int .i64 k, .string x, .string y, .slice ra rl rc]) (lyG ⟨ns, r⟩)) ∧ Hid (AgS w W' K ad len cap r ns)) := fun W K h => (ttree_any h.out.g hS (hT.later h.out.bl)).mono (fun e W' q => by
    obtain ⟨k, x, y, ra, rl, rc, q1, q2, q3⟩ := q
    exact ⟨k, x, y, ra, rl, rc, q1, q2.out.v.more (by show ns.length + 1 ≤ _; omega), h.out.later q3.out⟩)
  by_cases hE : lyE ⟨ns, r⟩ = 0
  · have hok := ly_ok hE (D := ns.length + 80) (by show ns.length + 1 ≤ _; omega)
    have hl4 : ns.length ≤ 4096 := (rgG_facts hok.rg).1
    have hb : brief (ns.length + 80) (lyG ⟨ns, r⟩) := ly_bri hE (Nat.le_refl _) (lgB_txt hl hl4) (by show ns.length + 1 ≤ _; omega)
    rw [hE] at HTr
    have hz : tsz (ns.length + 80) (lyG ⟨ns, r⟩) ≤ 1000000 := by have h1 := hok.tz; have h2 := hok.s4; omega
    have HCo : Hid (∀ W K k x y ra rl rc, Hid (TgS w W K k x y ra rl rc (ns.length + 80) (lyG ⟨ns, r⟩)) → Calls Tryz.prog 11 #[.agg #[.int .i64 k, .string x, .string y, .slice ra rl rc]] W fun e W' => ∃ a2 l2 c2, e = .returned (.tuple #[gv a2 l2 c2 0, .int .i64 0]) ∧ Hid (GrV W' (gv a2 l2 c2 0) ⟨cnN ns (odG ns r.toNat), 0⟩) ∧ Hid (Below W.heap.size W W')) := fun W K k x y ra rl rc h => (compose_any (bri.mono (by decide) hb) h.out.t (hT.later h.out.bl) hz).mono (fun e W' q => by
      obtain ⟨q1, q2⟩ := q
      rw [hok.ok, if_pos rfl, hok.cn] at q1
      obtain ⟨v, rfl, hv⟩ := q1
      have hv2 := hv.v
      obtain ⟨a2, l2, c2, rfl, _⟩ := hv.v
      exact ⟨a2, l2, c2, rfl, hv2, q2⟩)
    have HCa : Hid (∀ W K, Hid (AgS w W K ad len cap r ns) → Calls Tryz.prog 12 #[gv ad len cap r] W fun e W' => ∃ a2 l2 c2, e = .returned (.tuple #[gv a2 l2 c2 0, .int .i64 0]) ∧ Hid (GrV W' (gv a2 l2 c2 0) ⟨cnN ns (odG ns r.toNat), 0⟩) ∧ Hid (Below W.heap.size W W')) := fun W K h => (canon_any h.out.g hS (hT.later h.out.bl)).mono (fun e W' q => by
      obtain ⟨q1, q2⟩ := q
      rw [hok.rg, if_pos rfl] at q1
      obtain ⟨v, rfl, hv⟩ := q1
      have hv2 := hv.v
      obtain ⟨a2, l2, c2, rfl, _⟩ := hv.v
      exact ⟨a2, l2, c2, rfl, hv2, q2⟩)
    have HRi : Hid (∀ W K k x y ra rl rc, Hid (TgS w W K k x y ra rl rc (ns.length + 80) (lyG ⟨ns, r⟩)) → Calls Tryz.prog 13 #[.agg #[.int .i64 k, .string x, .string y, .slice ra rl rc]] W fun e W' => e = .returned (.bool true) ∧ Hid (Below W.heap.size W W')) := fun W K k x y ra rl rc h => (right_any hb h.out.t (hT.later h.out.bl)).mono (fun e W' q => ⟨by rw [q.1, hok.right], q.2⟩)
    have HSa : Hid (∀ W v v', GrV W v ⟨cnN ns (odG ns r.toNat), 0⟩ → GrV W v' ⟨cnN ns (odG ns r.toNat), 0⟩ → Calls Tryz.prog 14 #[v, v'] W fun e W' => e = .returned (.bool true) ∧ Hid (Below W.heap.size W W')) := fun W v v' h h' => rsame_eq h h'
    generalize cnN ns (odG ns r.toNat) = cn at *
    generalize lyG ⟨ns, r⟩ = T at *
    generalize ns.length + 80 = D at *
    clear hT hl hE hok hS hb hz hg hl4
    go_enter Tryz.func3, Tryz.ntmps3
    go_upto_region 1 with fail
    generalize w.alloc (.cells #[.slice ad len cap, .int .i64 r] 24) = W0 at h0 ⊢
    obtain ⟨K0, hK0⟩ : ∃ K0, K0 = w.heap.size := ⟨_, rfl⟩
    rw [← hK0] at h0 ⊢
    have H0 : Hid (AgS w W0 K0 ad len cap r ns) := h0
    clear hK0 h0
    obtain ⟨c0, c1⟩ := H0.out.b.c2
    go_upto_region 4 with (first | (go_at_call 7; refine (HL.out _ _ H0).mono ?_; rintro e w1 ⟨rfl, H1⟩; obtain ⟨d0, d1⟩ := H1.out.b.c2) | (go_at_call 9; refine (HTr.out _ _ H1).mono ?_; rintro e w2 ⟨k, x, y, ra, rl, rc, rfl, T2, H2⟩))
    have T3 : Hid (TgS w (w2.alloc (.cells #[.int .i64 k, .string x, .string y, .slice ra rl rc] 29)) w2.heap.size k x y ra rl rc D T) := TgS.new H2.out.bl T2.out
    have H3 : Hid (AgS w (w2.alloc (.cells #[.int .i64 k, .string x, .string y, .slice ra rl rc] 29)) K0 ad len cap r ns) := H2.out.later (below_alloc _ _)
    generalize w2.alloc (.cells #[.int .i64 k, .string x, .string y, .slice ra rl rc] 29) = w3 at T3 H3 ⊢
    generalize w2.heap.size = K3 at T3 ⊢
    clear T2 H2 H1 H0 c0 c1 d0 d1 HL HTr
    obtain ⟨e0, e1, e2, e3⟩ := T3.out.b.c4
    go_upto_region 7 with (go_at_call 11; refine (HCo.out _ _ _ _ _ _ _ _ T3).mono ?_; rintro e w4 ⟨a4, l4, c4, rfl, G4, B4⟩)
    have G5 : Hid (AgS w (w4.alloc (.cells #[.slice a4 l4 c4, .int .i64 0] 24)) w4.heap.size a4 l4 c4 0 cn) := AgS.new (T3.out.later B4.out).bl G4.out
    have T5 : Hid (TgS w (w4.alloc (.cells #[.slice a4 l4 c4, .int .i64 0] 24)) K3 k x y ra rl rc D T) := (T3.out.later B4.out).later (below_alloc _ _)
    have H5 : Hid (AgS w (w4.alloc (.cells #[.slice a4 l4 c4, .int .i64 0] 24)) K0 ad len cap r ns) := (H3.out.later B4.out).later (below_alloc _ _)
    generalize w4.alloc (.cells #[.slice a4 l4 c4, .int .i64 0] 24) = w5 at G5 T5 H5 ⊢
    generalize w4.heap.size = K5 at G5 ⊢
    clear T3 H3 B4 G4 e0 e1 e2 e3 HCo
    obtain ⟨c0, c1⟩ := H5.out.b.c2
    go_upto_region 8 with (go_at_call 12; refine (HCa.out _ _ H5).mono ?_; rintro e w6 ⟨a6, l6, c6, rfl, G6, B6⟩)
    have C7 : Hid (AgS w (w6.alloc (.cells #[.slice a6 l6 c6, .int .i64 0] 24)) w6.heap.size a6 l6 c6 0 cn) := AgS.new (T5.out.later B6.out).bl G6.out
    have G7 : Hid (AgS w (w6.alloc (.cells #[.slice a6 l6 c6, .int .i64 0] 24)) K5 a4 l4 c4 0 cn) := (G5.out.later B6.out).later (below_alloc _ _)
    have T7 : Hid (TgS w (w6.alloc (.cells #[.slice a6 l6 c6, .int .i64 0] 24)) K3 k x y ra rl rc D T) := (T5.out.later B6.out).later (below_alloc _ _)
    generalize w6.alloc (.cells #[.slice a6 l6 c6, .int .i64 0] 24) = w7 at C7 G7 T7 ⊢
    generalize w6.heap.size = K7 at C7 ⊢
    clear G5 T5 H5 B6 G6 c0 c1 HCa
    obtain ⟨e0, e1, e2, e3⟩ := T7.out.b.c4
    obtain ⟨p0, p1⟩ := G7.out.b.c2
    obtain ⟨q0, q1⟩ := C7.out.b.c2
    go_wp2_with (first | (go_at_call 13; refine (HRi.out _ _ _ _ _ _ _ _ T7).mono ?_; rintro e w8 ⟨rfl, B8⟩; have C8 : Hid (AgS w w8 K7 a6 l6 c6 0 cn) := C7.out.later B8.out; have G8 : Hid (AgS w w8 K5 a4 l4 c4 0 cn) := G7.out.later B8.out; obtain ⟨p0, p1⟩ := G8.out.b.c2; obtain ⟨q0, q1⟩ := C8.out.b.c2) | (go_at_call 14; refine (HSa.out _ _ _ G8.out.g C8.out.g).mono ?_; rintro e w9 ⟨rfl, B9⟩; have C9 : Hid (Below w.heap.size w w9) := (C8.out.later B9.out).bl) | (go_at_call 8; refine (HA.out _ C9.out).mono ?_; rintro e w10 ⟨rfl, H10⟩))
    go_ret
    exact ⟨rfl, H10.out⟩
  · have hG := lyG_no hE
    have he := lyE_ne hE
    rw [hG] at HTr
    have HSa : Hid (∀ W d k x y ra rl rc, TrV W d (.agg #[.int .i64 k, .string x, .string y, .slice ra rl rc]) tr0 → Below w.heap.size w W → Calls Tryz.prog 10 #[.agg #[.int .i64 k, .string x, .string y, .slice ra rl rc], .agg #[.int .i64 0, .string ⟨#[]⟩, .string ⟨#[]⟩, .slice none 0 0]] W fun e W' => e = .returned (.bool true) ∧ Hid (Below w.heap.size w W')) := fun W d k x y ra rl rc h hb => (rsame_is h (trv_none W 0)).mono (fun e W' q => ⟨q.1, hb.trans (q.2.mono hb.size)⟩)
    generalize lyE ⟨ns, r⟩ = Er at *
    generalize ns.length + 80 = D at *
    clear hT hl hS hg hG hE
    go_enter Tryz.func3, Tryz.ntmps3
    go_upto_region 1 with fail
    generalize w.alloc (.cells #[.slice ad len cap, .int .i64 r] 24) = W0 at h0 ⊢
    obtain ⟨K0, hK0⟩ : ∃ K0, K0 = w.heap.size := ⟨_, rfl⟩
    rw [← hK0] at h0 ⊢
    have H0 : Hid (AgS w W0 K0 ad len cap r ns) := h0
    clear hK0 h0
    obtain ⟨c0, c1⟩ := H0.out.b.c2
    go_upto_region 4 with (first | (go_at_call 7; refine (HL.out _ _ H0).mono ?_; rintro e w1 ⟨rfl, H1⟩; obtain ⟨d0, d1⟩ := H1.out.b.c2) | (go_at_call 9; refine (HTr.out _ _ H1).mono ?_; rintro e w2 ⟨k, x, y, ra, rl, rc, rfl, T2, H2⟩))
    have T3 : Hid (TgS w (w2.alloc (.cells #[.int .i64 k, .string x, .string y, .slice ra rl rc] 29)) w2.heap.size k x y ra rl rc D tr0) := TgS.new H2.out.bl T2.out
    generalize w2.alloc (.cells #[.int .i64 k, .string x, .string y, .slice ra rl rc] 29) = w3 at T3 ⊢
    generalize w2.heap.size = K3 at T3 ⊢
    clear T2 H2 H1 H0 c0 c1 d0 d1 HL HTr
    obtain ⟨e0, e1, e2, e3⟩ := T3.out.b.c4
    go_wp2_with (first | (go_at_call 10; refine (HSa.out _ _ _ _ _ _ _ _ T3.out.t T3.out.bl).mono ?_; rintro e w4 ⟨rfl, B4⟩) | (go_at_call 8; refine (HA.out _ B4.out).mono ?_; rintro e w5 ⟨rfl, H5⟩))
    go_ret
    exact ⟨rfl, H5.out⟩
theorem lback_walk (v : Value) (g : Gr) (w : World) (hg : GrV w v g) (hT : Tb w) : Calls Tryz.prog 3 #[v] w fun e w' => e = .returned (.bool true) ∧ Below w.heap.size w w' := by
  have hg2 := hg
  obtain ⟨ad, len, cap, rfl, _⟩ := hg
  exact back_core hg2 hT
end Go.Proofs.YtcplgjclkjcekaaGreatDoor.Grp
end
