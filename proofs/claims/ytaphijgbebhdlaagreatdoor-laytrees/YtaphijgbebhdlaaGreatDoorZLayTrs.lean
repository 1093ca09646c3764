/- Several texts as one: LayTrs. -/
import Derived.Test.YtaphijgbebhdlaaGreatDoorZ38FlowRsame
import Derived.Test.YtaphijgbebhdlaaGreatDoorZLayRtp
section
/- LayTrees: the law's walk. -/
namespace Go.Proofs.YtaphijgbebhdlaaGreatDoor.Grp
open Utf Rws Pln Flw
open Go.RowKit
set_option linter.unusedSimpArgs false
set_option linter.unusedVariables false
set_option maxRecDepth 100000
set_option maxHeartbeats 4000000

/-- what is not large is small enough for the document's functions -/
theorem lgB_sm14 {ns : List Nd} (h : lgB ns = false) : Sm2 ns := by
  intro hl
  unfold lgB at h
  rw [Bool.or_eq_false_iff, Bool.and_eq_false_iff, decide_eq_false_iff_not, decide_eq_false_iff_not, decide_eq_false_iff_not] at h
  have h3 : ns.length ≤ 200 := by omega
  rw [List.take_of_length_le h3] at h
  have hb : ∀ n ∈ ns, n.text.length ≤ 1200 ∧ n.kids.length ≤ 1200 := fun n hn => by
    have := sm_mem hn
    unfold szN at this
    omega
  refine ⟨fun n hn => by have := hb n hn; omega, ?_⟩
  have := sumK_sm (fun n hn => by have := (hb n hn).2; omega : ∀ n ∈ ns, n.kids.length < 2000)
  omega
def szE (q : Bool) : Int := if q = true then 0 else 1
def szN2 (q : Bool) (n : Nat) : Nat := if q = true then n else 0
theorem sz_of {w W : World} {q : Bool} {n : Nat} {e : Ending} (h : SzRes w q n e W) : e = .returned (.tuple #[.int .i64 (szN2 q n : Int), .int .i64 (szE q)]) ∧ Hid (Below w.heap.size w W) := by
  obtain ⟨h1, h2⟩ := h
  cases q
  · rw [if_neg (by decide)] at h1
    exact ⟨h1, h2⟩
  · rw [if_pos rfl] at h1
    exact ⟨h1, h2⟩
theorem trees_core {w : World} {ad : Option Addr} {len cap : Nat} {r : Int} {ns : List Nd} (hg : GrV w (gv ad len cap r) ⟨ns, r⟩) (hT : Tb w) :
    Calls Tryz.prog 3 #[gv ad len cap r] w fun e w' => e = .returned (.bool true) ∧ Below w.heap.size w w' := by
  have HA : Hid (∀ W, Below w.heap.size w W → Calls Tryz.prog 6 #[] W fun e W' => e = .returned (.bool true) ∧ Hid (Below w.heap.size w W')) := fun W b => (alive_any (hT.later b)).mono (fun e W' q => ⟨q.1, b.trans (q.2.mono b.size)⟩)
  have HL : Hid (∀ W K, Hid (AgS w W K ad len cap r ns) → Calls Tryz.prog 5 #[gv ad len cap r] W fun e W' => e = .returned (.bool (lgB ns)) ∧ Hid (AgS w W' K ad len cap r ns)) := fun W K h => (large_any h.out.g).mono (fun e W' q => ⟨q.1, h.out.later q.2⟩)
  have h0 : AgS w (w.alloc (.cells #[.slice ad len cap, .int .i64 r] 24)) w.heap.size ad len cap r ns := AgS.new (Below.refl _ _) hg
  cases hl : lgB ns
  case true =>
    rw [hl] at HL
    clear hT hl
    go_enter Tryz.func3, Tryz.ntmps3
    go_upto_region 1 with fail
    generalize w.alloc (.cells #[.slice ad len cap, .int .i64 r] 24) = W0 at h0 ⊢
    obtain ⟨K0, hK0⟩ : ∃ K0, K0 = w.heap.size := ⟨_, rfl⟩
    rw [← hK0] at h0 ⊢
    have H0 : Hid (AgS w W0 K0 ad len cap r ns) := h0
    clear hK0 h0
    obtain ⟨c0, c1⟩ := H0.out.b.c2
    go_wp2_with (first | (go_at_call 5; refine (HL.out _ _ H0).mono ?_; rintro e w1 ⟨rfl, H1⟩) | (go_at_call 6; refine (HA.out _ H1.out.bl).mono ?_; rintro e w2 ⟨rfl, H2⟩))
    go_ret
    exact ⟨rfl, H2.out⟩
  case false =>
  rw [hl] at HL
  have hS := lgB_sml hl
  have hS2 := lgB_sm14 hl
  have HTr : Hid (∀ W K, Hid (AgS w W K ad len cap r ns) → Calls Tryz.prog 7 #[gv ad len cap r] W fun e W' => ∃ (k : Int) (x y : ByteArray) (ra : Option Addr) (rl rc : Nat), e = .returned (.tuple #[.agg #[.int .i64 k, .string x, .string y, .slice ra rl rc], .int .i64 (lyE ⟨ns, r⟩)]) ∧ Hid (TrV W' (ns.length + 1) (.agg #[.int .i64 k, .string x, .string y, .slice ra rl rc]) (lyG ⟨ns, r⟩)) ∧ Hid (AgS w W' K ad len cap r ns)) := fun W K h => (ttree_any h.out.g hS (hT.later h.out.bl)).mono (fun e W' q => by
    obtain ⟨k, x, y, ra, rl, rc, q1, q2, q3⟩ := q
    exact ⟨k, x, y, ra, rl, rc, q1, q2.out.v, h.out.later q3.out⟩)
  have HRt : Hid (∀ W K, Hid (AgS w W K ad len cap r ns) → Calls Tryz.prog 8 #[gv ad len cap r] W fun e W' => ∃ (k : Int) (x y : ByteArray) (ra : Option Addr) (rl rc : Nat), e = .returned (.tuple #[.agg #[.int .i64 k, .string x, .string y, .slice ra rl rc], .int .i64 (lyE ⟨ns, r⟩)]) ∧ Hid (TrV W' (ns.length + 1) (.agg #[.int .i64 k, .string x, .string y, .slice ra rl rc]) (lyG ⟨ns, r⟩)) ∧ Hid (Below W.heap.size W W')) := fun W K h => (rtp_any h.out.g hS hS2).mono (fun e W' q => by
    obtain ⟨k, x, y, ra, rl, rc, q1, q2, q3⟩ := q
    exact ⟨k, x, y, ra, rl, rc, q1, q2.out.v, q3.out⟩)
  have HSz : Hid (∀ W K, Hid (AgS w W K ad len cap r ns) → Calls Tryz.prog 9 #[gv ad len cap r] W fun e W' => e = .returned (.tuple #[.int .i64 (szN2 (rgG ⟨ns, r⟩) (szL ns (odG ns r.toNat)) : Int), .int .i64 (szE (rgG ⟨ns, r⟩))]) ∧ Hid (Below W.heap.size W W')) := fun W K h => (size_any h.out.g hS (hT.later h.out.bl)).mono (fun e W' q => sz_of q)
  have HRs : Hid (∀ W K, Hid (AgS w W K ad len cap r ns) → Calls Tryz.prog 10 #[gv ad len cap r] W fun e W' => e = .returned (.tuple #[.int .i64 (szN2 (rgG ⟨ns, r⟩) (szL ns (odG ns r.toNat)) : Int), .int .i64 (szE (rgG ⟨ns, r⟩))]) ∧ Hid (Below W.heap.size W W')) := fun W K h => (rsize_any h.out.g hS2).mono (fun e W' q => sz_of q)
  have HSm : Hid (∀ W D v v', TrV W D v (lyG ⟨ns, r⟩) → TrV W D v' (lyG ⟨ns, r⟩) → Calls Tryz.prog 11 #[v, v'] W fun e W' => e = .returned (.bool true) ∧ Hid (Below W.heap.size W W')) := fun W D v v' h h' => rsame_is h h'
  generalize szN2 (rgG ⟨ns, r⟩) (szL ns (odG ns r.toNat)) = Z at *
  generalize szE (rgG ⟨ns, r⟩) = Ez at *
  generalize lyE ⟨ns, r⟩ = Er at *
  generalize lyG ⟨ns, r⟩ = T at *
  generalize ns.length + 1 = D at *
  clear hT hl hS hS2 hg
  go_enter Tryz.func3, Tryz.ntmps3
  go_upto_region 1 with fail
  generalize w.alloc (.cells #[.slice ad len cap, .int .i64 r] 24) = W0 at h0 ⊢
  obtain ⟨K0, hK0⟩ : ∃ K0, K0 = w.heap.size := ⟨_, rfl⟩
  rw [← hK0] at h0 ⊢
  have H0 : Hid (AgS w W0 K0 ad len cap r ns) := h0
  clear hK0 h0
  obtain ⟨c0, c1⟩ := H0.out.b.c2
  go_upto_region 4 with (first | (go_at_call 5; refine (HL.out _ _ H0).mono ?_; rintro e w1 ⟨rfl, H1⟩; obtain ⟨d0, d1⟩ := H1.out.b.c2) | (go_at_call 7; refine (HTr.out _ _ H1).mono ?_; rintro e w2 ⟨k, x, y, ra, rl, rc, rfl, T2, H2⟩))
  have T3 : Hid (TgS w (w2.alloc (.cells #[.int .i64 k, .string x, .string y, .slice ra rl rc] 29)) w2.heap.size k x y ra rl rc D T) := TgS.new H2.out.bl T2.out
  have H3 : Hid (AgS w (w2.alloc (.cells #[.int .i64 k, .string x, .string y, .slice ra rl rc] 29)) K0 ad len cap r ns) := H2.out.later (below_alloc _ _)
  generalize w2.alloc (.cells #[.int .i64 k, .string x, .string y, .slice ra rl rc] 29) = w3 at T3 H3 ⊢
  generalize w2.heap.size = K3 at T3 ⊢
  clear T2 H2 H1 H0 c0 c1 d0 d1 HL HTr
  obtain ⟨c0, c1⟩ := H3.out.b.c2
  go_upto_region 5 with (go_at_call 8; refine (HRt.out _ _ H3).mono ?_; rintro e w4 ⟨k2, x2, y2, ra2, rl2, rc2, rfl, S4, B4⟩)
  have S5 : Hid (TgS w (w4.alloc (.cells #[.int .i64 k2, .string x2, .string y2, .slice ra2 rl2 rc2] 29)) w4.heap.size k2 x2 y2 ra2 rl2 rc2 D T) := TgS.new (H3.out.later B4.out).bl S4.out
  have T5 : Hid (TgS w (w4.alloc (.cells #[.int .i64 k2, .string x2, .string y2, .slice ra2 rl2 rc2] 29)) K3 k x y ra rl rc D T) := (T3.out.later B4.out).later (below_alloc _ _)
  have H5 : Hid (AgS w (w4.alloc (.cells #[.int .i64 k2, .string x2, .string y2, .slice ra2 rl2 rc2] 29)) K0 ad len cap r ns) := (H3.out.later B4.out).later (below_alloc _ _)
  generalize w4.alloc (.cells #[.int .i64 k2, .string x2, .string y2, .slice ra2 rl2 rc2] 29) = w5 at S5 T5 H5 ⊢
  generalize w4.heap.size = K5 at S5 ⊢
  clear T3 H3 B4 S4 c0 c1 HRt
  obtain ⟨c0, c1⟩ := H5.out.b.c2
  go_upto_region 6 with (go_at_call 9; refine (HSz.out _ _ H5).mono ?_; rintro e w6 ⟨rfl, B6⟩)
  have S6 : Hid (TgS w w6 K5 k2 x2 y2 ra2 rl2 rc2 D T) := S5.out.later B6.out
  have T6 : Hid (TgS w w6 K3 k x y ra rl rc D T) := T5.out.later B6.out
  have H6 : Hid (AgS w w6 K0 ad len cap r ns) := H5.out.later B6.out
  clear S5 T5 H5 B6 c0 c1 HSz
  obtain ⟨d0, d1⟩ := H6.out.b.c2
  go_upto_region 7 with (go_at_call 10; refine (HRs.out _ _ H6).mono ?_; rintro e w7 ⟨rfl, B7⟩)
  have S7 : Hid (TgS w w7 K5 k2 x2 y2 ra2 rl2 rc2 D T) := S6.out.later B7.out
  have T7 : Hid (TgS w w7 K3 k x y ra rl rc D T) := T6.out.later B7.out
  clear S6 T6 H6 B7 d0 d1 HRs
  obtain ⟨e0, e1, e2, e3⟩ := T7.out.b.c4
  obtain ⟨s0, s1, s2, s3⟩ := S7.out.b.c4
  go_wp2_with (first | (go_at_call 11; refine (HSm.out _ _ _ _ T7.out.t S7.out.t).mono ?_; rintro e w8 ⟨rfl, B8⟩; have C8 : Hid (Below w.heap.size w w8) := (T7.out.later B8.out).bl) | (go_at_call 6; refine (HA.out _ C8.out).mono ?_; rintro e w9 ⟨rfl, H9⟩))
  go_ret
  exact ⟨rfl, H9.out⟩
theorem ltrees_walk (v : Value) (g : Gr) (w : World) (hg : GrV w v g) (hT : Tb w) : Calls Tryz.prog 3 #[v] w fun e w' => e = .returned (.bool true) ∧ Below w.heap.size w w' := by
  have hg2 := hg
  obtain ⟨ad, len, cap, rfl, _⟩ := hg
  exact trees_core hg2 hT
end Go.Proofs.YtaphijgbebhdlaaGreatDoor.Grp
end
