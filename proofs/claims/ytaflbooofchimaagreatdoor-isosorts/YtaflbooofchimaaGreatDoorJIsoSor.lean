/- Several texts as one: IsoSor. -/
import Derived.Test.YtaflbooofchimaaGreatDoorJ28IsoSh
import Derived.Test.YtaflbooofchimaaGreatDoorJIsoRSd
import Derived.Test.YtaflbooofchimaaGreatDoorJ32IsoFnd
import Derived.Test.YtaflbooofchimaaGreatDoorJGraphRsm
import Derived.Test.YtaflbooofchimaaGreatDoorJ24IsoLst
section
/- grommetlaw13.IsoSorts. -/
namespace Go.Proofs.YtaflbooofchimaaGreatDoor.Alk
open Utf Rws Pln Flw Grp
open Go.RowKit Go.Shelf
set_option linter.unusedSimpArgs false
set_option linter.unusedVariables false
set_option maxRecDepth 100000
set_option maxHeartbeats 4000000

/-- the boxes of the graph and of the node that is asked for -/
structure SqA (w W : World) (K0 K1 : Nat) (ad : Option Addr) (len cap : Nat) (r : Int) (ns : List Nd) (nk : Int) (nx : Ln) (nl : Value) : Prop where
  g : AgS w W K0 ad len cap r ns
  n : Bx W K1 #[.int .i64 nk, .string (Rws.mk nx), nl] 35
theorem SqA.later {w W W' : World} {K0 K1 : Nat} {ad : Option Addr} {len cap : Nat} {r : Int} {ns : List Nd} {nk : Int} {nx : Ln} {nl : Value} (h : SqA w W K0 K1 ad len cap r ns nk nx nl) (hb : Below W.heap.size W W') : SqA w W' K0 K1 ad len cap r ns nk nx nl := ⟨h.g.later hb, h.n.later hb⟩
theorem SqA.new {w : World} {ad : Option Addr} {len cap : Nat} {r : Int} {ns : List Nd} (hG : GrV w (gv ad len cap r) ⟨ns, r⟩) (nk : Int) (nx : Ln) (nl : Value) :
    SqA w ((w.alloc (.cells #[.slice ad len cap, .int .i64 r] 24)).alloc (.cells #[.int .i64 nk, .string (Rws.mk nx), nl] 35)) w.heap.size (w.heap.size + 1) ad len cap r ns nk nx nl := by
  have h1 : AgS w (w.alloc (.cells #[.slice ad len cap, .int .i64 r] 24)) w.heap.size ad len cap r ns := AgS.new (Below.refl _ _) hG
  have s1 : (w.alloc (.cells #[.slice ad len cap, .int .i64 r] 24)).heap.size = w.heap.size + 1 := World.size_alloc _ _
  have n2 := Bx.new (w.alloc (.cells #[.slice ad len cap, .int .i64 r] 24)) #[.int .i64 nk, .string (Rws.mk nx), nl] 35
  rw [s1] at n2
  exact ⟨h1.later (below_alloc _ _), n2⟩
/-- and those of the two graphs in order -/
structure SqB (W : World) (K7 : Nat) (sa : Option Addr) (sl sc : Nat) (SG : Gr) : Prop where
  b : Bx W K7 #[.slice sa sl sc, .int .i64 0] 24
  g : GrV W (gv sa sl sc 0) SG
theorem SqB.later {W W' : World} {K7 : Nat} {sa : Option Addr} {sl sc : Nat} {SG : Gr} (h : SqB W K7 sa sl sc SG) (hb : Below W.heap.size W W') : SqB W' K7 sa sl sc SG := ⟨h.b.later hb, h.g.later hb (Nat.le_refl _)⟩
theorem grv_zero (W : World) : GrV W (gv none 0 0 0) ⟨[], 0⟩ := ⟨none, 0, 0, rfl, Nat.le_refl _, by decide, ⟨by decide, by decide⟩, rfl, fun h => absurd h (by decide)⟩
theorem gres_so {w W : World} {ok : Bool} {G : Gr} {e : Ending} (hr : G.root = 0) (h : GRes w ok 1 G e W) : ∃ sa sl sc, e = .returned (.tuple #[gv sa sl sc 0, .int .i64 (if ok = true then 0 else 1)]) ∧ GrV W (gv sa sl sc 0) (if ok = true then G else ⟨[], 0⟩) ∧ Below w.heap.size w W := by
  obtain ⟨h1, h2⟩ := h
  cases ok
  · rw [if_neg (by decide)] at h1
    exact ⟨none, 0, 0, by rw [h1]; rfl, grv_zero W, h2⟩
  · rw [if_pos rfl] at h1
    obtain ⟨v, rfl, h3⟩ := h1
    have h4 := h3.v
    obtain ⟨sa, sl, sc, rfl, _⟩ := h4
    rw [hr] at h3 ⊢
    exact ⟨sa, sl, sc, rfl, by rw [if_pos rfl]; exact h3.v, h2⟩
theorem ores_so {w W : World} {ok : Bool} {O : List Nat} {e : Ending} (h : ORes w ok O e W) : ∃ la ll lc, e = .returned (.tuple #[.slice la ll lc, .int .i64 (if ok = true then 0 else 1)]) ∧ IAt W la ll (if ok = true then O.map (fun a : Nat => (a : Int)) else []) ∧ ll ≤ 5000 ∧ Below w.heap.size w W := by
  cases ok
  · obtain ⟨h1, h2⟩ := ores_no h
    exact ⟨none, 0, 0, by rw [h1]; rfl, ⟨rfl, fun h => absurd h (by decide)⟩, by omega, h2⟩
  · obtain ⟨ad, cap, h1, h2, h3, h4⟩ := ores_yes h
    exact ⟨ad, _, cap, h1, h2, h3, h4⟩
theorem sorts_core {w : World} {ad kad : Option Addr} {len cap klen kcap : Nat} {r a nk : Int} {nx : Ln} {ns : List Nd} (hG : GrV w (gv ad len cap r) ⟨ns, r⟩) (hT : Tb w) :
    Calls Tryz.prog 4 #[gv ad len cap r, .int .i64 a, nv nk nx kad klen kcap] w fun e w' => e = .returned (.bool true) ∧ Below w.heap.size w w' := by
  have h0 : Hid (SqA w _ w.heap.size (w.heap.size + 1) ad len cap r ns nk nx (.slice kad klen kcap)) := SqA.new hG nk nx (.slice kad klen kcap)
  obtain ⟨K1, HK1⟩ : ∃ K1, Hid (K1 = w.heap.size + 1) := ⟨_, rfl⟩
  obtain ⟨K0, HK0⟩ : ∃ K0, Hid (K0 = w.heap.size) := ⟨_, rfl⟩
  rw [← HK1.out, ← HK0.out] at h0
  have HA : Hid (∀ W, Below w.heap.size w W → Calls Tryz.prog 6 #[] W fun e W' => e = .returned (.bool true) ∧ Hid (Below w.heap.size w W')) := fun W b => (alive_any (hT.later b)).mono (fun e W' q => ⟨q.1, b.trans (q.2.mono b.size)⟩)
  have HLA : Hid (∀ W, Hid (SqA w W K0 K1 ad len cap r ns nk nx (.slice kad klen kcap)) → Calls Tryz.prog 5 #[gv ad len cap r] W fun e W' => e = .returned (.bool (lgB ns)) ∧ Hid (SqA w W' K0 K1 ad len cap r ns nk nx (.slice kad klen kcap))) := fun W h => (large_any h.out.g.g).mono (fun e W' q => ⟨q.1, h.out.later q.2⟩)
  cases hla : lgB ns
  case true =>
    rw [hla] at HLA
    clear hT hG
    go_enter Tryz.func4, Tryz.ntmps4
    go_wp2_with fail
    rw [← HK1.out, ← HK0.out]
    generalize (w.alloc (.cells #[.slice ad len cap, .int .i64 r] 24)).alloc (.cells #[.int .i64 nk, .string (mk nx), .slice kad klen kcap] 35) = W0 at h0 ⊢
    refine (HLA.out _ h0).mono ?_
    rintro e w1 ⟨rfl, H1⟩
    go_wp2_with (go_at_call 6; refine (HA.out _ H1.out.g.bl).mono ?_; rintro e w9 ⟨rfl, HZ⟩)
    go_ret
    exact ⟨rfl, HZ.out⟩
  case false =>
  rw [hla] at HLA
  have hS := lgB_sml hla
  have hM := lgB_sm2 hla
  obtain ⟨EC, HEC⟩ : ∃ EC : Int, Hid (EC = if rgG ⟨ns, r⟩ = true then 0 else 1) := ⟨_, rfl⟩
  obtain ⟨SG, HSG⟩ : ∃ SG : Gr, Hid (SG = if rgG ⟨ns, r⟩ = true then ⟨cnN (ris ns) (odG (ris ns) r.toNat), 0⟩ else ⟨[], 0⟩) := ⟨_, rfl⟩
  obtain ⟨SL, HSL⟩ : ∃ SL : List Int, Hid (SL = if rgG ⟨ns, r⟩ = true then (shO ns r.toNat (odG ns r.toNat)).map (fun a : Nat => (a : Int)) else []) := ⟨_, rfl⟩
  obtain ⟨X, HX⟩ : ∃ X, Hid (X = (fnd ns r a nk nx).getD 0) := ⟨_, rfl⟩
  obtain ⟨Y, HY⟩ : ∃ Y, Hid (Y = (fnd ns r a nk nx).isSome) := ⟨_, rfl⟩
  have H1 : Hid (∀ W, Hid (SqA w W K0 K1 ad len cap r ns nk nx (.slice kad klen kcap)) → Calls Tryz.prog 13 #[gv ad len cap r] W fun e W' => ∃ sa sl sc, e = .returned (.tuple #[gv sa sl sc 0, .int .i64 EC]) ∧ Hid (GrV W' (gv sa sl sc 0) SG ∧ Below W.heap.size W W')) := fun W h => (sorted_any h.out.g.g hS (hT.later h.out.g.bl)).mono (fun e W' q => by
    obtain ⟨sa, sl, sc, q1, q2, q3⟩ := gres_so rfl q
    rw [HEC.out, HSG.out]
    exact ⟨sa, sl, sc, q1, q2, q3⟩)
  have H2 : Hid (∀ W, Hid (SqA w W K0 K1 ad len cap r ns nk nx (.slice kad klen kcap)) → Calls Tryz.prog 14 #[gv ad len cap r] W fun e W' => ∃ sa sl sc, e = .returned (.tuple #[gv sa sl sc 0, .int .i64 EC]) ∧ Hid (GrV W' (gv sa sl sc 0) SG ∧ Below W.heap.size W W')) := fun W h => (rsrt_any h.out.g.g hM).mono (fun e W' q => by
    obtain ⟨sa, sl, sc, q1, q2, q3⟩ := gres_so rfl q
    rw [HEC.out, HSG.out]
    exact ⟨sa, sl, sc, q1, q2, q3⟩)
  have H3 : Hid (∀ W, Hid (SqA w W K0 K1 ad len cap r ns nk nx (.slice kad klen kcap)) → Calls Tryz.prog 15 #[gv ad len cap r] W fun e W' => ∃ la ll lc, e = .returned (.tuple #[.slice la ll lc, .int .i64 EC]) ∧ Hid (IAt W' la ll SL ∧ ll ≤ 5000 ∧ Below W.heap.size W W')) := fun W h => (pshared_any h.out.g.g hS (hT.later h.out.g.bl)).mono (fun e W' q => by
    obtain ⟨la, ll, lc, q1, q2, q3, q4⟩ := ores_so q
    rw [HEC.out, HSL.out]
    exact ⟨la, ll, lc, q1, q2, q3, q4⟩)
  have H4 : Hid (∀ W, Hid (SqA w W K0 K1 ad len cap r ns nk nx (.slice kad klen kcap)) → Calls Tryz.prog 16 #[gv ad len cap r] W fun e W' => ∃ la ll lc, e = .returned (.tuple #[.slice la ll lc, .int .i64 EC]) ∧ Hid (IAt W' la ll SL ∧ ll ≤ 5000 ∧ Below W.heap.size W W')) := fun W h => (rshared_any h.out.g.g hM).mono (fun e W' q => by
    obtain ⟨la, ll, lc, q1, q2, q3, q4⟩ := ores_so q
    rw [HEC.out, HSL.out]
    exact ⟨la, ll, lc, q1, q2, q3, q4⟩)
  have H5 : Hid (∀ W, Hid (SqA w W K0 K1 ad len cap r ns nk nx (.slice kad klen kcap)) → Calls Tryz.prog 17 #[gv ad len cap r, .int .i64 a, .int .i64 nk, .string (mk nx)] W fun e W' => e = .returned (.tuple #[.int .i64 X, .bool Y]) ∧ Hid (Below W.heap.size W W')) := fun W h => (find_any h.out.g.g hS (hT.later h.out.g.bl)).mono (fun e W' q => by
    rw [HX.out, HY.out]
    exact q)
  have H6 : Hid (∀ W, Hid (SqA w W K0 K1 ad len cap r ns nk nx (.slice kad klen kcap)) → Calls Tryz.prog 18 #[gv ad len cap r, .int .i64 a, .int .i64 nk, .string (mk nx)] W fun e W' => e = .returned (.tuple #[.int .i64 X, .bool Y]) ∧ Hid (Below W.heap.size W W')) := fun W h => (rfind_any h.out.g.g hM).mono (fun e W' q => by
    rw [HX.out, HY.out]
    exact q)
  have H7 : Hid (∀ W sa sl sc sa' sl' sc', GrV W (gv sa sl sc 0) SG → GrV W (gv sa' sl' sc' 0) SG → Calls Tryz.prog 19 #[gv sa sl sc 0, gv sa' sl' sc' 0] W fun e W' => e = .returned (.bool true) ∧ Hid (Below W.heap.size W W')) := fun W sa sl sc sa' sl' sc' h h' => (rsame_any h h').mono (fun e W' q => by
    obtain ⟨q, q1, q2, q3⟩ := q
    have : q = true := q2.2 rfl
    subst this
    exact ⟨q1, q3⟩)
  have H8 : Hid (∀ W la ll lc la' ll' lc', IAt W la ll SL → IAt W la' ll' SL → ll ≤ 5000 → ll' ≤ 5000 → Calls Tryz.prog 20 #[.slice la ll lc, .slice la' ll' lc'] W fun e W' => e = .returned (.bool true) ∧ Hid (Below W.heap.size W W')) := fun W la ll lc la' ll' lc' h h' h2 h2' => (ints_any h h' (by omega) (by omega)).mono (fun e W' q => by
    have : eqI SL SL = true := by unfold eqI; exact decide_eq_true rfl
    rw [this] at q
    exact q)
  clear hT hG hS hM HEC HSG HSL HX HY
  go_enter Tryz.func4, Tryz.ntmps4
  go_wp2_with fail
  rw [← HK1.out, ← HK0.out]
  generalize (w.alloc (.cells #[.slice ad len cap, .int .i64 r] 24)).alloc (.cells #[.int .i64 nk, .string (mk nx), .slice kad klen kcap] 35) = W0 at h0 ⊢
  refine (HLA.out _ h0).mono ?_
  rintro e w1 ⟨rfl, J1⟩
  clear h0 HLA
  obtain ⟨c0, c1⟩ := J1.out.g.b.c2
  go_upto_region 4 with (go_at_call 13; refine (H1.out _ J1).mono ?_; rintro e w2 ⟨sa, sl, sc, rfl, B2⟩)
  have J2 : Hid (SqA w (w2.alloc (.cells #[.slice sa sl sc, .int .i64 0] 24)) K0 K1 ad len cap r ns nk nx (.slice kad klen kcap) ∧ SqB (w2.alloc (.cells #[.slice sa sl sc, .int .i64 0] 24)) w2.heap.size sa sl sc SG) := ⟨(J1.out.later B2.out.2).later (below_alloc _ _), Bx.new _ _ _, B2.out.1.later (below_alloc _ _) (Nat.le_refl _)⟩
  clear c0 c1 J1 B2 H1
  generalize w2.alloc (.cells #[.slice sa sl sc, .int .i64 0] 24) = W2 at J2 ⊢
  generalize w2.heap.size = K7 at J2 ⊢
  obtain ⟨c0, c1⟩ := J2.out.1.g.b.c2
  go_upto_region 5 with (go_at_call 14; refine (H2.out _ J2.out.1).mono ?_; rintro e w3 ⟨sa', sl', sc', rfl, B3⟩)
  have J3 : Hid (SqA w (w3.alloc (.cells #[.slice sa' sl' sc', .int .i64 0] 24)) K0 K1 ad len cap r ns nk nx (.slice kad klen kcap) ∧ SqB (w3.alloc (.cells #[.slice sa' sl' sc', .int .i64 0] 24)) K7 sa sl sc SG ∧ SqB (w3.alloc (.cells #[.slice sa' sl' sc', .int .i64 0] 24)) w3.heap.size sa' sl' sc' SG) := ⟨(J2.out.1.later B3.out.2).later (below_alloc _ _), (J2.out.2.later B3.out.2).later (below_alloc _ _), Bx.new _ _ _, B3.out.1.later (below_alloc _ _) (Nat.le_refl _)⟩
  clear c0 c1 J2 B3 H2
  generalize w3.alloc (.cells #[.slice sa' sl' sc', .int .i64 0] 24) = W3 at J3 ⊢
  generalize w3.heap.size = K9 at J3 ⊢
  obtain ⟨c0, c1⟩ := J3.out.1.g.b.c2
  go_upto_region 6 with (go_at_call 15; refine (H3.out _ J3.out.1).mono ?_; rintro e w4 ⟨la, ll, lc, rfl, B4⟩)
  have J4 : Hid ((SqA w w4 K0 K1 ad len cap r ns nk nx (.slice kad klen kcap) ∧ SqB w4 K7 sa sl sc SG ∧ SqB w4 K9 sa' sl' sc' SG) ∧ IAt w4 la ll SL ∧ ll ≤ 5000) := ⟨⟨J3.out.1.later B4.out.2.2, J3.out.2.1.later B4.out.2.2, J3.out.2.2.later B4.out.2.2⟩, B4.out.1, B4.out.2.1⟩
  clear c0 c1 J3 B4 H3
  obtain ⟨c0, c1⟩ := J4.out.1.1.g.b.c2
  go_upto_region 7 with (go_at_call 16; refine (H4.out _ J4.out.1.1).mono ?_; rintro e w5 ⟨la', ll', lc', rfl, B5⟩)
  have J5 : Hid ((SqA w w5 K0 K1 ad len cap r ns nk nx (.slice kad klen kcap) ∧ SqB w5 K7 sa sl sc SG ∧ SqB w5 K9 sa' sl' sc' SG) ∧ (IAt w5 la ll SL ∧ ll ≤ 5000) ∧ IAt w5 la' ll' SL ∧ ll' ≤ 5000) := ⟨⟨J4.out.1.1.later B5.out.2.2, J4.out.1.2.1.later B5.out.2.2, J4.out.1.2.2.later B5.out.2.2⟩, ⟨J4.out.2.1.later B5.out.2.2 (Nat.le_refl _), J4.out.2.2⟩, B5.out.1, B5.out.2.1⟩
  clear c0 c1 J4 B5 H4
  obtain ⟨c0, c1⟩ := J5.out.1.1.g.b.c2
  obtain ⟨d0, d1, d2⟩ := J5.out.1.1.n.c3
  go_upto_region 8 with (go_at_call 17; refine (H5.out _ J5.out.1.1).mono ?_; rintro e w6 ⟨rfl, B6⟩)
  have J6 : Hid ((SqA w w6 K0 K1 ad len cap r ns nk nx (.slice kad klen kcap) ∧ SqB w6 K7 sa sl sc SG ∧ SqB w6 K9 sa' sl' sc' SG) ∧ (IAt w6 la ll SL ∧ ll ≤ 5000) ∧ IAt w6 la' ll' SL ∧ ll' ≤ 5000) := ⟨⟨J5.out.1.1.later B6.out, J5.out.1.2.1.later B6.out, J5.out.1.2.2.later B6.out⟩, ⟨J5.out.2.1.1.later B6.out (Nat.le_refl _), J5.out.2.1.2⟩, J5.out.2.2.1.later B6.out (Nat.le_refl _), J5.out.2.2.2⟩
  clear c0 c1 d0 d1 d2 J5 B6 H5
  obtain ⟨c0, c1⟩ := J6.out.1.1.g.b.c2
  obtain ⟨d0, d1, d2⟩ := J6.out.1.1.n.c3
  go_upto_region 9 with (go_at_call 18; refine (H6.out _ J6.out.1.1).mono ?_; rintro e w7 ⟨rfl, B7⟩)
  have J7 : Hid ((SqA w w7 K0 K1 ad len cap r ns nk nx (.slice kad klen kcap) ∧ SqB w7 K7 sa sl sc SG ∧ SqB w7 K9 sa' sl' sc' SG) ∧ (IAt w7 la ll SL ∧ ll ≤ 5000) ∧ IAt w7 la' ll' SL ∧ ll' ≤ 5000) := ⟨⟨J6.out.1.1.later B7.out, J6.out.1.2.1.later B7.out, J6.out.1.2.2.later B7.out⟩, ⟨J6.out.2.1.1.later B7.out (Nat.le_refl _), J6.out.2.1.2⟩, J6.out.2.2.1.later B7.out (Nat.le_refl _), J6.out.2.2.2⟩
  clear c0 c1 d0 d1 d2 J6 B7 H6
  obtain ⟨a0, a1⟩ := J7.out.1.2.1.b.c2
  obtain ⟨b0, b1⟩ := J7.out.1.2.2.b.c2
  go_wp2_with (first
    | (go_at_call 19; refine (H7.out _ _ _ _ _ _ _ J7.out.1.2.1.g J7.out.1.2.2.g).mono ?_; rintro e w8 ⟨rfl, B8⟩)
    | (go_at_call 20; refine (H8.out _ _ _ _ _ _ _ (J7.out.2.1.1.later B8.out (Nat.le_refl _)) (J7.out.2.2.1.later B8.out (Nat.le_refl _)) J7.out.2.1.2 J7.out.2.2.2).mono ?_; rintro e w9 ⟨rfl, B9⟩)
    | (go_at_call 6; refine (HA.out _ ((J7.out.1.1.later B8.out).later B9.out).g.bl).mono ?_; rintro e w10 ⟨rfl, HZ⟩))
  go_ret
  exact ⟨by simp, HZ.out⟩
theorem sorts_walk (v : Value) (g : Gr) (a : Int) (u : Value) (n : Nd) (w : World) (hg : GrV w v g) (ha : (Lit.int .i64 a).wf = true) (hn : NdV w u n) (hT : Tb w) : Calls Tryz.prog 4 #[v, .int .i64 a, u] w fun e w' => e = .returned (.bool true) ∧ Below w.heap.size w w' := by
  have hg' := hg
  have hn' := hn
  obtain ⟨ad, len, cap, rfl, _⟩ := hg'
  obtain ⟨kad, klen, kcap, rfl, _⟩ := hn'
  exact sorts_core hg hT
end Go.Proofs.YtaflbooofchimaaGreatDoor.Alk
end
