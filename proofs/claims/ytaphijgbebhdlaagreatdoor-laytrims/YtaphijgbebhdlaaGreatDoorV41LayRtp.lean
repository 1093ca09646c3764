/- Several texts as one: LayRtp. -/
import Derived.Test.YtaphijgbebhdlaaGreatDoorV31LayRt
import Derived.Test.YtaphijgbebhdlaaGreatDoorV39GraphRodI
import Derived.Test.YtaphijgbebhdlaaGreatDoorV23LayLd
import Derived.Test.YtaphijgbebhdlaaGreatDoorV40GraphRcnS
section
/- The document's Tree, by its contract. -/
namespace Go.Proofs.YtaphijgbebhdlaaGreatDoor.Grp
open Utf Rws Pln Flw
open Go.RowKit
set_option linter.unusedSimpArgs false
set_option linter.unusedVariables false
set_option maxRecDepth 100000
set_option maxHeartbeats 16000000

structure R14E where
  CC : Nat
  K : Nat
  W : World
def r14Dp : List (List Nat) := [[], [], [], [2], [3], [4], [0, 1, 5], [], [6, 7]]
theorem TlS.set {w W : World} {K0 KR k : Nat} {g0 g1 : Value} (h : TlS w W K0 KR g0 g1) (h0 : K0 < k) (h1 : KR < k) (h2 : w.heap.size ≤ k) (i : Nat) (v : Value) : TlS w (W.setCell ⟨k, i, none⟩ v) K0 KR g0 g1 :=
  ⟨h.g.other (by omega) _ _, h.r.other (by omega) _ _, h.bl.setCell (p := ⟨k, i, none⟩) h2 _⟩
/-- what lies there while the layer is made -/
structure RpB (w w2 W : World) (K0 KR : Nat) (g0 g1 : Value) (sa : Option Addr) (S : List Nat) : Prop where
  t : TlS w W K0 KR g0 g1
  sh : ∀ j, j < S.length → ∃ ob ooff, sa = some ⟨ob, ooff, none⟩ ∧ ob < w2.heap.size ∧ W.cell? ⟨ob, ooff + j, none⟩ = some (.int .i64 ((S.getD j 0 : Nat) : Int))
  sz : w2.heap.size ≤ W.heap.size
  k0 : K0 < w2.heap.size
  k1 : KR < w2.heap.size
  k2 : w.heap.size ≤ w2.heap.size
theorem RpB.later {w w2 W W' : World} {K0 KR : Nat} {g0 g1 : Value} {sa : Option Addr} {S : List Nat} (h : RpB w w2 W K0 KR g0 g1 sa S) (hb : Below W.heap.size W W') : RpB w w2 W' K0 KR g0 g1 sa S :=
  ⟨h.t.later hb, fun j hj => by
    obtain ⟨ob, ooff, e, h3, h4⟩ := h.sh j hj
    exact ⟨ob, ooff, e, h3, (cell_heap (p := ⟨ob, ooff + j, none⟩) (hb.block ob (Nat.lt_of_lt_of_le h3 h.sz))).trans h4⟩, Nat.le_trans h.sz hb.size, h.k0, h.k1, h.k2⟩
theorem RpB.set {w w2 W : World} {K0 KR k : Nat} {g0 g1 : Value} {sa : Option Addr} {S : List Nat} (h : RpB w w2 W K0 KR g0 g1 sa S) (hk : w2.heap.size ≤ k) (i : Nat) (v : Value) : RpB w w2 (W.setCell ⟨k, i, none⟩ v) K0 KR g0 g1 sa S :=
  ⟨h.t.set (Nat.lt_of_lt_of_le h.k0 hk) (Nat.lt_of_lt_of_le h.k1 hk) (Nat.le_trans h.k2 hk) i v, fun j hj => by
    obtain ⟨ob, ooff, e, h3, h4⟩ := h.sh j hj
    exact ⟨ob, ooff, e, h3, (cell_heap (p := ⟨ob, ooff + j, none⟩) (Below.heap_setCell _ _ _ _ (fun e => by simp only at e; omega))).trans h4⟩, by rw [World.size_setCell]; exact h.sz, h.k0, h.k1, h.k2⟩
theorem TlS.ex2 {w W W' : World} {K0 KR c1 c2 : Nat} {g0 g1 : Value} (h : TlS w W K0 KR g0 g1) (hx : Ex2 c1 c2 W W') (hb : Below w.heap.size w W') (h0 : K0 ≠ c1 ∧ K0 ≠ c2) (h1 : KR ≠ c1 ∧ KR ≠ c2) : TlS w W' K0 KR g0 g1 :=
  ⟨(hx.block K0 h.g.lt h0.1 h0.2).trans h.g, (hx.block KR h.r.lt h1.1 h1.2).trans h.r, hb⟩
theorem iat_sh {W : World} {sa : Option Addr} {S : List Nat} (h : IAt W sa S.length (S.map fun a : Nat => (a : Int))) : ∀ j, j < S.length → ∃ ob ooff, sa = some ⟨ob, ooff, none⟩ ∧ ob < W.heap.size ∧ W.cell? ⟨ob, ooff + j, none⟩ = some (.int .i64 ((S.getD j 0 : Nat) : Int)) := fun j hj => by
  obtain ⟨ob, ooff, e, hob, hoc⟩ := h.2 (by omega)
  have x0 := (hoc j hj).2
  have hoj : (S.map fun a : Nat => (a : Int)).getD j 0 = ((S.getD j 0 : Nat) : Int) := by
    rw [List.getD_eq_getElem?_getD, List.getElem?_map, List.getD_eq_getElem?_getD, List.getElem?_eq_getElem hj]; rfl
  rw [hoj] at x0
  exact ⟨ob, ooff, e, hob, x0⟩
theorem rtp_core {w : World} {ad : Option Addr} {len cap : Nat} {r : Int} {ns : List Nd} (hlen : len ≤ 9223372036854775807) (hN : NAt w ad len ns) (hS : Sml ns) (hS2 : Sm2 ns) :
    Calls Tryz.prog 8 #[gv ad len cap r] w (LTRes w (len + 1) (lyE ⟨ns, r⟩) (lyG ⟨ns, r⟩)) := by
  have h0 := TlS.new w (.slice ad len cap) (.int .i64 r)
  have HSz0 : ∀ W, TlS w W w.heap.size (w.heap.size + 1) (.slice ad len cap) (.int .i64 r) → Calls Tryz.prog 10 #[gv ad len cap r] W (SzRes W (rgG ⟨ns, r⟩) (szL ns (odG ns r.toNat))) := fun W h => rsize_core hlen (hN.later h.bl (Nat.le_refl _)) hS2
  obtain ⟨KR, hKR⟩ : ∃ KR, KR = w.heap.size + 1 := ⟨_, rfl⟩
  have hwK : w.heap.size ≤ KR := by omega
  rw [← hKR] at h0 HSz0
  have HKR : Hid (w.heap.size + 1 = KR) := hKR.symm
  obtain ⟨K0, hK0⟩ : ∃ K0, K0 = w.heap.size := ⟨_, rfl⟩
  have HK0 : Hid (w.heap.size = K0) := hK0.symm
  have hK0R : K0 < KR := by omega
  rw [← hK0] at h0 HSz0
  clear hK0 hKR
  cases hq : rgG ⟨ns, r⟩
  case false =>
    have HE : Hid (lyE ⟨ns, r⟩ = 1) := by show _ = _; unfold lyE; rw [if_pos hq]
    have HG : Hid (lyG ⟨ns, r⟩ = tr0) := by show _ = _; unfold lyG; rw [HE.out]; rfl
    rw [HE.out, HG.out]
    have HSz : Hid (∀ W, Hid (TlS w W K0 KR (.slice ad len cap) (.int .i64 r)) → Calls Tryz.prog 10 #[gv ad len cap r] W fun e W' => e = .returned (.tuple #[.int .i64 0, .int .i64 1]) ∧ Hid (TlS w W' K0 KR (.slice ad len cap) (.int .i64 r))) := fun W h => (HSz0 W h.out).mono (fun e W' q => by
      obtain ⟨q1, q2⟩ := q
      rw [hq, if_neg (by decide)] at q1
      exact ⟨q1, h.out.later q2⟩)
    clear HSz0 hN hS hS2 hq HE HG
    go_enter Tryz.func8, Tryz.ntmps8
    go_upto_region 1 with fail
    try rw [HKR.out]
    try rw [HK0.out]
    generalize (w.alloc (.cells #[.slice ad len cap, .int .i64 r] 24)).alloc (.cells #[.int .i64 0, .string ⟨#[]⟩, .string ⟨#[]⟩, .slice none 0 0] 29) = W0 at h0 ⊢
    have H0 : Hid (TlS w W0 K0 KR (.slice ad len cap) (.int .i64 r)) := h0
    clear h0
    obtain ⟨c0, c1⟩ := H0.out.g.c2
    go_upto_region 3 with (go_at_call 10; refine (HSz.out _ H0).mono ?_; rintro e w1 ⟨rfl, H1⟩)
    clear H0 c0 c1 HSz
    have HT1 : TrP (KR + 1) w1 (len + 1) (.agg #[.int .i64 0, .string ⟨#[]⟩, .string ⟨#[]⟩, .slice none 0 0]) tr0 := trp_none _ _ _
    obtain ⟨n9, t9, b9⟩ := H1.out.store hwK HT1
    have HN9 : Hid (Bx _ KR _ _) := n9
    have HT9 : Hid (TrP w.heap.size _ _ _ _) := t9
    have HB9 : Hid (Below w.heap.size w _) := b9
    clear n9 t9 b9 HT1
    obtain ⟨r0, r1, r2, r3⟩ := (show Bx w1 KR #[.int .i64 0, .string ⟨#[]⟩, .string ⟨#[]⟩, .slice none 0 0] 29 from H1.out.r).c4
    have z0 := H1.out.r.fz 0
    have z1 := H1.out.r.fz 1
    have z2 := H1.out.r.fz 2
    have z3 := H1.out.r.fz 3
    clear H1
    go_wp2_with fail
    generalize (((w1.setCell ⟨KR, 0, none⟩ (.int .i64 0)).setCell ⟨KR, 1, none⟩ (.string ⟨#[]⟩)).setCell ⟨KR, 2, none⟩ (.string ⟨#[]⟩)).setCell ⟨KR, 3, none⟩ (.slice none 0 0) = W9 at HN9 HT9 HB9 ⊢
    obtain ⟨g0, g1, g2, g3⟩ := HN9.out.c4
    refine bodyPost_ret (v := .tuple #[.agg #[.int .i64 0, .string ⟨#[]⟩, .string ⟨#[]⟩, .slice none 0 0], .int .i64 1]) (by simp [results, Tryz.results8, go_sem, g0, g1, g2, g3]) rfl ?_
    exact ⟨0, ⟨#[]⟩, ⟨#[]⟩, none, 0, 0, rfl, HT9, HB9⟩
  case true =>
  obtain ⟨f1, f2, f3⟩ := rgG_facts hq
  have HLn : Hid (len = ns.length) := hN.1
  have hl4 : len ≤ 4096 := by have := HLn.out; omega
  obtain ⟨m, hm0, hm⟩ := isP_nat f2
  subst hm0
  rw [Int.toNat_natCast] at HSz0
  have hml : m < len := by rw [HLn.out]; exact hm
  obtain ⟨b, off, rfl, HCN⟩ := cn_of hN (by omega) (hS (by have := HLn.out; omega)).2
  have HSz : Hid (∀ W, Hid (TlS w W K0 KR (.slice (some ⟨b, off, none⟩) len cap) (.int .i64 (m : Int))) → Calls Tryz.prog 10 #[gv (some ⟨b, off, none⟩) len cap (m : Int)] W fun e W' => e = .returned (.tuple #[.int .i64 ((szG ns m : Nat) : Int), .int .i64 0]) ∧ Hid (TlS w W' K0 KR (.slice (some ⟨b, off, none⟩) len cap) (.int .i64 (m : Int)))) := fun W h => (HSz0 W h.out).mono (fun e W' q => by
    obtain ⟨q1, q2⟩ := q
    rw [hq, if_pos rfl] at q1
    exact ⟨q1, h.out.later q2⟩)
  have HSh : Hid (∀ W, Hid (TlS w W K0 KR (.slice (some ⟨b, off, none⟩) len cap) (.int .i64 (m : Int))) → Calls Tryz.prog 18 #[gv (some ⟨b, off, none⟩) len cap (m : Int)] W fun e W' => ∃ sa sc, e = .returned (.tuple #[.slice sa (shL ns m).length sc, .int .i64 0]) ∧ Hid (IAt W' sa (shL ns m).length ((shL ns m).map fun a : Nat => (a : Int)) ∧ (shL ns m).length ≤ 5000 ∧ TlS w W' K0 KR (.slice (some ⟨b, off, none⟩) len cap) (.int .i64 (m : Int)))) := fun W h => (Alk.rshared_core (by omega) (hN.later h.out.bl (Nat.le_refl _)) hS2).mono (fun e W' q => by
    rw [hq, Int.toNat_natCast, shO_shL] at q
    obtain ⟨sa, sc, q1, q2, q3, q4⟩ := ores_yesS q
    exact ⟨sa, sc, q1, q2, q3, h.out.later q4⟩)
  have hO : (odG ns m).length ≤ 1000000000 := by
    have h1 := len_le (odG_nd ns m) (odG_lt f3 hm)
    have := HLn.out
    omega
  have HRt : Hid (∀ (K CC : Nat) (sad : Option Addr) (scap : Nat) (W : World), (shL ns m).length ≤ 5000 → RlS w W K CC (.slice (some ⟨b, off, none⟩) len cap) (.int .i64 (m : Int)) sad scap (shL ns m) len [] false → Calls Tryz.prog 19 #[.pointer (some ⟨K, 0, none⟩), .int .i64 (m : Int), .int .i64 0] W (fun e W' => ∃ (k : Int) (x y : ByteArray) (ad : Option Addr) (l c : Nat) (out : List Nat), e = .returned (.agg #[.int .i64 k, .string x, .string y, .slice ad l c]) ∧ Hid (TrP W.heap.size W' (len + 1) (.agg #[.int .i64 k, .string x, .string y, .slice ad l c]) (lyT ns (nmG ns m) (len + 1) m []).1) ∧ Hid (RlS w W' K CC (.slice (some ⟨b, off, none⟩) len cap) (.int .i64 (m : Int)) sad scap (shL ns m) len out (decide (64 < dpL ns m))) ∧ Hid (Ex2 K CC W W'))) := fun K CC sad scap W hSl h => by
    have h1 := rtree_any K CC hl4 (by omega) (fun a => nmG_len ns m a hO) HCN (by rw [HLn.out]; exact f3) HLn.out (len + 1) m 0 [] false W ⟨List.nodup_nil, fun b hb => by cases hb⟩ hml (by simp) (by omega) h
    have h2 : (fg ns (len + 1) m 0 ([], false)).2 = decide (64 < dpL ns m) := by
      have h3 := fg_dg (rg_lists hq).1 (rg_lists hq).2 (len + 1) m 0 [] 0 (Nat.le_refl _)
      rw [show decide (64 < 0) = false from rfl] at h3
      rw [h3]
      show decide _ = decide _
      rw [HLn.out]
      rfl
    rw [h2] at h1
    refine h1.mono ?_
    rintro e W' ⟨k, x, y, ad, l, c, q1, q2, q3, q4⟩
    exact ⟨k, x, y, ad, l, c, _, q1, q2, q3, q4⟩
  have HEr : Hid (lyE ⟨ns, (m : Int)⟩ = if 64 < dpL ns m then 10 else if 4096 < szG ns m then 5 else 0) := by show _ = _; unfold lyE; rw [if_neg (by rw [hq]; decide)]; rfl
  have HGr : Hid (lyE ⟨ns, (m : Int)⟩ = 0 → lyG ⟨ns, (m : Int)⟩ = (lyT ns (nmG ns m) (len + 1) m []).1) := fun h => by unfold lyG; rw [if_pos h, HLn.out]; rfl
  have HGn : Hid (lyE ⟨ns, (m : Int)⟩ ≠ 0 → lyG ⟨ns, (m : Int)⟩ = tr0) := fun h => by unfold lyG; rw [if_neg h]
  generalize lyE ⟨ns, (m : Int)⟩ = ER at HEr HGr HGn ⊢
  generalize lyG ⟨ns, (m : Int)⟩ = GR at HGr HGn ⊢
  generalize (lyT ns (nmG ns m) (len + 1) m []).1 = T at HRt HGr
  generalize dpL ns m = D at HRt HEr
  generalize szG ns m = Z at HSz HEr
  generalize shL ns m = S at HSh HRt
  clear HSz0 hN hS hS2 hq HCN f1 f2 f3 hm hO
  have hmk := fun w' : World => run_make_row' (P := Tryz.prog) 54 4 (.bool false) 1 underBoolD infoBoolD rfl .i64 .i64 len (by omega) (by omega) w'
  go_enter Tryz.func8, Tryz.ntmps8
  go_upto_region 1 with fail
  try rw [HKR.out]
  try rw [HK0.out]
  generalize (w.alloc (.cells #[.slice (some ⟨b, off, none⟩) len cap, .int .i64 (m : Int)] 24)).alloc (.cells #[.int .i64 0, .string ⟨#[]⟩, .string ⟨#[]⟩, .slice none 0 0] 29) = W0 at h0 ⊢
  have H0 : Hid (TlS w W0 K0 KR (.slice (some ⟨b, off, none⟩) len cap) (.int .i64 (m : Int))) := h0
  clear h0
  obtain ⟨c0, c1⟩ := H0.out.g.c2
  go_upto_region 5 with (first | (go_at_call 10; refine (HSz.out _ H0).mono ?_; rintro e w1 ⟨rfl, H1⟩; obtain ⟨d0, d1⟩ := H1.out.g.c2) | (go_at_call 18; refine (HSh.out _ H1).mono ?_; rintro e w2 ⟨sa, sc, rfl, H2⟩))
  clear H0 c0 c1 HSz HSh H1 d0 d1
  -- REGION5
  have hmix : Tryz.prog.follows .mixedOrders = true := by kernel_rfl
  have hSl : S.length ≤ 5000 := H2.out.2.1
  have hw2 : w.heap.size ≤ w2.heap.size := H2.out.2.2.bl.size
  have jb0 : Hid (RpB w w2 w2.drew K0 KR (.slice (some ⟨b, off, none⟩) len cap) (.int .i64 (m : Int)) sa S) := (⟨H2.out.2.2, iat_sh H2.out.1, Nat.le_refl _, H2.out.2.2.g.lt, H2.out.2.2.r.lt, hw2⟩ : RpB w w2 w2 K0 KR _ _ sa S).later (Below.refl _ w2).drew
  clear H2
  refine wp_region_E hmix (N := 9) (dp := r14Dp) (by kernel_rfl) (E := R14E) (fun (e : R14E) (s : List Bool) => Hid (RpB w w2 e.W K0 KR (.slice (some ⟨b, off, none⟩) len cap) (.int .i64 (m : Int)) sa S) ∧ (s.getD 5 false = true → Hid (w2.heap.size ≤ e.CC ∧ Bx e.W e.CC (bM [] len) 4)) ∧ (s.getD 7 false = true → Hid (w2.heap.size ≤ e.K ∧ (s.getD 8 false = false → Bx e.W e.K #[.slice none 0 0, .int .i64 0, .slice none 0 0, .slice none 0 0, .bool false] 56) ∧ (s.getD 8 false = true → Bx e.W e.K #[.slice (some ⟨b, off, none⟩) len cap, .int .i64 (m : Int), .slice sa S.length sc, .slice (some ⟨e.CC, 0, none⟩) len len, .bool false] 56))) ∧ (s.getD 5 false = true → s.getD 7 false = true → e.CC ≠ e.K) ∧ clo r14Dp s) (fun (e : R14E) (s : List Bool) => { tmps := #[gv (some ⟨b, off, none⟩) len cap (m : Int), .pointer (some ⟨K0, 0, none⟩), .pointer (some ⟨KR, 0, none⟩), .int .i64 0, .int .i64 (Z : Int), .int .i64 0, .slice sa S.length sc, .int .i64 0, slu (s.getD 7 false) (.pointer (some ⟨e.K, 0, none⟩)) undef, undef, .tuple #[.int .i64 (Z : Int), .int .i64 0], .agg #[.slice (some ⟨b, off, none⟩) len cap, .int .i64 (m : Int)], .tuple #[.int .i64 (Z : Int), .int .i64 0], .int .i64 (Z : Int), .int .i64 0, .int .i64 0, .bool false, undef, undef, .tuple #[.slice sa S.length sc, .int .i64 0], .agg #[.slice (some ⟨b, off, none⟩) len cap, .int .i64 (m : Int)], .tuple #[.slice sa S.length sc, .int .i64 0], .slice sa S.length sc, .int .i64 0, slu (s.getD 0 false) (.agg #[.slice (some ⟨b, off, none⟩) len cap, .int .i64 (m : Int)]) undef, slu (s.getD 1 false) (.slice sa S.length sc) undef, slu (s.getD 2 false) (.pointer (some ⟨K0, 0, none⟩)) undef, slu (s.getD 3 false) (.slice (some ⟨b, off, none⟩) len cap) undef, slu (s.getD 4 false) (.int .i64 (len : Int)) undef, slu (s.getD 5 false) (.slice (some ⟨e.CC, 0, none⟩) len len) undef, slu (s.getD 6 false) (.agg #[.slice (some ⟨b, off, none⟩) len cap, .int .i64 (m : Int), .slice sa S.length sc, .slice (some ⟨e.CC, 0, none⟩) len len, .bool false]) undef, undef, undef, undef, undef, undef, undef, undef, undef, undef, undef, undef, undef], defers := [] }) (fun (e : R14E) (s : List Bool) => e.W) ?hS ?hF ⟨0, 0, w2.drew⟩ ⟨jb0, fun h => absurd h (by decide), fun h => absurd h (by decide), fun h => absurd h (by decide), clo_nil _ _⟩ rfl rfl
  case hS =>
    rintro e s hJ hl i hi' hbi hd Kk hK
    have hcl := clo_set hJ.2.2.2.2 (i := i) (by rw [hl]; exact hi') hd
    match s, hl with
    | [b0, b1, b2, b3, b4, b5, b6, b7, b8], _ =>
      obtain ⟨JB, J5, J7, JN, JC⟩ := hJ
      simp only [List.getD_cons_zero, List.getD_cons_succ] at J5 J7 JN ⊢
      have hi2 : i = 0 ∨ i = 1 ∨ i = 2 ∨ i = 3 ∨ i = 4 ∨ i = 5 ∨ i = 6 ∨ i = 7 ∨ i = 8 := by omega
      rcases hi2 with rfl | rfl | rfl | rfl | rfl | rfl | rfl | rfl | rfl
      · have g0 : b0 = false := hbi
        subst g0
        obtain ⟨y0, y1⟩ := JB.out.t.g.c2
        have hK2 := hK e ⟨JB, J5, J7, JN, hcl⟩
        clear hK hd hbi hcl JB J5 J7 JN JC
        simp only [List.set_cons_zero, List.set_cons_succ, List.getD_cons_zero, List.getD_cons_succ, slu_t, slu_f] at hK2 ⊢
        refine wpOp_if rfl ?_
        go_simp
        exact hK2
      · have g1 : b1 = false := hbi
        subst g1
        obtain ⟨y0, y1⟩ := JB.out.t.g.c2
        have hK2 := hK e ⟨JB, J5, J7, JN, hcl⟩
        clear hK hd hbi hcl JB J5 J7 JN JC
        simp only [List.set_cons_zero, List.set_cons_succ, List.getD_cons_zero, List.getD_cons_succ, slu_t, slu_f] at hK2 ⊢
        refine wpOp_if rfl ?_
        go_simp
        exact hK2
      · have g2 : b2 = false := hbi
        subst g2
        obtain ⟨y0, y1⟩ := JB.out.t.g.c2
        have hK2 := hK e ⟨JB, J5, J7, JN, hcl⟩
        clear hK hd hbi hcl JB J5 J7 JN JC
        simp only [List.set_cons_zero, List.set_cons_succ, List.getD_cons_zero, List.getD_cons_succ, slu_t, slu_f] at hK2 ⊢
        refine wpOp_if rfl ?_
        go_simp
        exact hK2
      · have g3 : b3 = false := hbi
        have e2 : b2 = true := hd 2 (by simp [r14Dp])
        subst g3 e2
        obtain ⟨y0, y1⟩ := JB.out.t.g.c2
        have hK2 := hK e ⟨JB, J5, J7, JN, hcl⟩
        clear hK hd hbi hcl JB J5 J7 JN JC
        simp only [List.set_cons_zero, List.set_cons_succ, List.getD_cons_zero, List.getD_cons_succ, slu_t, slu_f] at hK2 ⊢
        refine wpOp_if rfl ?_
        go_simp
        exact hK2
      · have g4 : b4 = false := hbi
        have e3 : b3 = true := hd 3 (by simp [r14Dp])
        subst g4 e3
        obtain ⟨y0, y1⟩ := JB.out.t.g.c2
        have hK2 := hK e ⟨JB, J5, J7, JN, hcl⟩
        clear hK hd hbi hcl JB J5 J7 JN JC
        simp only [List.set_cons_zero, List.set_cons_succ, List.getD_cons_zero, List.getD_cons_succ, slu_t, slu_f] at hK2 ⊢
        refine wpOp_if rfl ?_
        go_simp
        exact hK2
      · have g5 : b5 = false := hbi
        have e4 : b4 = true := hd 4 (by simp [r14Dp])
        have f6 : b6 = false := by cases hb : b6 with | false => rfl | true => exact absurd (show b5 = true from (JC 6 5 (by simp [r14Dp]) hb)) (by rw [g5]; simp)
        have f8 : b8 = false := by cases hb : b8 with | false => rfl | true => exact absurd (show b5 = true from (JC 6 5 (by simp [r14Dp]) (JC 8 6 (by simp [r14Dp]) hb))) (by rw [g5]; simp)
        subst g5 e4 f6 f8
        have bA := below_alloc e.W (.cells (madeCells #[.bool false] len) 4)
        have nb : Bx (e.W.alloc (.cells (madeCells #[.bool false] len) 4)) e.W.heap.size (bM [] len) 4 := by have := Bx.new e.W (madeCells #[.bool false] len) 4; rw [bM_made] at this ⊢; exact this
        have hK2 := hK ⟨e.W.heap.size, e.K, e.W.alloc (.cells (madeCells #[.bool false] len) 4)⟩ ⟨JB.out.later bA, fun _ => ⟨JB.out.sz, nb⟩, fun h => ⟨(J7 h).out.1, fun h8 => ((J7 h).out.2.1 h8).later bA, fun h => absurd h (by simp)⟩, fun _ h => Nat.ne_of_gt (((J7 h).out.2.1 rfl).lt), hcl⟩
        clear hK hd hbi hcl JB J5 J7 JN JC bA nb
        simp only [List.set_cons_zero, List.set_cons_succ, List.getD_cons_zero, List.getD_cons_succ, slu_t, slu_f] at hK2 ⊢
        refine wpOp_if rfl ?_
        go_simp
        exact hK2
      · have g6 : b6 = false := hbi
        have e0 : b0 = true := hd 0 (by simp [r14Dp])
        have e1 : b1 = true := hd 1 (by simp [r14Dp])
        have e5 : b5 = true := hd 5 (by simp [r14Dp])
        subst g6 e0 e1 e5
        obtain ⟨y0, y1⟩ := JB.out.t.g.c2
        have hK2 := hK e ⟨JB, J5, J7, JN, hcl⟩
        clear hK hd hbi hcl JB J5 J7 JN JC
        simp only [List.set_cons_zero, List.set_cons_succ, List.getD_cons_zero, List.getD_cons_succ, slu_t, slu_f] at hK2 ⊢
        refine wpOp_if rfl ?_
        go_simp
        exact hK2
      · have g7 : b7 = false := hbi
        have f8 : b8 = false := by cases hb : b8 with | false => rfl | true => exact absurd (show b7 = true from (JC 8 7 (by simp [r14Dp]) hb)) (by rw [g7]; simp)
        subst g7 f8
        have bA := below_alloc e.W (.cells #[.slice none 0 0, .int .i64 0, .slice none 0 0, .slice none 0 0, .bool false] 56)
        have hK2 := hK ⟨e.CC, e.W.heap.size, e.W.alloc (.cells #[.slice none 0 0, .int .i64 0, .slice none 0 0, .slice none 0 0, .bool false] 56)⟩ ⟨JB.out.later bA, fun h => ⟨(J5 h).out.1, (J5 h).out.2.later bA⟩, fun _ => ⟨JB.out.sz, fun _ => Bx.new _ _ _, fun h => absurd h (by simp)⟩, fun h _ => Nat.ne_of_lt ((J5 h).out.2.lt), hcl⟩
        clear hK hd hbi hcl JB J5 J7 JN JC bA
        simp only [List.set_cons_zero, List.set_cons_succ, List.getD_cons_zero, List.getD_cons_succ, slu_t, slu_f] at hK2 ⊢
        refine wpOp_if rfl ?_
        go_simp
        exact hK2
      · have g8 : b8 = false := hbi
        have e6 : b6 = true := hd 6 (by simp [r14Dp])
        have e7 : b7 = true := hd 7 (by simp [r14Dp])
        have x5 : b5 = true := (JC 6 5 (by simp [r14Dp]) e6)
        subst g8 e6 e7 x5
        obtain ⟨h1, h2, _⟩ := (J7 rfl).out
        have hz := h2 rfl
        obtain ⟨k1, k2⟩ := (J5 rfl).out
        have hn := JN rfl rfl
        have r0 : e.W.cell? ⟨e.K, 0, none⟩ = some (.slice none 0 0) := hz.cell 0
        have r1 : e.W.cell? ⟨e.K, 1, none⟩ = some (.int .i64 0) := hz.cell 1
        have r2 : e.W.cell? ⟨e.K, 2, none⟩ = some (.slice none 0 0) := hz.cell 2
        have r3 : e.W.cell? ⟨e.K, 3, none⟩ = some (.slice none 0 0) := hz.cell 3
        have r4 : e.W.cell? ⟨e.K, 4, none⟩ = some (.bool false) := hz.cell 4
        have z0 := hz.fz 0
        have z1 := hz.fz 1
        have z2 := hz.fz 2
        have z3 := hz.fz 3
        have z4 := hz.fz 4
        have hK2 := hK ⟨e.CC, e.K, ((((e.W.setCell ⟨e.K, 0, none⟩ (.slice (some ⟨b, off, none⟩) len cap)).setCell ⟨e.K, 1, none⟩ (.int .i64 (m : Int))).setCell ⟨e.K, 2, none⟩ (.slice sa S.length sc)).setCell ⟨e.K, 3, none⟩ (.slice (some ⟨e.CC, 0, none⟩) len len)).setCell ⟨e.K, 4, none⟩ (.bool false)⟩ ⟨((((JB.out.set h1 0 _).set h1 1 _).set h1 2 _).set h1 3 _).set h1 4 _, fun _ => ⟨k1, ((((k2.other hn _ _).other hn _ _).other hn _ _).other hn _ _).other hn _ _⟩, fun _ => ⟨h1, fun h => absurd h (by simp), fun _ => ((((hz.set 0 _).set 1 _).set 2 _).set 3 _).set 4 _⟩, fun _ _ => hn, hcl⟩
        clear hK hd hbi hcl JB J5 J7 JN JC h1 h2 hz k1 k2 hn
        simp only [List.set_cons_zero, List.set_cons_succ, List.getD_cons_zero, List.getD_cons_succ, slu_t, slu_f] at hK2 ⊢
        refine wpOp_if rfl ?_
        go_simp
        exact hK2
  case hF =>
    rintro e ⟨JB, J5, J7, JN, JC⟩
    simp only [show List.replicate 9 true = [true, true, true, true, true, true, true, true, true] from rfl, List.getD_cons_zero, List.getD_cons_succ, slu_t]
    obtain ⟨CC, K, W5⟩ := e
    obtain ⟨k1, k2⟩ := (J5 rfl).out
    obtain ⟨k3, _, k4⟩ := (J7 rfl).out
    have k5 := k4 rfl
    have k6 := JN rfl rfl
    change w2.heap.size ≤ CC at k1
    change Bx W5 CC (bM [] len) 4 at k2
    change w2.heap.size ≤ K at k3
    change Bx W5 K #[.slice (some ⟨b, off, none⟩) len cap, .int .i64 (m : Int), .slice sa S.length sc, .slice (some ⟨CC, 0, none⟩) len len, .bool false] 56 at k5
    change CC ≠ K at k6
    change Hid (RpB w w2 W5 K0 KR (.slice (some ⟨b, off, none⟩) len cap) (.int .i64 (m : Int)) sa S) at JB
    have HL5 : Hid (RlS w W5 K CC (.slice (some ⟨b, off, none⟩) len cap) (.int .i64 (m : Int)) sa sc S len [] false) := ⟨k5, k2, fun j hj => by
      obtain ⟨ob, ooff, e, h3, h4⟩ := JB.out.sh j hj
      exact ⟨ob, ooff, e, by omega, by omega, Nat.lt_of_lt_of_le h3 JB.out.sz, h4⟩, JB.out.t.bl, by omega, by omega, Ne.symm k6⟩
    have HT5 : Hid (TlS w W5 K0 KR (.slice (some ⟨b, off, none⟩) len cap) (.int .i64 (m : Int))) := JB.out.t
    have hk0 := JB.out.k0
    have hk1 := JB.out.k1
    have HN0 : Hid ((K0 ≠ K ∧ K0 ≠ CC) ∧ KR ≠ K ∧ KR ≠ CC) := ⟨⟨by omega, by omega⟩, by omega, by omega⟩
    have HC5 := HRt K CC sa sc W5 hSl HL5.out
    obtain ⟨c0, c1⟩ := HT5.out.g.c2
    have c9 : W5.cell? ⟨K0, 1, none⟩ = some (.int .i64 (m : Int)) := HT5.out.g.cell 1
    dsimp only
    clear J5 J7 JN JC JB jb0 k1 k2 k3 k4 k5 k6 HL5 hk0 hk1 HRt hmk
    go_upto_region 7 with (go_at_call 19; refine HC5.mono ?_; rintro r w3 ⟨rk, rx, ry, rad, rl, rc, out, rfl, HT3, HL3, HX3⟩)
    have hr0 : w3.heap.size ≤ (w3.alloc (.cells #[.int .i64 rk, .string rx, .string ry, .slice rad rl rc] 29)).heap.size := by rw [World.size_alloc]; omega
    have b6 := below_alloc w3 (.cells #[.int .i64 rk, .string rx, .string ry, .slice rad rl rc] 29)
    have hKR5 : KR < W5.heap.size := HT5.out.r.lt
    have HT6 : Hid (TlS w (w3.alloc (.cells #[.int .i64 rk, .string rx, .string ry, .slice rad rl rc] 29)) K0 KR (.slice (some ⟨b, off, none⟩) len cap) (.int .i64 (m : Int))) := (HT5.out.ex2 HX3.out HL3.out.bl HN0.out.1 HN0.out.2).later b6
    have HL6 : Hid (RlS w (w3.alloc (.cells #[.int .i64 rk, .string rx, .string ry, .slice rad rl rc] 29)) K CC (.slice (some ⟨b, off, none⟩) len cap) (.int .i64 (m : Int)) sa sc S len out (decide (64 < D))) := HL3.out.later b6
    have HR6 : Hid (TrP (KR + 1) (w3.alloc (.cells #[.int .i64 rk, .string rx, .string ry, .slice rad rl rc] 29)) (len + 1) (.agg #[.int .i64 rk, .string rx, .string ry, .slice rad rl rc]) T) := (HT3.out.later b6).mono (by omega)
    have N6 : Hid (Bx (w3.alloc (.cells #[.int .i64 rk, .string rx, .string ry, .slice rad rl rc] 29)) w3.heap.size #[.int .i64 rk, .string rx, .string ry, .slice rad rl rc] 29) := Bx.new _ _ _
    have hne : w3.heap.size ≠ KR := by have := HX3.out.size; omega
    generalize w3.alloc (.cells #[.int .i64 rk, .string rx, .string ry, .slice rad rl rc] 29) = w6 at HT6 HL6 HR6 N6 ⊢
    generalize w3.heap.size = K9 at N6 hne ⊢
    clear hr0 b6 hKR5 HT5 HL3 HX3 HT3 HC5 c0 c1 c9 HN0 hSl hw2
    have c4 : w6.cell? ⟨K, 4, none⟩ = some (.bool (decide (64 < D))) := HL6.out.s.cell 4
    obtain ⟨r0, r1, r2, r3⟩ := (show Bx w6 KR #[.int .i64 0, .string ⟨#[]⟩, .string ⟨#[]⟩, .slice none 0 0] 29 from HT6.out.r).c4
    have z0 := HT6.out.r.fz 0
    have z1 := HT6.out.r.fz 1
    have z2 := HT6.out.r.fz 2
    have z3 := HT6.out.r.fz 3
    have HT0 : Hid (TrP (KR + 1) w6 (len + 1) (.agg #[.int .i64 0, .string ⟨#[]⟩, .string ⟨#[]⟩, .slice none 0 0]) tr0) := trp_none _ _ _
    by_cases hd : 64 < D
    · rw [decide_eq_true hd] at c4
      have HE9 : Hid (ER = 10 ∧ GR = tr0) := by
        have h : ER = 10 := by rw [HEr.out, if_pos hd]
        exact ⟨h, HGn.out (by rw [h]; decide)⟩
      obtain ⟨n9, t9, b9⟩ := HT6.out.store hwK HT0.out
      have HN9 : Hid (Bx _ KR _ _) := n9
      have HT9 : Hid (TrP w.heap.size _ _ _ _) := t9
      have HB9 : Hid (Below w.heap.size w _) := b9
      clear n9 t9 b9 HT0 HT6 HL6 HR6 N6 HEr HGr HGn
      go_wp2_with fail
      generalize (((w6.setCell ⟨KR, 0, none⟩ (.int .i64 0)).setCell ⟨KR, 1, none⟩ (.string ⟨#[]⟩)).setCell ⟨KR, 2, none⟩ (.string ⟨#[]⟩)).setCell ⟨KR, 3, none⟩ (.slice none 0 0) = W9 at HN9 HT9 HB9 ⊢
      obtain ⟨g0, g1, g2, g3⟩ := HN9.out.c4
      refine bodyPost_ret (v := .tuple #[.agg #[.int .i64 0, .string ⟨#[]⟩, .string ⟨#[]⟩, .slice none 0 0], .int .i64 10]) (by simp [results, Tryz.results8, go_sem, g0, g1, g2, g3]) rfl ?_
      show LTRes _ _ _ _ _ _
      rw [HE9.out.1, HE9.out.2]
      exact ⟨0, ⟨#[]⟩, ⟨#[]⟩, none, 0, 0, rfl, HT9, HB9⟩
    · rw [decide_eq_false hd] at c4
      by_cases hs : 4096 < Z
      · have HE9 : Hid (ER = 5 ∧ GR = tr0) := by
          have h : ER = 5 := by rw [HEr.out, if_neg hd, if_pos hs]
          exact ⟨h, HGn.out (by rw [h]; decide)⟩
        have hs2 : (4096 : Int) < (Z : Int) := by omega
        obtain ⟨n9, t9, b9⟩ := HT6.out.store hwK HT0.out
        have HN9 : Hid (Bx _ KR _ _) := n9
        have HT9 : Hid (TrP w.heap.size _ _ _ _) := t9
        have HB9 : Hid (Below w.heap.size w _) := b9
        clear n9 t9 b9 HT0 HT6 HL6 HR6 N6 HEr HGr HGn
        go_wp2_with fail
        generalize (((w6.setCell ⟨KR, 0, none⟩ (.int .i64 0)).setCell ⟨KR, 1, none⟩ (.string ⟨#[]⟩)).setCell ⟨KR, 2, none⟩ (.string ⟨#[]⟩)).setCell ⟨KR, 3, none⟩ (.slice none 0 0) = W9 at HN9 HT9 HB9 ⊢
        obtain ⟨g0, g1, g2, g3⟩ := HN9.out.c4
        refine bodyPost_ret (v := .tuple #[.agg #[.int .i64 0, .string ⟨#[]⟩, .string ⟨#[]⟩, .slice none 0 0], .int .i64 5]) (by simp [results, Tryz.results8, go_sem, g0, g1, g2, g3]) rfl ?_
        show LTRes _ _ _ _ _ _
        rw [HE9.out.1, HE9.out.2]
        exact ⟨0, ⟨#[]⟩, ⟨#[]⟩, none, 0, 0, rfl, HT9, HB9⟩
      · have HE9 : Hid (ER = 0 ∧ GR = T) := by
          have h : ER = 0 := by rw [HEr.out, if_neg hd, if_neg hs]
          exact ⟨h, HGr.out h⟩
        have hs2 : ¬ (4096 : Int) < (Z : Int) := by omega
        obtain ⟨n9, t9, b9⟩ := HT6.out.store hwK HR6.out
        have HN9 : Hid (Bx _ KR _ _) := n9
        have HT9 : Hid (TrP w.heap.size _ _ _ _) := t9
        have HB9 : Hid (Below w.heap.size w _) := b9
        obtain ⟨x0, x1, x2, x3⟩ := N6.out.c4
        clear n9 t9 b9 HT0 HT6 HL6 HR6 N6 HEr HGr HGn
        go_wp2_with fail
        generalize (((w6.setCell ⟨KR, 0, none⟩ (.int .i64 rk)).setCell ⟨KR, 1, none⟩ (.string rx)).setCell ⟨KR, 2, none⟩ (.string ry)).setCell ⟨KR, 3, none⟩ (.slice rad rl rc) = W9 at HN9 HT9 HB9 ⊢
        obtain ⟨g0, g1, g2, g3⟩ := HN9.out.c4
        refine bodyPost_ret (v := .tuple #[.agg #[.int .i64 rk, .string rx, .string ry, .slice rad rl rc], .int .i64 0]) (by simp [results, Tryz.results8, go_sem, g0, g1, g2, g3]) rfl ?_
        show LTRes _ _ _ _ _ _
        rw [HE9.out.1, HE9.out.2]
        exact ⟨rk, rx, ry, rad, rl, rc, rfl, HT9, HB9⟩
theorem rtp_any {w : World} {v : Value} {g : Gr} (h : GrV w v g) (hS : Sml g.nodes) (hS2 : Sm2 g.nodes) : Calls Tryz.prog 8 #[v] w (LTRes w (g.nodes.length + 1) (lyE g) (lyG g)) := by
  obtain ⟨ad, len, cap, rfl, h1, h2, h3, h4⟩ := h
  have : maxLen = 9223372036854775807 := rfl
  rw [← h4.1]
  exact rtp_core (by omega) h4 hS hS2
end Go.Proofs.YtaphijgbebhdlaaGreatDoor.Grp
end
