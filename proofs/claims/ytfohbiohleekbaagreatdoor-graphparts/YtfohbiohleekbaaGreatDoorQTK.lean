/- Several texts as one: GraphScl, GraphPar. -/
import Derived.Test.YtfohbiohleekbaaGreatDoorQTF
import Derived.Test.YtfohbiohleekbaaGreatDoorQGgG
import Derived.Test.YtfohbiohleekbaaGreatDoorQGraphAgS
import Derived.Test.YtfohbiohleekbaaGreatDoorQGraphAlive
import Derived.Test.YtfohbiohleekbaaGreatDoorQTJ
import Derived.Test.YtfohbiohleekbaaGreatDoorQTG
import Derived.Test.YtfohbiohleekbaaGreatDoorQTH
section
/- . -/
namespace Go.Proofs.YtfohbiohleekbaaGreatDoor.Grp
open Utf Rws Pln Flw
open Go.RowKit
set_option linter.unusedSimpArgs false
set_option linter.unusedVariables false
set_option maxRecDepth 100000
set_option maxHeartbeats 4000000
theorem grp_one {B : Nat} {W : World} {KN : Nat} {k : Int} {x : Ln} (h : Bx W KN #[.int .i64 k, .string (mk x), .slice none 0 0] 50) (hB : B ≤ KN) (hk : i64 k) (hx : x.length ≤ 9223372036854775807) : GrP B W (gv (some ⟨KN, 0, none⟩) 1 1 0) ⟨[⟨k, x, []⟩], 0⟩ := fun W' hs hkk => by
 have h2 : Bx W' KN #[.int .i64 k, .string (mk x), .slice none 0 0] 50 := (hkk KN hB h.lt).trans h
 refine ⟨some ⟨KN, 0, none⟩, 1, 1, rfl, Nat.le_refl _, by decide, ⟨(by decide : (-9223372036854775808 : Int) ≤ 0), (by decide : (0 : Int) ≤ 9223372036854775807)⟩, rfl, fun _ => ⟨KN, 0, rfl, h2.lt, fun i hi => ?_⟩⟩
 have e : i = 0 := by omega
 subst e
 exact ⟨none, 0, 0, Nat.le_refl _, Nat.zero_le _, hk, hx, ⟨rfl, fun h => absurd h (by decide)⟩, h2.c3.1, h2.c3.2.1, h2.c3.2.2⟩
structure ScS (w W : World) (K : Nat) : Prop where
 r : Bx W K #[.slice none 0 0, .int .i64 0] 30
 bl : Below w.heap.size w W
 hk : w.heap.size ≤ K
theorem ScS.later {w W W' : World} {K : Nat} (h : ScS w W K) (hb : Below W.heap.size W W') : ScS w W' K := ⟨h.r.later hb, h.bl.trans (hb.mono h.bl.size), h.hk⟩
theorem ScS.new (w : World) : ScS w (w.alloc (.cells #[.slice none 0 0, .int .i64 0] 30)) w.heap.size := ⟨Bx.new _ _ _, below_alloc _ _, Nat.le_refl _⟩
theorem sc_done {w W : World} {k : Int} {x : Ln} (h : ScS w W w.heap.size) (hk : i64 k) (hx : x.length ≤ 9223372036854775807) :
  Bx (((W.setCell ⟨w.heap.size, 0, none⟩ (.slice (some ⟨W.heap.size, 0, none⟩) 1 1)).setCell ⟨w.heap.size, 1, none⟩ (.int .i64 0)).alloc (.cells #[.int .i64 k, .string (mk x), .slice none 0 0] 50)) w.heap.size #[.slice (some ⟨W.heap.size, 0, none⟩) 1 1, .int .i64 0] 30 ∧ Below w.heap.size w (((W.setCell ⟨w.heap.size, 0, none⟩ (.slice (some ⟨W.heap.size, 0, none⟩) 1 1)).setCell ⟨w.heap.size, 1, none⟩ (.int .i64 0)).alloc (.cells #[.int .i64 k, .string (mk x), .slice none 0 0] 50)) ∧ GrP w.heap.size (((W.setCell ⟨w.heap.size, 0, none⟩ (.slice (some ⟨W.heap.size, 0, none⟩) 1 1)).setCell ⟨w.heap.size, 1, none⟩ (.int .i64 0)).alloc (.cells #[.int .i64 k, .string (mk x), .slice none 0 0] 50)) (gv (some ⟨W.heap.size, 0, none⟩) 1 1 0) ⟨[⟨k, x, []⟩], 0⟩ := by
 have r8 := (h.r.set 0 (.slice (some ⟨W.heap.size, 0, none⟩) 1 1)).set 1 (.int .i64 0)
 have b8 := (h.bl.setCell (p := ⟨w.heap.size, 0, none⟩) (Nat.le_refl _) (.slice (some ⟨W.heap.size, 0, none⟩) 1 1)).setCell (p := ⟨w.heap.size, 1, none⟩) (Nat.le_refl _) (.int .i64 0)
 have s8 : ((W.setCell ⟨w.heap.size, 0, none⟩ (.slice (some ⟨W.heap.size, 0, none⟩) 1 1)).setCell ⟨w.heap.size, 1, none⟩ (.int .i64 0)).heap.size = W.heap.size := by rw [World.size_setCell, World.size_setCell]
 have hlt := h.r.lt
 generalize (W.setCell ⟨w.heap.size, 0, none⟩ (.slice (some ⟨W.heap.size, 0, none⟩) 1 1)).setCell ⟨w.heap.size, 1, none⟩ (.int .i64 0) = W8 at r8 b8 s8 ⊢
 have b9 := below_alloc W8 (.cells #[.int .i64 k, .string (mk x), .slice none 0 0] 50)
 have n9 := Bx.new W8 #[.int .i64 k, .string (mk x), .slice none 0 0] 50
 rw [s8] at n9
 exact ⟨r8.later b9, b8.trans (b9.mono b8.size), grp_one n9 (Nat.le_of_lt hlt) hk hx⟩
theorem sc_bad {w W : World} (h : ScS w W w.heap.size) : Bx ((W.setCell ⟨w.heap.size, 0, none⟩ (.slice none 0 0)).setCell ⟨w.heap.size, 1, none⟩ (.int .i64 0)) w.heap.size #[.slice none 0 0, .int .i64 0] 30 ∧ Below w.heap.size w ((W.setCell ⟨w.heap.size, 0, none⟩ (.slice none 0 0)).setCell ⟨w.heap.size, 1, none⟩ (.int .i64 0)) :=
 ⟨(h.r.set 0 (.slice none 0 0)).set 1 (.int .i64 0), (h.bl.setCell (p := ⟨w.heap.size, 0, none⟩) (Nat.le_refl _) (.slice none 0 0)).setCell (p := ⟨w.heap.size, 1, none⟩) (Nat.le_refl _) (.int .i64 0)⟩
theorem rscalar12_any {w : World} {k : Int} {x : Ln} (hk : i64 k) (hx : x.length ≤ 65536) : Calls Tryz.prog 25 #[.int .i64 k, .string (mk x)] w (GRes w (sca k && rAl k x) 1 ⟨[⟨k, x, []⟩], 0⟩) := by
 have H0 : Hid (ScS w (w.alloc (.cells #[.slice none 0 0, .int .i64 0] 30)) w.heap.size) := ScS.new w
 have HSC : Hid (∀ W, Calls Tryz.prog 46 #[.int .i64 k] W fun e W' => e = .returned (.bool (sca k)) ∧ W = W') := fun W => rscal12_any k W
 have HT : Hid (∀ W, Hid (ScS w W w.heap.size) → Calls Tryz.prog 47 #[.int .i64 k, .string (mk x)] W fun e W' => e = .returned (.bool (txt k x)) ∧ Hid (ScS w W' w.heap.size)) := fun W h => (rtext12_any k x W hx).mono (fun e W' q => ⟨q.1, h.out.later q.2⟩)
 have HQ : Hid ((sca k && rAl k x) = (sca k && txt k x)) := by
  show _ = _
  cases hs : sca k
  ·rfl
  ·unfold sca at hs
   rw [Bool.and_eq_true] at hs
   have h1 := of_decide_eq_true hs.1
   have h2 := of_decide_eq_true hs.2
   rw [rAl_txt, decide_eq_true h1, decide_eq_true (show k ≤ 6 by omega)]; rfl
 rw [HQ.out]
 have hx63 : x.length ≤ 9223372036854775807 := by omega
 clear HQ hx
 have hw : (sca k = true ∧ txt k x = true) ∨ (sca k = false ∨ (sca k = true ∧ txt k x = false)) := by
  cases sca k
  ·exact .inr (.inl rfl)
  ·cases txt k x
   ·exact .inr (.inr ⟨rfl, rfl⟩)
   ·exact .inl ⟨rfl, rfl⟩
 rcases hw with ⟨hs, ht⟩ | hw
 ·rw [hs] at HSC
  rw [ht] at HT
  rw [hs, ht]
  clear hs ht
  go_enter Tryz.func25, Tryz.ntmps25
  go_upto_region 1 with fail
  generalize w.alloc (.cells #[.slice none 0 0, .int .i64 0] 30) = W0 at H0 ⊢
  go_upto_region 3 with (first | (go_at_call 46; refine (HSC.out _).mono ?_; rintro e w1 ⟨rfl, rfl⟩) | (go_at_call 47; refine (HT.out _ H0).mono ?_; rintro e w2 ⟨rfl, H2⟩))
  have HB := sc_done (k := k) (x := x) H2.out hk hx63
  have c0 := H2.out.r.c2.1
  have c1 := H2.out.r.c2.2
  have z0 := H2.out.r.fz 0
  have z1 := H2.out.r.fz 1
  have HB2 : Hid (_ ∧ _ ∧ _) := HB
  have hlt : w.heap.size < w2.heap.size := H2.out.r.lt
  clear HB H2 H0
  go_wp2
  generalize ((w2.setCell ⟨w.heap.size, 0, none⟩ (.slice (some ⟨w2.heap.size, 0, none⟩) 1 1)).setCell ⟨w.heap.size, 1, none⟩ (.int .i64 0)).alloc (.cells #[.int .i64 k, .string (mk x), .slice none 0 0] 50) = W9 at HB2 ⊢
  obtain ⟨g0, g1⟩ := HB2.out.1.c2
  refine bodyPost_ret (v := .tuple #[gv (some ⟨w2.heap.size, 0, none⟩) 1 1 0, .int .i64 0]) (by simp [results, Tryz.results25, go_sem, g0, g1]) rfl ?_
  exact ⟨by rw [if_pos (show (true && true) = true from rfl)]; exact ⟨_, rfl, HB2.out.2.2⟩, HB2.out.2.1⟩
 ·have HE : Hid ((sca k && txt k x) = false) := by
   show _ = _
   rcases hw with h | ⟨h, h2⟩
   ·rw [h]; rfl
   ·rw [h, h2]; rfl
  have HBD : Hid (∀ W, Hid (ScS w W w.heap.size) → _) := fun W h => sc_bad h.out
  go_enter Tryz.func25, Tryz.ntmps25
  go_upto_region 1 with fail
  generalize w.alloc (.cells #[.slice none 0 0, .int .i64 0] 30) = W0 at H0 ⊢
  rcases hw with hs | ⟨hs, ht⟩
  ·rw [hs] at HSC
   have HB2 : Hid (_ ∧ _) := HBD.out _ H0
   obtain ⟨c0, c1⟩ := H0.out.r.c2
   have z0 := H0.out.r.fz 0
   have z1 := H0.out.r.fz 1
   clear HBD H0 HT hs
   go_wp2_with (go_at_call 46; refine (HSC.out _).mono ?_; rintro e w1 ⟨rfl, rfl⟩)
   generalize (W0.setCell ⟨w.heap.size, 0, none⟩ (.slice none 0 0)).setCell ⟨w.heap.size, 1, none⟩ (.int .i64 0) = W9 at HB2 ⊢
   obtain ⟨g0, g1⟩ := HB2.out.1.c2
   refine bodyPost_ret (v := .tuple #[gv none 0 0 0, .int .i64 1]) (by simp [results, Tryz.results25, go_sem, g0, g1]) rfl ?_
   exact ⟨by rw [HE.out, if_neg (by decide)], HB2.out.2⟩
  ·rw [hs] at HSC
   rw [ht] at HT
   clear hs ht
   go_upto_region 2 with (first | (go_at_call 46; refine (HSC.out _).mono ?_; rintro e w1 ⟨rfl, rfl⟩) | (go_at_call 47; refine (HT.out _ H0).mono ?_; rintro e w2 ⟨rfl, H2⟩))
   have HB2 : Hid (_ ∧ _) := HBD.out _ H2
   obtain ⟨c0, c1⟩ := H2.out.r.c2
   have z0 := H2.out.r.fz 0
   have z1 := H2.out.r.fz 1
   clear HBD H0 H2 HT
   go_wp2
   generalize (w2.setCell ⟨w.heap.size, 0, none⟩ (.slice none 0 0)).setCell ⟨w.heap.size, 1, none⟩ (.int .i64 0) = W9 at HB2 ⊢
   obtain ⟨g0, g1⟩ := HB2.out.1.c2
   refine bodyPost_ret (v := .tuple #[gv none 0 0 0, .int .i64 1]) (by simp [results, Tryz.results25, go_sem, g0, g1]) rfl ?_
   exact ⟨by rw [HE.out, if_neg (by decide)], HB2.out.2⟩
structure SdS (w W : World) (K6 : Nat) (nc : Array Value) : Prop where
 s : ScS w W w.heap.size
 n : Bx W K6 nc 50
theorem SdS.later {w W W' : World} {K6 : Nat} {nc : Array Value} (h : SdS w W K6 nc) (hb : Below W.heap.size W W') : SdS w W' K6 nc := ⟨h.s.later hb, h.n.later hb⟩
theorem gscalar_any {w : World} {k : Int} {x : Ln} (hk : i64 k) (hx : x.length ≤ 2147483648) (hT : Tb w) : Calls Tryz.prog 24 #[.int .i64 k, .string (mk x)] w (GRes w (sca k && rAl k x) 1 ⟨[⟨k, x, []⟩], 0⟩) := by
 have H0 : Hid (SdS w ((w.alloc (.cells #[.slice none 0 0, .int .i64 0] 30)).alloc (.cells #[.int .i64 k, .string (mk x), .slice none 0 0] 50)) (w.heap.size + 1) #[.int .i64 k, .string (mk x), .slice none 0 0]) := by
  have b2 := below_alloc (w.alloc (.cells #[.slice none 0 0, .int .i64 0] 30)) (.cells #[.int .i64 k, .string (mk x), .slice none 0 0] 50)
  have n2 := Bx.new (w.alloc (.cells #[.slice none 0 0, .int .i64 0] 30)) #[.int .i64 k, .string (mk x), .slice none 0 0] 50
  rw [World.size_alloc] at n2
  exact ⟨(ScS.new w).later b2, n2⟩
 have HSC : Hid (∀ W, Hid (SdS w W (w.heap.size + 1) #[.int .i64 k, .string (mk x), .slice none 0 0]) → Calls Tryz.prog 45 #[nv k x none 0 0] W fun e W' => e = .returned (.bool (sca k)) ∧ Hid (SdS w W' (w.heap.size + 1) #[.int .i64 k, .string (mk x), .slice none 0 0])) := fun W h => isScalar_any.mono (fun e W' q => ⟨q.1, h.out.later q.2⟩)
 have HT : Hid (∀ W, Hid (SdS w W (w.heap.size + 1) #[.int .i64 k, .string (mk x), .slice none 0 0]) → Calls Tryz.prog 34 #[nv k x none 0 0] W fun e W' => e = .returned (.bool (rAl k x)) ∧ Hid (SdS w W' (w.heap.size + 1) #[.int .i64 k, .string (mk x), .slice none 0 0])) := fun W h => (alone_any hk hx (hT.later h.out.s.bl)).mono (fun e W' q => ⟨q.1, h.out.later q.2⟩)
 have hx63 : x.length ≤ 9223372036854775807 := by omega
 clear hx hT
 have hw : (sca k = true ∧ rAl k x = true) ∨ (sca k = false ∨ (sca k = true ∧ rAl k x = false)) := by
  cases sca k
  ·exact .inr (.inl rfl)
  ·cases rAl k x
   ·exact .inr (.inr ⟨rfl, rfl⟩)
   ·exact .inl ⟨rfl, rfl⟩
 rcases hw with ⟨hs, ht⟩ | hw
 ·rw [hs] at HSC
  rw [ht] at HT
  rw [hs, ht]
  clear hs ht
  go_enter Tryz.func24, Tryz.ntmps24
  go_upto_region 2 with fail
  generalize (w.alloc (.cells #[.slice none 0 0, .int .i64 0] 30)).alloc (.cells #[.int .i64 k, .string (mk x), .slice none 0 0] 50) = W0 at H0 ⊢
  obtain ⟨n0, n1, n2⟩ := H0.out.n.c3
  go_upto_region 4 with (first | (go_at_call 45; refine (HSC.out _ H0).mono ?_; rintro e w1 ⟨rfl, H1⟩; obtain ⟨m0, m1, m2⟩ := H1.out.n.c3) | (go_at_call 34; refine (HT.out _ H1).mono ?_; rintro e w2 ⟨rfl, H2⟩; obtain ⟨p0, p1, p2⟩ := H2.out.n.c3))
  have HB := sc_done (k := k) (x := x) H2.out.s hk hx63
  have c0 := H2.out.s.r.c2.1
  have c1 := H2.out.s.r.c2.2
  have z0 := H2.out.s.r.fz 0
  have z1 := H2.out.s.r.fz 1
  have HB2 : Hid (_ ∧ _ ∧ _) := HB
  have hlt : w.heap.size < w2.heap.size := H2.out.s.r.lt
  clear HB H2 H0 H1 n0 n1 n2 m0 m1 m2
  go_wp2
  generalize ((w2.setCell ⟨w.heap.size, 0, none⟩ (.slice (some ⟨w2.heap.size, 0, none⟩) 1 1)).setCell ⟨w.heap.size, 1, none⟩ (.int .i64 0)).alloc (.cells #[.int .i64 k, .string (mk x), .slice none 0 0] 50) = W9 at HB2 ⊢
  obtain ⟨g0, g1⟩ := HB2.out.1.c2
  refine bodyPost_ret (v := .tuple #[gv (some ⟨w2.heap.size, 0, none⟩) 1 1 0, .int .i64 0]) (by simp [results, Tryz.results24, go_sem, g0, g1]) rfl ?_
  exact ⟨by rw [if_pos (show (true && true) = true from rfl)]; exact ⟨_, rfl, HB2.out.2.2⟩, HB2.out.2.1⟩
 ·have HE : Hid ((sca k && rAl k x) = false) := by
   show _ = _
   rcases hw with h | ⟨h, h2⟩
   ·rw [h]; rfl
   ·rw [h, h2]; rfl
  have HBD : Hid (∀ W, Hid (ScS w W w.heap.size) → _) := fun W h => sc_bad h.out
  go_enter Tryz.func24, Tryz.ntmps24
  go_upto_region 2 with fail
  generalize (w.alloc (.cells #[.slice none 0 0, .int .i64 0] 30)).alloc (.cells #[.int .i64 k, .string (mk x), .slice none 0 0] 50) = W0 at H0 ⊢
  obtain ⟨n0, n1, n2⟩ := H0.out.n.c3
  rcases hw with hs | ⟨hs, ht⟩
  ·rw [hs] at HSC
   clear hs
   go_upto_region 3 with (go_at_call 45; refine (HSC.out _ H0).mono ?_; rintro e w2 ⟨rfl, H2⟩)
   have HB2 : Hid (_ ∧ _) := HBD.out _ H2.out.s
   obtain ⟨c0, c1⟩ := H2.out.s.r.c2
   have z0 := H2.out.s.r.fz 0
   have z1 := H2.out.s.r.fz 1
   clear HBD H0 H2 HT n0 n1 n2
   go_wp2
   generalize (w2.setCell ⟨w.heap.size, 0, none⟩ (.slice none 0 0)).setCell ⟨w.heap.size, 1, none⟩ (.int .i64 0) = W9 at HB2 ⊢
   obtain ⟨g0, g1⟩ := HB2.out.1.c2
   refine bodyPost_ret (v := .tuple #[gv none 0 0 0, .int .i64 1]) (by simp [results, Tryz.results24, go_sem, g0, g1]) rfl ?_
   exact ⟨by rw [HE.out, if_neg (by decide)], HB2.out.2⟩
  ·rw [hs] at HSC
   rw [ht] at HT
   clear hs ht
   go_upto_region 3 with (first | (go_at_call 45; refine (HSC.out _ H0).mono ?_; rintro e w1 ⟨rfl, H1⟩; obtain ⟨m0, m1, m2⟩ := H1.out.n.c3) | (go_at_call 34; refine (HT.out _ H1).mono ?_; rintro e w2 ⟨rfl, H2⟩))
   have HB2 : Hid (_ ∧ _) := HBD.out _ H2.out.s
   obtain ⟨c0, c1⟩ := H2.out.s.r.c2
   have z0 := H2.out.s.r.fz 0
   have z1 := H2.out.s.r.fz 1
   clear HBD H0 H1 H2 HT n0 n1 n2 m0 m1 m2
   go_wp2
   generalize (w2.setCell ⟨w.heap.size, 0, none⟩ (.slice none 0 0)).setCell ⟨w.heap.size, 1, none⟩ (.int .i64 0) = W9 at HB2 ⊢
   obtain ⟨g0, g1⟩ := HB2.out.1.c2
   refine bodyPost_ret (v := .tuple #[gv none 0 0 0, .int .i64 1]) (by simp [results, Tryz.results24, go_sem, g0, g1]) rfl ?_
   exact ⟨by rw [HE.out, if_neg (by decide)], HB2.out.2⟩
end Go.Proofs.YtfohbiohleekbaaGreatDoor.Grp
end

section
/- . -/
namespace Go.Proofs.YtfohbiohleekbaaGreatDoor.Grp
open Utf Rws Pln Flw
open Go.RowKit
set_option linter.unusedSimpArgs false
set_option linter.unusedVariables false
set_option maxRecDepth 100000
set_option maxHeartbeats 4000000
theorem grv_none (w : World) : GrV w (gv none 0 0 0) ⟨[], 0⟩ := ⟨none, 0, 0, rfl, Nat.le_refl _, Nat.zero_le _, ⟨by decide, by decide⟩, rfl, fun h => absurd h (by decide)⟩
def PRes (w : World) (er : Int) (g : Gr) (e : Ending) (w' : World) : Prop := ∃ a l c, e = .returned (.tuple #[gv a l c 0, .int .i64 er]) ∧ Hid (GrV w' (gv a l c 0) g ∧ Below w.heap.size w w')
theorem gres_of {w : World} {q : Bool} {er : Int} {ns : List Nd} {e : Ending} {w' : World} (h : GRes w q er ⟨ns, 0⟩ e w') : PRes w (if q = true then 0 else er) (if q = true then ⟨ns, 0⟩ else ⟨[], 0⟩) e w' := by
 obtain ⟨h1, h2⟩ := h
 cases q
 ·rw [if_neg (by decide)] at h1 ⊢
  rw [if_neg (by decide)]
  exact ⟨none, 0, 0, h1, grv_none _, h2⟩
 ·rw [if_pos rfl] at h1 ⊢
  rw [if_pos rfl]
  obtain ⟨v, rfl, h3⟩ := h1
  obtain ⟨a, l, c, rfl⟩ := h3.shape
  exact ⟨a, l, c, rfl, h3.v, h2⟩
theorem sres_of {w : World} {er : Int} {ns : List Nd} {e : Ending} {w' : World} (h : SRes w er ⟨ns, 0⟩ e w') : PRes w er (if er = 0 then ⟨ns, 0⟩ else ⟨[], 0⟩) e w' := by
 obtain ⟨h1, h2⟩ := h
 by_cases q : er = 0
 ·rw [if_pos q] at h1 ⊢
  obtain ⟨v, rfl, h3⟩ := h1
  obtain ⟨a, l, c, rfl⟩ := h3.shape
  subst q
  exact ⟨a, l, c, rfl, h3.v, h2⟩
 ·rw [if_neg q] at h1 ⊢
  exact ⟨none, 0, 0, h1, grv_none _, h2⟩
structure PaS (w W : World) (K0 K2 : Nat) (a0 a1 n0 n1 n2 : Value) (L : List (Nat × Value × Gr)) : Prop where
 a : Bx W K0 #[a0, a1] 30
 b : Bx W K2 #[n0, n1, n2] 50
 l : ∀ p ∈ L, Bx W p.1 #[p.2.1, .int .i64 0] 30 ∧ GrV W (.agg #[p.2.1, .int .i64 0]) p.2.2
 bl : Below w.heap.size w W
theorem PaS.later {w W W' : World} {K0 K2 : Nat} {a0 a1 n0 n1 n2 : Value} {L : List (Nat × Value × Gr)} (h : PaS w W K0 K2 a0 a1 n0 n1 n2 L) (hb : Below W.heap.size W W') : PaS w W' K0 K2 a0 a1 n0 n1 n2 L := ⟨h.a.later hb, h.b.later hb, fun p hp => ⟨(h.l p hp).1.later hb, (h.l p hp).2.later hb (Nat.le_refl _)⟩, h.bl.trans (hb.mono h.bl.size)⟩
theorem PaS.new (w : World) (a0 a1 n0 n1 n2 : Value) : PaS w ((w.alloc (.cells #[a0, a1] 30)).alloc (.cells #[n0, n1, n2] 50)) w.heap.size (w.heap.size + 1) a0 a1 n0 n1 n2 [] := by
 have x1 := below_alloc w (.cells #[a0, a1] 30)
 have s1 : (w.alloc (.cells #[a0, a1] 30)).heap.size = w.heap.size + 1 := World.size_alloc _ _
 have x2 := below_alloc (w.alloc (.cells #[a0, a1] 30)) (.cells #[n0, n1, n2] 50)
 have n2' := Bx.new (w.alloc (.cells #[a0, a1] 30)) #[n0, n1, n2] 50
 rw [s1] at n2'
 exact ⟨(Bx.new w _ _).later x2, n2', fun p hp => (by cases hp), x1.trans (x2.mono x1.size)⟩
theorem PaS.add {w W W1 : World} {K0 K2 : Nat} {a0 a1 n0 n1 n2 x : Value} {g : Gr} {L : List (Nat × Value × Gr)} (h : PaS w W K0 K2 a0 a1 n0 n1 n2 L) (hb : Below W.heap.size W W1) (hg : GrV W1 (.agg #[x, .int .i64 0]) g) : PaS w (W1.alloc (.cells #[x, .int .i64 0] 30)) K0 K2 a0 a1 n0 n1 n2 ((W1.heap.size, x, g) :: L) := by
 have h1 := (h.later hb).later (below_alloc W1 (.cells #[x, .int .i64 0] 30))
 refine ⟨h1.a, h1.b, fun p hp => ?_, h1.bl⟩
 rcases List.mem_cons.1 hp with rfl | hp
 ·exact ⟨Bx.new _ _ _, hg.later (below_alloc W1 _) (Nat.le_refl _)⟩
 ·exact h1.l p hp
theorem parts_core {w : World} {ad qad : Option Addr} {len cap qlen qcap : Nat} {r at' k : Int} {x : Ln} {ns : List Nd} (hG : GrV w (gv ad len cap r) ⟨ns, r⟩) (hk : i64 k) (hx : x.length ≤ 9223372036854775807) (hT : Tb w) :
  Calls Tryz.prog 5 #[gv ad len cap r, .int .i64 at', nv k x qad qlen qcap] w fun e w' => e = .returned (.bool true) ∧ Below w.heap.size w w' := by
 have h0 : Hid (PaS w _ w.heap.size (w.heap.size + 1) (.slice ad len cap) (.int .i64 r) (.int .i64 k) (.string (mk x)) (.slice qad qlen qcap) []) := PaS.new w _ _ _ _ _
 obtain ⟨K2, HK2⟩ : ∃ K2, Hid (K2 = w.heap.size + 1) := ⟨_, rfl⟩
 obtain ⟨K0, HK0⟩ : ∃ K0, Hid (K0 = w.heap.size) := ⟨_, rfl⟩
 have HA : Hid (∀ W, Below w.heap.size w W → Calls Tryz.prog 7 #[] W fun e W' => e = .returned (.bool true) ∧ Hid (Below w.heap.size w W')) := fun W b => (alive_any (hT.later b)).mono (fun e W' q => ⟨q.1, b.trans (q.2.mono b.size)⟩)
 have HLG : Hid (∀ W, Hid (PaS w W K0 K2 (.slice ad len cap) (.int .i64 r) (.int .i64 k) (.string (mk x)) (.slice qad qlen qcap) []) → Calls Tryz.prog 11 #[gv ad len cap r] W fun e W' => e = .returned (.bool (lgB ns)) ∧ Hid (PaS w W' K0 K2 (.slice ad len cap) (.int .i64 r) (.int .i64 k) (.string (mk x)) (.slice qad qlen qcap) [])) := fun W h => (large_any (hG.later h.out.bl (Nat.le_refl _))).mono (fun e W' q => ⟨q.1, h.out.later q.2⟩)
 have hsz : (mk x).size = x.length := mk_size x
 cases hl : lgB ns
 case true =>
  rw [hl] at HLG
  clear hT hG
  go_enter Tryz.func5, Tryz.ntmps5
  go_wp2_with fail
  generalize (w.alloc (.cells #[.slice ad len cap, .int .i64 r] 30)).alloc (.cells #[.int .i64 k, .string (mk x), .slice qad qlen qcap] 50) = W0 at h0 ⊢
  rw [← HK2.out, ← HK0.out]
  rw [← HK2.out, ← HK0.out] at h0
  clear HK2 HK0
  refine (HLG.out _ h0).mono ?_
  rintro e w1 ⟨rfl, H1⟩
  obtain ⟨q0, q1, q2⟩ := H1.out.b.c3
  obtain ⟨c0, c1⟩ := H1.out.a.c2
  go_wp2_with (go_at_call 7; refine (HA.out _ H1.out.bl).mono ?_; rintro e w9 ⟨rfl, HZ⟩)
  go_ret
  exact ⟨rfl, HZ.out⟩
 case false =>
 have hS2 := lgB_sm2 hl
 have hS := lgB_sml hl
 rw [hl] at HLG
 by_cases hx2 : 2000 < x.length
 case pos =>
  have hx3 : (2000 : Int) < (x.length : Int) := by omega
  have hx4 : 2000 < (mk x).size := by omega
  clear hT hG hS hS2
  go_enter Tryz.func5, Tryz.ntmps5
  go_wp2_with fail
  generalize (w.alloc (.cells #[.slice ad len cap, .int .i64 r] 30)).alloc (.cells #[.int .i64 k, .string (mk x), .slice qad qlen qcap] 50) = W0 at h0 ⊢
  rw [← HK2.out, ← HK0.out]
  rw [← HK2.out, ← HK0.out] at h0
  clear HK2 HK0
  refine (HLG.out _ h0).mono ?_
  rintro e w1 ⟨rfl, H1⟩
  obtain ⟨q0, q1, q2⟩ := H1.out.b.c3
  obtain ⟨c0, c1⟩ := H1.out.a.c2
  go_wp2_with (go_at_call 7; refine (HA.out _ H1.out.bl).mono ?_; rintro e w9 ⟨rfl, HZ⟩)
  go_ret
  exact ⟨rfl, HZ.out⟩
 case neg =>
 have hx3 : ¬ (2000 : Int) < (x.length : Int) := by omega
 have hx4 : ¬ 2000 < (mk x).size := by omega
 have hxm : x.length ≤ 2000 := by omega
 obtain ⟨GA, eA, HCA, HCB⟩ : ∃ (GA : Gr) (eA : Int), Hid (∀ W, Below w.heap.size w W → Calls Tryz.prog 20 #[gv ad len cap r] W (PRes W eA GA)) ∧ Hid (∀ W, Below w.heap.size w W → Calls Tryz.prog 21 #[gv ad len cap r] W (PRes W eA GA)) :=
  ⟨_, _, fun W hb => (canon_any (hG.later hb (Nat.le_refl _)) hS (hT.later hb)).mono fun e W' q => gres_of q, fun W hb => (rcan12_any (hG.later hb (Nat.le_refl _)) hS2).mono fun e W' q => gres_of q⟩
 obtain ⟨GB, eB, HSA, HSB⟩ : ∃ (GB : Gr) (eB : Int), Hid (∀ W, Below w.heap.size w W → Calls Tryz.prog 22 #[gv ad len cap r, .int .i64 at'] W (PRes W eB GB)) ∧ Hid (∀ W, Below w.heap.size w W → Calls Tryz.prog 23 #[gv ad len cap r, .int .i64 at'] W (PRes W eB GB)) :=
  ⟨_, _, fun W hb => (sub_any (hG.later hb (Nat.le_refl _)) hS (hT.later hb)).mono fun e W' q => sres_of q, fun W hb => (rsub12_any (hG.later hb (Nat.le_refl _)) hS2).mono fun e W' q => sres_of q⟩
 obtain ⟨GC, eC, HPA, HPB⟩ : ∃ (GC : Gr) (eC : Int), Hid (∀ W, Below w.heap.size w W → Calls Tryz.prog 24 #[.int .i64 k, .string (mk x)] W (PRes W eC GC)) ∧ Hid (∀ W, Below w.heap.size w W → Calls Tryz.prog 25 #[.int .i64 k, .string (mk x)] W (PRes W eC GC)) :=
  ⟨_, _, fun W hb => (gscalar_any hk (by omega) (hT.later hb)).mono fun e W' q => gres_of q, fun W hb => (rscalar12_any hk (by omega)).mono fun e W' q => gres_of q⟩
 clear hT hG hS hS2
 go_enter Tryz.func5, Tryz.ntmps5
 go_wp2_with fail
 generalize (w.alloc (.cells #[.slice ad len cap, .int .i64 r] 30)).alloc (.cells #[.int .i64 k, .string (mk x), .slice qad qlen qcap] 50) = W0 at h0 ⊢
 rw [← HK2.out, ← HK0.out]
 rw [← HK2.out, ← HK0.out] at h0
 clear HK2 HK0
 refine (HLG.out _ h0).mono ?_
 rintro e w1 ⟨rfl, H1⟩
 obtain ⟨q0, q1, q2⟩ := H1.out.b.c3
 obtain ⟨c0, c1⟩ := H1.out.a.c2
 go_upto_region 4 with (go_at_call 20; refine (HCA.out _ H1.out.bl).mono ?_; rintro e u1 ⟨a1, l1, p1, rfl, G1⟩)
 have J1 : Hid (PaS w (u1.alloc (.cells #[.slice a1 l1 p1, .int .i64 0] 30)) K0 K2 (.slice ad len cap) (.int .i64 r) (.int .i64 k) (.string (mk x)) (.slice qad qlen qcap) ((u1.heap.size, .slice a1 l1 p1, GA) :: [])) := H1.out.add G1.out.2 G1.out.1
 clear G1 c0 c1 q0 q1 q2
 generalize u1.alloc (.cells #[.slice a1 l1 p1, .int .i64 0] 30) = V1 at J1 ⊢
 generalize u1.heap.size = M1 at J1 ⊢
 obtain ⟨q0, q1, q2⟩ := J1.out.b.c3
 obtain ⟨c0, c1⟩ := J1.out.a.c2
 go_upto_region 5 with (go_at_call 21; refine (HCB.out _ J1.out.bl).mono ?_; rintro e u2 ⟨a2, l2, p2, rfl, G2⟩)
 have J2 : Hid (PaS w (u2.alloc (.cells #[.slice a2 l2 p2, .int .i64 0] 30)) K0 K2 (.slice ad len cap) (.int .i64 r) (.int .i64 k) (.string (mk x)) (.slice qad qlen qcap) ((u2.heap.size, .slice a2 l2 p2, GA) :: [(M1, .slice a1 l1 p1, GA)])) := J1.out.add G2.out.2 G2.out.1
 clear G2 c0 c1 q0 q1 q2
 generalize u2.alloc (.cells #[.slice a2 l2 p2, .int .i64 0] 30) = V2 at J2 ⊢
 generalize u2.heap.size = M2 at J2 ⊢
 obtain ⟨q0, q1, q2⟩ := J2.out.b.c3
 obtain ⟨c0, c1⟩ := J2.out.a.c2
 go_upto_region 6 with (go_at_call 22; refine (HSA.out _ J2.out.bl).mono ?_; rintro e u3 ⟨a3, l3, p3, rfl, G3⟩)
 have J3 : Hid (PaS w (u3.alloc (.cells #[.slice a3 l3 p3, .int .i64 0] 30)) K0 K2 (.slice ad len cap) (.int .i64 r) (.int .i64 k) (.string (mk x)) (.slice qad qlen qcap) ((u3.heap.size, .slice a3 l3 p3, GB) :: [(M2, .slice a2 l2 p2, GA), (M1, .slice a1 l1 p1, GA)])) := J2.out.add G3.out.2 G3.out.1
 clear G3 c0 c1 q0 q1 q2
 generalize u3.alloc (.cells #[.slice a3 l3 p3, .int .i64 0] 30) = V3 at J3 ⊢
 generalize u3.heap.size = M3 at J3 ⊢
 obtain ⟨q0, q1, q2⟩ := J3.out.b.c3
 obtain ⟨c0, c1⟩ := J3.out.a.c2
 go_upto_region 7 with (go_at_call 23; refine (HSB.out _ J3.out.bl).mono ?_; rintro e u4 ⟨a4, l4, p4, rfl, G4⟩)
 have J4 : Hid (PaS w (u4.alloc (.cells #[.slice a4 l4 p4, .int .i64 0] 30)) K0 K2 (.slice ad len cap) (.int .i64 r) (.int .i64 k) (.string (mk x)) (.slice qad qlen qcap) ((u4.heap.size, .slice a4 l4 p4, GB) :: [(M3, .slice a3 l3 p3, GB), (M2, .slice a2 l2 p2, GA), (M1, .slice a1 l1 p1, GA)])) := J3.out.add G4.out.2 G4.out.1
 clear G4 c0 c1 q0 q1 q2
 generalize u4.alloc (.cells #[.slice a4 l4 p4, .int .i64 0] 30) = V4 at J4 ⊢
 generalize u4.heap.size = M4 at J4 ⊢
 obtain ⟨q0, q1, q2⟩ := J4.out.b.c3
 obtain ⟨c0, c1⟩ := J4.out.a.c2
 go_upto_region 8 with (go_at_call 24; refine (HPA.out _ J4.out.bl).mono ?_; rintro e u5 ⟨a5, l5, p5, rfl, G5⟩)
 have J5 : Hid (PaS w (u5.alloc (.cells #[.slice a5 l5 p5, .int .i64 0] 30)) K0 K2 (.slice ad len cap) (.int .i64 r) (.int .i64 k) (.string (mk x)) (.slice qad qlen qcap) ((u5.heap.size, .slice a5 l5 p5, GC) :: [(M4, .slice a4 l4 p4, GB), (M3, .slice a3 l3 p3, GB), (M2, .slice a2 l2 p2, GA), (M1, .slice a1 l1 p1, GA)])) := J4.out.add G5.out.2 G5.out.1
 clear G5 c0 c1 q0 q1 q2
 generalize u5.alloc (.cells #[.slice a5 l5 p5, .int .i64 0] 30) = V5 at J5 ⊢
 generalize u5.heap.size = M5 at J5 ⊢
 obtain ⟨q0, q1, q2⟩ := J5.out.b.c3
 obtain ⟨c0, c1⟩ := J5.out.a.c2
 go_upto_region 9 with (go_at_call 25; refine (HPB.out _ J5.out.bl).mono ?_; rintro e u6 ⟨a6, l6, p6, rfl, G6⟩)
 have J6 : Hid (PaS w (u6.alloc (.cells #[.slice a6 l6 p6, .int .i64 0] 30)) K0 K2 (.slice ad len cap) (.int .i64 r) (.int .i64 k) (.string (mk x)) (.slice qad qlen qcap) ((u6.heap.size, .slice a6 l6 p6, GC) :: [(M5, .slice a5 l5 p5, GC), (M4, .slice a4 l4 p4, GB), (M3, .slice a3 l3 p3, GB), (M2, .slice a2 l2 p2, GA), (M1, .slice a1 l1 p1, GA)])) := J5.out.add G6.out.2 G6.out.1
 clear G6 c0 c1 q0 q1 q2
 generalize u6.alloc (.cells #[.slice a6 l6 p6, .int .i64 0] 30) = V6 at J6 ⊢
 generalize u6.heap.size = M6 at J6 ⊢
 obtain ⟨q0, q1, q2⟩ := J6.out.b.c3
 obtain ⟨c0, c1⟩ := J6.out.a.c2
 clear c0 c1 q0 q1 q2 H1
 obtain ⟨JT, hJT⟩ : ∃ JT : World → Prop, Hid (∀ w', JT w' ↔ PaS w w' K0 K2 (.slice ad len cap) (.int .i64 r) (.int .i64 k) (.string (mk x)) (.slice qad qlen qcap) [(M6, .slice a6 l6 p6, GC), (M5, .slice a5 l5 p5, GC), (M4, .slice a4 l4 p4, GB), (M3, .slice a3 l3 p3, GB), (M2, .slice a2 l2 p2, GA), (M1, .slice a1 l1 p1, GA)]) := ⟨fun w' => PaS w w' K0 K2 (.slice ad len cap) (.int .i64 r) (.int .i64 k) (.string (mk x)) (.slice qad qlen qcap) [(M6, .slice a6 l6 p6, GC), (M5, .slice a5 l5 p5, GC), (M4, .slice a4 l4 p4, GB), (M3, .slice a3 l3 p3, GB), (M2, .slice a2 l2 p2, GA), (M1, .slice a1 l1 p1, GA)], fun _ => Iff.rfl⟩
 have ce : ∀ {W'}, JT W' → W'.cell? ⟨M1, 0, none⟩ = some (.slice a1 l1 p1) ∧ W'.cell? ⟨M1, 1, none⟩ = some (.int .i64 0) ∧ W'.cell? ⟨M2, 0, none⟩ = some (.slice a2 l2 p2) ∧ W'.cell? ⟨M2, 1, none⟩ = some (.int .i64 0) ∧ W'.cell? ⟨M3, 0, none⟩ = some (.slice a3 l3 p3) ∧ W'.cell? ⟨M3, 1, none⟩ = some (.int .i64 0) ∧ W'.cell? ⟨M4, 0, none⟩ = some (.slice a4 l4 p4) ∧ W'.cell? ⟨M4, 1, none⟩ = some (.int .i64 0) ∧ W'.cell? ⟨M5, 0, none⟩ = some (.slice a5 l5 p5) ∧ W'.cell? ⟨M5, 1, none⟩ = some (.int .i64 0) ∧ W'.cell? ⟨M6, 0, none⟩ = some (.slice a6 l6 p6) ∧ W'.cell? ⟨M6, 1, none⟩ = some (.int .i64 0) := fun {W'} h => by
  have h1 := (hJT.out _).1 h
  have k1 := (h1.l (M1, .slice a1 l1 p1, GA) (by simp)).1
  have k2 := (h1.l (M2, .slice a2 l2 p2, GA) (by simp)).1
  have k3 := (h1.l (M3, .slice a3 l3 p3, GB) (by simp)).1
  have k4 := (h1.l (M4, .slice a4 l4 p4, GB) (by simp)).1
  have k5 := (h1.l (M5, .slice a5 l5 p5, GC) (by simp)).1
  have k6 := (h1.l (M6, .slice a6 l6 p6, GC) (by simp)).1
  exact ⟨k1.cell 0, k1.cell 1, k2.cell 0, k2.cell 1, k3.cell 0, k3.cell 1, k4.cell 0, k4.cell 1, k5.cell 0, k5.cell 1, k6.cell 0, k6.cell 1⟩
 obtain ⟨SS, s1, s2, s3, HS⟩ : ∃ SS : Value → Value → Prop, SS (gv a1 l1 p1 0) (gv a2 l2 p2 0) ∧ SS (gv a3 l3 p3 0) (gv a4 l4 p4 0) ∧ SS (gv a5 l5 p5 0) (gv a6 l6 p6 0) ∧ Hid (∀ W u v, SS u v → JT W → Calls Tryz.prog 10 #[u, v] W fun e W' => e = .returned (.bool true) ∧ JT W' ∧ W'.cell? ⟨M1, 0, none⟩ = some (.slice a1 l1 p1) ∧ W'.cell? ⟨M1, 1, none⟩ = some (.int .i64 0) ∧ W'.cell? ⟨M2, 0, none⟩ = some (.slice a2 l2 p2) ∧ W'.cell? ⟨M2, 1, none⟩ = some (.int .i64 0) ∧ W'.cell? ⟨M3, 0, none⟩ = some (.slice a3 l3 p3) ∧ W'.cell? ⟨M3, 1, none⟩ = some (.int .i64 0) ∧ W'.cell? ⟨M4, 0, none⟩ = some (.slice a4 l4 p4) ∧ W'.cell? ⟨M4, 1, none⟩ = some (.int .i64 0) ∧ W'.cell? ⟨M5, 0, none⟩ = some (.slice a5 l5 p5) ∧ W'.cell? ⟨M5, 1, none⟩ = some (.int .i64 0) ∧ W'.cell? ⟨M6, 0, none⟩ = some (.slice a6 l6 p6) ∧ W'.cell? ⟨M6, 1, none⟩ = some (.int .i64 0)) :=
  ⟨fun u v => ∀ W, JT W → ∃ g, GrV W u g ∧ GrV W v g, fun W h => ⟨GA, (((hJT.out _).1 h).l (M1, .slice a1 l1 p1, GA) (by simp)).2, (((hJT.out _).1 h).l (M2, .slice a2 l2 p2, GA) (by simp)).2⟩, fun W h => ⟨GB, (((hJT.out _).1 h).l (M3, .slice a3 l3 p3, GB) (by simp)).2, (((hJT.out _).1 h).l (M4, .slice a4 l4 p4, GB) (by simp)).2⟩, fun W h => ⟨GC, (((hJT.out _).1 h).l (M5, .slice a5 l5 p5, GC) (by simp)).2, (((hJT.out _).1 h).l (M6, .slice a6 l6 p6, GC) (by simp)).2⟩, fun W u v hs hj => by
   obtain ⟨g, h1, h2⟩ := hs W hj
   refine (rsame_any h1 h2).mono ?_
   rintro e W' ⟨p, rfl, h4, h5⟩
   have hp : p = true := h4.2 rfl
   subst hp
   have h7 := (hJT.out _).2 (((hJT.out _).1 hj).later h5)
   exact ⟨rfl, h7, ce h7⟩⟩
 have j6 : JT V6 := (hJT.out _).2 J6.out
 obtain ⟨d0, d1, d2, d3, d4, d5, d6, d7, d8, d9, d10, d11⟩ := ce j6
 clear ce J1 J2 J3 J4 J5 J6 HCA HCB HSA HSB HPA HPB HLG
 go_wp2_with (first | (go_at_call 10; refine (HS.out _ _ _ (by first | exact s1 | exact s2 | exact s3) (by assumption)).mono ?_; rintro e w7 ⟨rfl, j8, d0, d1, d2, d3, d4, d5, d6, d7, d8, d9, d10, d11⟩) | (go_at_call 7; refine (HA.out _ ((hJT.out _).1 (by assumption)).bl).mono ?_; rintro e w9 ⟨rfl, HZ⟩))
 go_ret
 exact ⟨rfl, HZ.out⟩
theorem parts_walk (v : Value) (g : Gr) (a : Int) (u : Value) (n : Nd) (w : World) (hg : GrV w v g) (ha : (Lit.int .i64 a).wf = true) (hn : NdV w u n) (hT : Tb w) : Calls Tryz.prog 5 #[v, .int .i64 a, u] w fun e w' => e = .returned (.bool true) ∧ Below w.heap.size w w' := by
 have hg' := hg
 obtain ⟨ad, len, cap, rfl, h1, h2, h3, h4⟩ := hg'
 obtain ⟨ad', len', cap', rfl, k1, k2, k3, k4, k5⟩ := hn
 exact parts_core hg k3 k4 hT
end Go.Proofs.YtfohbiohleekbaaGreatDoor.Grp
end
