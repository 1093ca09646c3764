/- Several texts as one: GraphSub, GraphSame, GraphLarge. -/
import Derived.Test.YtfohbiohleekbaaGreatDoorQGgG
import Derived.BigQuiet
import Derived.Deep.QuietTactic
import Derived.Test.YtfohbiohleekbaaGreatDoorQGgE
section
/- . -/
namespace Go.Proofs.YtfohbiohleekbaaGreatDoor.Grp
open Utf Rws Pln Flw
open Go.RowKit
set_option linter.unusedSimpArgs false
set_option linter.unusedVariables false
set_option maxRecDepth 100000
set_option maxHeartbeats 4000000
def SRes (w : World) (er : Int) (g : Gr) (e : Ending) (w' : World) : Prop := (if er = 0 then ∃ v, e = .returned (.tuple #[v, .int .i64 0]) ∧ GrP w.heap.size w' v g else e = .returned (.tuple #[gv none 0 0 0, .int .i64 er])) ∧ Below w.heap.size w w'
def sbE (ns : List Nd) (r a : Int) : Int := if rgG ⟨ns, r⟩ = true then (if isP ns.length a = true ∧ isKy ns a = false then 0 else 6) else 1
theorem sub_core {w : World} {ad : Option Addr} {len cap : Nat} {r a : Int} {ns : List Nd} (hlen : len ≤ 9223372036854775807) (hN : NAt w ad len ns) (hS : Sml ns) (hT : Tb w) :
  Calls Tryz.prog 22 #[gv ad len cap r, .int .i64 a] w (SRes w (sbE ns r a) ⟨cnN ns (odG ns a.toNat), 0⟩) := by
 have HLn : Hid (len = ns.length) := hN.1
 have h0 := CaS.new w (.slice ad len cap) (.int .i64 r)
 have HR : Hid (∀ w', Hid (CaS w w' w.heap.size (w.heap.size + 1) (.slice ad len cap) (.int .i64 r)) → Calls Tryz.prog 16 #[gv ad len cap r] w' fun e w'' => e = .returned (.bool (rgG ⟨ns, r⟩)) ∧ Hid (CaS w w'' w.heap.size (w.heap.size + 1) (.slice ad len cap) (.int .i64 r)) ∧ w''.cell? ⟨w.heap.size, 0, none⟩ = some (.slice ad len cap) ∧ w''.cell? ⟨w.heap.size, 1, none⟩ = some (.int .i64 r) ∧ w''.cell? ⟨w.heap.size + 1, 0, none⟩ = some (.slice none 0 0) ∧ w''.cell? ⟨w.heap.size + 1, 1, none⟩ = some (.int .i64 0) ∧ w''.frozen? ⟨w.heap.size + 1, 0, none⟩ = false ∧ w''.frozen? ⟨w.heap.size + 1, 1, none⟩ = false) :=
  fun w' h => (right_core hlen (hN.later h.out.bl (Nat.le_refl _)) hS (hT.later h.out.bl)).mono (fun e w'' q => ⟨q.1, h.out.later q.2, (h.out.later q.2).g.c2.1, (h.out.later q.2).g.c2.2, (h.out.later q.2).r.c2.1, (h.out.later q.2).r.c2.2, (h.out.later q.2).r.fz 0, (h.out.later q.2).r.fz 1⟩)
 have HE : ∀ (w1 : World) (er : Int), CaS w w1 w.heap.size (w.heap.size + 1) (.slice ad len cap) (.int .i64 r) → er ≠ 0 → Bx ((w1.setCell ⟨w.heap.size + 1, 0, none⟩ (.slice none 0 0)).setCell ⟨w.heap.size + 1, 1, none⟩ (.int .i64 0)) (w.heap.size + 1) #[.slice none 0 0, .int .i64 0] 30 ∧ SRes w er ⟨cnN ns (odG ns a.toNat), 0⟩ (.returned (.tuple #[gv none 0 0 0, .int .i64 er])) ((w1.setCell ⟨w.heap.size + 1, 0, none⟩ (.slice none 0 0)).setCell ⟨w.heap.size + 1, 1, none⟩ (.int .i64 0)) := fun w1 er h hne =>
  ⟨(h.r.set 0 (.slice none 0 0)).set 1 (.int .i64 0), by rw [if_neg hne], (h.bl.setCell (p := ⟨w.heap.size + 1, 0, none⟩) h.hk (.slice none 0 0)).setCell (p := ⟨w.heap.size + 1, 1, none⟩) h.hk (.int .i64 0)⟩
 have HEE : Hid (∀ (w1 : World) (er : Int), CaS w w1 w.heap.size (w.heap.size + 1) (.slice ad len cap) (.int .i64 r) → er ≠ 0 → Bx ((w1.setCell ⟨w.heap.size + 1, 0, none⟩ (.slice none 0 0)).setCell ⟨w.heap.size + 1, 1, none⟩ (.int .i64 0)) (w.heap.size + 1) #[.slice none 0 0, .int .i64 0] 30 ∧ SRes w er ⟨cnN ns (odG ns a.toNat), 0⟩ (.returned (.tuple #[gv none 0 0 0, .int .i64 er])) ((w1.setCell ⟨w.heap.size + 1, 0, none⟩ (.slice none 0 0)).setCell ⟨w.heap.size + 1, 1, none⟩ (.int .i64 0))) := HE
 clear HE
 cases hq : rgG ⟨ns, r⟩
 ·have e1 : sbE ns r a = 1 := by unfold sbE; rw [hq]; rfl
  rw [e1]
  rw [hq] at HR
  clear hS hT hN
  go_enter Tryz.func22, Tryz.ntmps22
  go_wp2_with fail
  generalize (w.alloc (.cells #[.slice ad len cap, .int .i64 r] 30)).alloc (.cells #[.slice none 0 0, .int .i64 0] 30) = W0 at h0 ⊢
  refine (HR.out _ h0).mono ?_
  rintro e w1 ⟨rfl, H1, c0, c1, d0, d1, z0, z1⟩
  have HB := HEE.out w1 1 H1.out (by decide)
  have HB2 : Hid (_ ∧ _) := HB
  clear HB h0 HR HEE
  go_wp2
  generalize (w1.setCell ⟨w.heap.size + 1, 0, none⟩ (.slice none 0 0)).setCell ⟨w.heap.size + 1, 1, none⟩ (.int .i64 0) = W9 at HB2 ⊢
  have g0 : W9.cell? ⟨w.heap.size + 1, 0, none⟩ = some (.slice none 0 0) := HB2.out.1.cell 0
  have g1 : W9.cell? ⟨w.heap.size + 1, 1, none⟩ = some (.int .i64 0) := HB2.out.1.cell 1
  exact bodyPost_ret (v := .tuple #[gv none 0 0 0, .int .i64 1]) (by simp [results, Tryz.results22, go_sem, g0, g1]) rfl HB2.out.2
 obtain ⟨f1, f2, f3⟩ := rgG_facts hq
 rw [← HLn.out] at f1 f2 f3
 have hsum := (hS (by have := HLn.out; omega)).2
 rw [hq] at HR
 have HP : Hid (∀ w', Hid (CaS w w' w.heap.size (w.heap.size + 1) (.slice ad len cap) (.int .i64 r)) → Calls Tryz.prog 33 #[gv ad len cap r, .int .i64 a] w' fun e w'' => e = .returned (.bool (isP len a)) ∧ Hid (CaS w w'' w.heap.size (w.heap.size + 1) (.slice ad len cap) (.int .i64 r)) ∧ w''.cell? ⟨w.heap.size, 0, none⟩ = some (.slice ad len cap) ∧ w''.cell? ⟨w.heap.size, 1, none⟩ = some (.int .i64 r) ∧ w''.cell? ⟨w.heap.size + 1, 0, none⟩ = some (.slice none 0 0) ∧ w''.cell? ⟨w.heap.size + 1, 1, none⟩ = some (.int .i64 0) ∧ w''.frozen? ⟨w.heap.size + 1, 0, none⟩ = false ∧ w''.frozen? ⟨w.heap.size + 1, 1, none⟩ = false) :=
  fun w' h => (isPlace_any hlen).mono (fun e w'' q => ⟨q.1, h.out.later q.2, (h.out.later q.2).g.c2.1, (h.out.later q.2).g.c2.2, (h.out.later q.2).r.c2.1, (h.out.later q.2).r.c2.2, (h.out.later q.2).r.fz 0, (h.out.later q.2).r.fz 1⟩)
 have HK : Hid (∀ w', Hid (CaS w w' w.heap.size (w.heap.size + 1) (.slice ad len cap) (.int .i64 r)) → Calls Tryz.prog 44 #[gv ad len cap r, .int .i64 a] w' fun e w'' => e = .returned (.bool (isKy ns a)) ∧ Hid (CaS w w'' w.heap.size (w.heap.size + 1) (.slice ad len cap) (.int .i64 r)) ∧ w''.cell? ⟨w.heap.size, 0, none⟩ = some (.slice ad len cap) ∧ w''.cell? ⟨w.heap.size, 1, none⟩ = some (.int .i64 r) ∧ w''.cell? ⟨w.heap.size + 1, 0, none⟩ = some (.slice none 0 0) ∧ w''.cell? ⟨w.heap.size + 1, 1, none⟩ = some (.int .i64 0) ∧ w''.frozen? ⟨w.heap.size + 1, 0, none⟩ = false ∧ w''.frozen? ⟨w.heap.size + 1, 1, none⟩ = false) :=
  fun w' h => (isKey_any hlen (hN.later h.out.bl (Nat.le_refl _))).mono (fun e w'' q => ⟨q.1, h.out.later q.2, (h.out.later q.2).g.c2.1, (h.out.later q.2).g.c2.2, (h.out.later q.2).r.c2.1, (h.out.later q.2).r.c2.2, (h.out.later q.2).r.fz 0, (h.out.later q.2).r.fz 1⟩)
 cases hp : isP len a
 case' false =>
  have e1 : sbE ns r a = 6 := by unfold sbE; rw [hq, ← HLn.out, hp]; rfl
  rw [e1]
  rw [hp] at HP
  clear hS hT hN f1 f2 f3 hsum
  go_enter Tryz.func22, Tryz.ntmps22
  go_wp2_with fail
  generalize (w.alloc (.cells #[.slice ad len cap, .int .i64 r] 30)).alloc (.cells #[.slice none 0 0, .int .i64 0] 30) = W0 at h0 ⊢
  refine (HR.out _ h0).mono ?_
  rintro e w1 ⟨rfl, H1, c0, c1, d0, d1, z0, z1⟩
  go_wp2_with (go_at_call 33; refine (HP.out _ H1).mono ?_; rintro e w2 ⟨rfl, H2, c0, c1, d0, d1, z0, z1⟩)
  have HB := HEE.out w2 6 H2.out (by decide)
  have HB2 : Hid (_ ∧ _) := HB
  generalize (w2.setCell ⟨w.heap.size + 1, 0, none⟩ (.slice none 0 0)).setCell ⟨w.heap.size + 1, 1, none⟩ (.int .i64 0) = W9 at HB2 ⊢
  have g0 : W9.cell? ⟨w.heap.size + 1, 0, none⟩ = some (.slice none 0 0) := HB2.out.1.cell 0
  have g1 : W9.cell? ⟨w.heap.size + 1, 1, none⟩ = some (.int .i64 0) := HB2.out.1.cell 1
  exact bodyPost_ret (v := .tuple #[gv none 0 0 0, .int .i64 6]) (by simp [results, Tryz.results22, go_sem, g0, g1]) rfl HB2.out.2
 rw [hp] at HP
 cases hk : isKy ns a
 case' true =>
  have e1 : sbE ns r a = 6 := by unfold sbE; rw [hq, hk]; simp
  rw [e1]
  rw [hk] at HK
  clear hS hT hN f1 f2 f3 hsum
  go_enter Tryz.func22, Tryz.ntmps22
  go_wp2_with fail
  generalize (w.alloc (.cells #[.slice ad len cap, .int .i64 r] 30)).alloc (.cells #[.slice none 0 0, .int .i64 0] 30) = W0 at h0 ⊢
  refine (HR.out _ h0).mono ?_
  rintro e w1 ⟨rfl, H1, c0, c1, d0, d1, z0, z1⟩
  go_wp2_with (first | (go_at_call 33; refine (HP.out _ H1).mono ?_; rintro e w2 ⟨rfl, H2, c0, c1, d0, d1, z0, z1⟩) | (go_at_call 44; refine (HK.out _ H2).mono ?_; rintro e w3 ⟨rfl, H3, c0, c1, d0, d1, z0, z1⟩))
  have HB := HEE.out w3 6 H3.out (by decide)
  have HB2 : Hid (_ ∧ _) := HB
  generalize (w3.setCell ⟨w.heap.size + 1, 0, none⟩ (.slice none 0 0)).setCell ⟨w.heap.size + 1, 1, none⟩ (.int .i64 0) = W9 at HB2 ⊢
  have g0 : W9.cell? ⟨w.heap.size + 1, 0, none⟩ = some (.slice none 0 0) := HB2.out.1.cell 0
  have g1 : W9.cell? ⟨w.heap.size + 1, 1, none⟩ = some (.int .i64 0) := HB2.out.1.cell 1
  exact bodyPost_ret (v := .tuple #[gv none 0 0 0, .int .i64 6]) (by simp [results, Tryz.results22, go_sem, g0, g1]) rfl HB2.out.2
 have e1 : sbE ns r a = 0 := by unfold sbE; rw [hq, if_pos rfl, if_pos ⟨by rw [← HLn.out]; exact hp, hk⟩]
 rw [e1]
 rw [hk] at HK
 obtain ⟨m, rfl, hm⟩ := isP_nat hp
 rw [Int.toNat_natCast] at *
 have HW : Hid (∀ w', Hid (CaS w w' w.heap.size (w.heap.size + 1) (.slice ad len cap) (.int .i64 r)) → Calls Tryz.prog 31 #[gv ad len cap (m : Int)] w' fun e w'' => ∃ K C, e = .returned (.pointer (some ⟨K, 0, none⟩)) ∧ Hid (WkS w' w'' K C (.slice ad len cap) len (odG ns m) (dpG ns m)) ∧ Hid (CaS w w'' w.heap.size (w.heap.size + 1) (.slice ad len cap) (.int .i64 r))) :=
  fun w' h => walk_graph f1 (hN.later h.out.bl (Nat.le_refl _)) hm f3 hsum (fun K C w'' hw => ⟨K, C, rfl, hw, h.out.later hw.bl⟩)
 have HG : Hid (∀ w' w'' K C, Hid (CaS w w' w.heap.size (w.heap.size + 1) (.slice ad len cap) (.int .i64 r)) → Hid (WkS w' w'' K C (.slice ad len cap) len (odG ns m) (dpG ns m)) → Hid (CaS w w'' w.heap.size (w.heap.size + 1) (.slice ad len cap) (.int .i64 r)) → Calls Tryz.prog 42 #[.pointer (some ⟨K, 0, none⟩)] w'' fun e w3 => ∃ ad' len' cap', e = .returned (gv ad' len' cap' 0) ∧ Hid (GrP (w.heap.size + 1 + 1) w3 (gv ad' len' cap' 0) ⟨cnN ns (odG ns m), 0⟩) ∧ Hid (CaS w w3 w.heap.size (w.heap.size + 1) (.slice ad len cap) (.int .i64 r)) ∧ w3.cell? ⟨w.heap.size + 1, 0, none⟩ = some (.slice none 0 0) ∧ w3.cell? ⟨w.heap.size + 1, 1, none⟩ = some (.int .i64 0) ∧ w3.frozen? ⟨w.heap.size + 1, 0, none⟩ = false ∧ w3.frozen? ⟨w.heap.size + 1, 1, none⟩ = false) :=
  fun w' w'' K C h hw h2 => (graph_of f1 (hN.later h.out.bl (Nat.le_refl _)) hm f3 hsum hw.out).mono (fun e w3 ⟨⟨ad', len', cap', he, hg⟩, hb⟩ => ⟨ad', len', cap', he, hg.mono (by have := h2.out.r.lt; omega), h2.out.later hb, (h2.out.later hb).r.c2.1, (h2.out.later hb).r.c2.2, (h2.out.later hb).r.fz 0, (h2.out.later hb).r.fz 1⟩)
 clear hS hT f1 f2 f3 hsum hN HEE
 go_enter Tryz.func22, Tryz.ntmps22
 go_wp2_with fail
 generalize (w.alloc (.cells #[.slice ad len cap, .int .i64 r] 30)).alloc (.cells #[.slice none 0 0, .int .i64 0] 30) = W0 at h0 ⊢
 refine (HR.out _ h0).mono ?_
 rintro e w1 ⟨rfl, H1, c0, c1, d0, d1, z0, z1⟩
 go_wp2_with (first | (go_at_call 33; refine (HP.out _ H1).mono ?_; rintro e w2 ⟨rfl, H2, c0, c1, d0, d1, z0, z1⟩) | (go_at_call 44; refine (HK.out _ H2).mono ?_; rintro e w3 ⟨rfl, H3, c0, c1, d0, d1, z0, z1⟩) | (go_at_call 31; refine (HW.out _ H3).mono ?_; rintro e w4 ⟨K, C, rfl, H4, H5⟩) | (go_at_call 42; refine (HG.out _ _ _ _ H3 H4 H5).mono ?_; rintro e w5 ⟨ad', len', cap', rfl, H6, H7, d0, d1, z0, z1⟩))
 have HB : Hid (_ ∧ _ ∧ _) := ⟨(H7.out.r.set 0 (.slice ad' len' cap')).set 1 (.int .i64 0), (H7.out.bl.setCell (p := ⟨w.heap.size + 1, 0, none⟩) H7.out.hk (.slice ad' len' cap')).setCell (p := ⟨w.heap.size + 1, 1, none⟩) H7.out.hk (.int .i64 0), (H6.out.set (i := 0) (u := .slice ad' len' cap') (K := w.heap.size + 1) (by omega)).set (i := 1) (u := .int .i64 0) (K := w.heap.size + 1) (by omega)⟩
 generalize (w5.setCell ⟨w.heap.size + 1, 0, none⟩ (.slice ad' len' cap')).setCell ⟨w.heap.size + 1, 1, none⟩ (.int .i64 0) = W9 at HB ⊢
 have g0 : W9.cell? ⟨w.heap.size + 1, 0, none⟩ = some (.slice ad' len' cap') := HB.out.1.cell 0
 have g1 : W9.cell? ⟨w.heap.size + 1, 1, none⟩ = some (.int .i64 0) := HB.out.1.cell 1
 refine bodyPost_ret (v := .tuple #[gv ad' len' cap' 0, .int .i64 0]) (by simp [results, Tryz.results22, go_sem, g0, g1]) rfl ?_
 exact ⟨by rw [if_pos rfl]; exact ⟨_, rfl, HB.out.2.2.mono (by omega)⟩, HB.out.2.1⟩
theorem sub_any {w : World} {v : Value} {g : Gr} {a : Int} (h : GrV w v g) (hS : Sml g.nodes) (hT : Tb w) : Calls Tryz.prog 22 #[v, .int .i64 a] w (SRes w (sbE g.nodes g.root a) ⟨cnN g.nodes (odG g.nodes a.toNat), 0⟩) := by
 obtain ⟨ad, len, cap, rfl, h1, h2, h3, h4⟩ := h
 have : maxLen = 9223372036854775807 := rfl
 exact sub_core (by omega) h4 hS hT
end Go.Proofs.YtfohbiohleekbaaGreatDoor.Grp
end

section
/- . -/
namespace Go.Proofs.YtfohbiohleekbaaGreatDoor.Grp
open Utf Rws Pln Flw
open Go.RowKit
set_option linter.unusedSimpArgs false
set_option linter.unusedVariables false
set_option maxRecDepth 100000
set_option maxHeartbeats 4000000
structure G2 (w W : World) (K0 K1 : Nat) (g0 g1 h0 h1 : Value) : Prop where
 g : Bx W K0 #[g0, g1] 30
 h : Bx W K1 #[h0, h1] 30
 bl : Below w.heap.size w W
theorem G2.later {w W W' : World} {K0 K1 : Nat} {g0 g1 h0 h1 : Value} (h : G2 w W K0 K1 g0 g1 h0 h1) (hb : Below W.heap.size W W') : G2 w W' K0 K1 g0 g1 h0 h1 := ⟨h.g.later hb, h.h.later hb, h.bl.trans (hb.mono h.bl.size)⟩
structure G4 (w W : World) (K0 K1 L0 L1 : Nat) (g0 g1 h0 h1 : Value) (n m : Array Value) : Prop where
 g : G2 w W K0 K1 g0 g1 h0 h1
 n : Bx W L0 n 50
 m : Bx W L1 m 50
theorem G2.two {w W : World} {K0 K1 : Nat} {g0 g1 h0 h1 : Value} (h : G2 w W K0 K1 g0 g1 h0 h1) (n m : Array Value) : Bx ((W.alloc (.cells n 50)).alloc (.cells m 50)).drew W.heap.size n 50 ∧ Bx ((W.alloc (.cells n 50)).alloc (.cells m 50)).drew (W.heap.size + 1) m 50 ∧ G2 w ((W.alloc (.cells n 50)).alloc (.cells m 50)).drew K0 K1 g0 g1 h0 h1 := by
 have b1 := below_alloc W (.cells n 50)
 have n1 := Bx.new W n 50
 have s1 : (W.alloc (.cells n 50)).heap.size = W.heap.size + 1 := World.size_alloc _ _
 have h1 := h.later b1
 generalize W.alloc (.cells n 50) = w1 at *
 have b2 := below_alloc w1 (.cells m 50)
 have n2 := Bx.new w1 m 50
 rw [s1] at n2
 have h2 := h1.later b2
 have n1 := n1.later b2
 exact ⟨n1, n2, ⟨h2.g, h2.h, h2.bl.drew⟩⟩
end Go.Proofs.YtfohbiohleekbaaGreatDoor.Grp
end

section
/- . -/
namespace Go.Proofs.YtfohbiohleekbaaGreatDoor.Grp
open Utf Rws Pln Flw
open Go.RowKit
set_option linter.unusedSimpArgs false
set_option linter.unusedVariables false
set_option maxRecDepth 100000
set_option maxHeartbeats 4000000
def szN (n : Nd) : Nat := min n.kids.length 2000 + min n.text.length 2000
def sm (ns : List Nd) : Nat := (ns.map szN).sum
def lgB (ns : List Nd) : Bool := (decide (300 < ns.length) && decide (ns.length ≤ 4096)) || decide (1500 < sm (ns.take 300))
theorem sm_snoc (ns : List Nd) (j : Nat) (h : j < ns.length) : sm (ns.take (j + 1)) = sm (ns.take j) + szN (ns.getD j nd0) := by
 rw [List.take_succ_eq_append_getElem h, List.getD_eq_getElem?_getD, List.getElem?_eq_getElem h, sm, List.map_append, List.sum_append]
 show _ + (szN ns[j] + 0) = _
 rfl
theorem sm_le (ns : List Nd) : sm ns ≤ ns.length * 4000 := by
 induction ns with
 | nil => simp [sm]
 | cons n t ih =>
  have e : sm (n :: t) = szN n + sm t := by simp [sm]
  have : szN n ≤ 4000 := by unfold szN; omega
  rw [e, List.length_cons]
  omega
theorem sm_mem {ns : List Nd} {n : Nd} (h : n ∈ ns) : szN n ≤ sm ns := by
 induction ns with
 | nil => cases h
 | cons m t ih =>
  have e : sm (m :: t) = szN m + sm t := by simp [sm]
  rcases List.mem_cons.1 h with rfl | h
  ·omega
  ·have := ih h; omega
theorem sumK_sm {ns : List Nd} (h : ∀ n ∈ ns, n.kids.length < 2000) : sumK ns ≤ sm ns := by
 induction ns with
 | nil => simp [sumK, sm]
 | cons m t ih =>
  have e : sm (m :: t) = szN m + sm t := by simp [sm]
  have e2 : sumK (m :: t) = m.kids.length + sumK t := by simp [sumK]
  have h1 := ih (fun n hn => h n (List.mem_cons_of_mem _ hn))
  have h2 := h m (by simp)
  have h3 : m.kids.length ≤ szN m := by unfold szN; omega
  omega
theorem lgB_sml {ns : List Nd} (h : lgB ns = false) : Sml ns := by
 intro hl
 unfold lgB at h
 rw [Bool.or_eq_false_iff, Bool.and_eq_false_iff, decide_eq_false_iff_not, decide_eq_false_iff_not, decide_eq_false_iff_not] at h
 have h3 : ns.length ≤ 300 := by omega
 rw [List.take_of_length_le h3] at h
 have hb : ∀ n ∈ ns, n.text.length ≤ 1500 ∧ n.kids.length ≤ 1500 := fun n hn => by
  have := sm_mem hn
  unfold szN at this
  omega
 refine ⟨fun n hn => by have := (hb n hn).1; omega, ?_⟩
 have := sumK_sm (fun n hn => by have := (hb n hn).2; omega : ∀ n ∈ ns, n.kids.length < 2000)
 omega
theorem large_core {w : World} {ad : Option Addr} {len cap : Nat} {r : Int} {ns : List Nd} (hN : NAt w ad len ns) (hc : len ≤ cap) (hm : cap ≤ maxLen) :
  Calls Tryz.prog 11 #[gv ad len cap r] w fun e w' => e = .returned (.bool (lgB ns)) ∧ Below w.heap.size w w' := by
 have HLn : Hid (len = ns.length) := hN.1
 have HN : Hid (NAt w ad len ns) := hN
 have hcm : cap ≤ 9223372036854775807 := hm
 have h0 : RS w (w.alloc (.cells #[.slice ad len cap, .int .i64 r] 30)) w.heap.size (.slice ad len cap) (.int .i64 r) := ⟨Bx.new _ _ _, below_alloc _ _⟩
 obtain ⟨q, HQ⟩ : ∃ q, Hid (q = lgB ns) := ⟨_, rfl⟩
 rw [← HQ.out]
 clear hN hm
 go_enter Tryz.func11, Tryz.ntmps11
 go_upto_region 2 with fail
 generalize w.alloc (.cells #[.slice ad len cap, .int .i64 r] 30) = W0 at h0 ⊢
 generalize w.heap.size = K0 at h0 ⊢
 obtain ⟨c0, c1⟩ := h0.g.c2
 go_wp2_with fail
 obtain ⟨M, HM⟩ : ∃ M : Nat, Hid (M = min len 300) := ⟨_, rfl⟩
 rw [show max (min (len : Int) 300) 0 = (M : Int) by have := HM.out; omega, show (min (len : Int) 300).toNat = M by have := HM.out; omega, show min (len : Int) 300 = (M : Int) by have := HM.out; omega]
 clear c0 c1
 have hM3 : M ≤ 300 := by have := HM.out; omega
 have hMl : M ≤ len := by have := HM.out; omega
 go_loopw [3, 14] (fun n i wr => ∃ j : Nat, j ≤ M ∧ i = .int .i64 j ∧ n = .int .i64 (sm (ns.take j) : Int) ∧ Hid (RS w wr K0 (.slice ad len cap) (.int .i64 r))) (fun _ i _ => M - (intOf i).toNat)
 case atStart => exact ⟨0, Nat.zero_le _, rfl, rfl, h0⟩
 case round =>
  obtain ⟨j, hj, rfl, rfl, HS⟩ := hrel
  clear h0
  have hsm : sm (ns.take j) ≤ 1200000 := by
   have h1 := sm_le (ns.take j)
   have h2 : (ns.take j).length ≤ j := List.length_take_le _ _
   omega
  by_cases hlt : j < M
  ·have hjl : j < ns.length := by have := HLn.out; omega
   obtain ⟨b, off, rfl, hb, hcc⟩ := HN.out.2 (by omega)
   obtain ⟨kad, klen, kcap, hk1, hk2, _, hx, hI, y0, y1, y2⟩ := hcc j (by omega)
   have HSM := sm_snoc ns j hjl
   generalize ns.getD j nd0 = nd at *
   obtain ⟨nk, nx, nl⟩ := nd
   simp only at y0 y1 y2 hI hx
   have HSM2 : Hid (((sm (ns.take (j + 1)) : Nat) : Int) = (sm (ns.take j) : Int) + (min (klen : Int) 2000 + min (nx.length : Int) 2000)) := by
    show _ = _
    rw [HSM]
    unfold szN
    simp only
    rw [← hI.1]
    omega
   have x0 := (HS.out.bl.cell (p := ⟨b, off + j * 3, none⟩) hb).trans y0
   have x1 := (HS.out.bl.cell (p := ⟨b, off + j * 3 + 1, none⟩) hb).trans y1
   have x2 := (HS.out.bl.cell (p := ⟨b, off + j * 3 + 2, none⟩) hb).trans y2
   have hmk : (mk nx).size = nx.length := mk_size nx
   have HNN : Hid (RN w (wr.alloc (.cells #[.int .i64 nk, .string (mk nx), .slice kad klen kcap] 50)) K0 wr.heap.size (.slice (some ⟨b, off, none⟩) len cap) (.int .i64 r) (.int .i64 nk) (.string (mk nx)) (.slice kad klen kcap)) := ⟨HS.out.later (below_alloc _ _), Bx.new _ _ _⟩
   clear hcc y0 y1 y2 hI HSM HS hk1 hk2
   generalize sm (ns.take j) = S at *
   go_upto_region 5 with fail
   generalize wr.alloc (.cells #[.int .i64 nk, .string (mk nx), .slice kad klen kcap] 50) = W1 at HNN ⊢
   generalize wr.heap.size = KK at HNN ⊢
   obtain ⟨d0, d1, d2⟩ := HNN.out.n.c3
   clear x0 x1 x2
   go_wp2
   go_roundw
   case rel => exact ⟨j + 1, by omega, by go_num, by rw [HSM2.out], HNN.out.s⟩
   case measure => simp [intOf]; omega
  ·obtain rfl : j = M := by omega
   have HT : Hid (ns.take j = ns.take 300) := by
    show _ = _
    rcases Nat.lt_or_ge len 300 with h | h
    ·have e : j = len := by have := HM.out; omega
     rw [List.take_of_length_le (by have := HLn.out; omega), List.take_of_length_le (by have := HLn.out; omega)]
    ·have e : j = 300 := by have := HM.out; omega
     rw [e]
   have HQ2 : Hid (q = ((decide (300 < len) && decide (len ≤ 4096)) || decide (1500 < sm (ns.take j)))) := by
    show _ = _
    rw [HQ.out, HT.out, HLn.out]; rfl
   obtain ⟨c0, c1⟩ := HS.out.g.c2
   clear HQ HT
   generalize sm (ns.take j) = S at *
   by_cases h1 : 300 < len
   ·have h1' : (300 : Int) < (len : Int) := by omega
    by_cases h2 : len ≤ 4096
    ·have h2' : (len : Int) ≤ 4096 := by omega
     go_wp2
     go_ret
     exact ⟨by rw [HQ2.out, decide_eq_true h1, decide_eq_true h2]; rfl, HS.out.bl⟩
    ·have h2' : ¬ (len : Int) ≤ 4096 := by omega
     by_cases h3 : 1500 < S
     ·have h3' : (1500 : Int) < (S : Int) := by omega
      go_wp2
      go_ret
      exact ⟨by rw [HQ2.out, decide_eq_true h3, Bool.or_true]; rfl, HS.out.bl⟩
     ·have h3' : ¬ (1500 : Int) < (S : Int) := by omega
      go_wp2
      go_ret
      exact ⟨by rw [HQ2.out, decide_eq_false h2, decide_eq_false h3, Bool.and_false]; rfl, HS.out.bl⟩
   ·have h1' : ¬ (300 : Int) < (len : Int) := by omega
    by_cases h3 : 1500 < S
    ·have h3' : (1500 : Int) < (S : Int) := by omega
     go_wp2
     go_ret
     exact ⟨by rw [HQ2.out, decide_eq_true h3, Bool.or_true]; rfl, HS.out.bl⟩
    ·have h3' : ¬ (1500 : Int) < (S : Int) := by omega
     go_wp2
     go_ret
     exact ⟨by rw [HQ2.out, decide_eq_false h1, decide_eq_false h3]; rfl, HS.out.bl⟩
theorem large_any {w : World} {v : Value} {g : Gr} (h : GrV w v g) : Calls Tryz.prog 11 #[v] w fun e w' => e = .returned (.bool (lgB g.nodes)) ∧ Below w.heap.size w w' := by
 obtain ⟨ad, len, cap, rfl, h1, h2, h3, h4⟩ := h
 exact large_core h4 h1 h2
end Go.Proofs.YtfohbiohleekbaaGreatDoor.Grp
end
