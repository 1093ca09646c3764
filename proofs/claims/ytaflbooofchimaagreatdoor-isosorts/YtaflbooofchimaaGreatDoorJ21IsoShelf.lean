/- Several texts as one: IsoShelf, IsoEn, IsoEnt. -/
import Derived.Shelf.SlSortCmp.WholeK
import Derived.Ground.SlsfProg
import Derived.Shelf.SlicesG.Cmp
import Derived.Ground.SlgcProg
import Derived.Shelf.Small.Strs
import Derived.Test.YtaflbooofchimaaGreatDoorProg
import Derived.Test.YtaflbooofchimaaGreatDoorJ16IsoSet
import Derived.Laws.MakeOwn
section
/- slices.SortFunc, cmp.Compare, strings.Compare: the library's contracts, laid at this program. -/
namespace Go.Proofs.YtaflbooofchimaaGreatDoor.Alk
open Go.Shelf
def sortE_ren : Go.Shelf.Ren := ⟨fun | 6 => 57 | 15 => 67 | 14 => 66 | 28 => 84 | 29 => 85 | 20 => 76 | 21 => 77 | 22 => 78 | 23 => 79 | 24 => 80 | 25 => 81 | 26 => 82 | 27 => 83 | 46 => 93 | 47 => 94 | 48 => 95 | 49 => 96 | 50 => 97 | 57 => 107 | n => n, fun | 22 => 60 | 24 => 63 | 25 => 103 | 3 => 3 | 39 => 113 | 0 => 0 | 53 => 130 | 55 => 132 | 4 => 4 | 46 => 124 | 45 => 123 | 50 => 44 | 5 => 5 | 9 => 9 | 66 => 136 | 70 => 140 | 76 => 148 | 77 => 134 | n => n, fun | n => n⟩
theorem sortE : Go.Proofs.SlLaysF0.n6 Tryz.prog sortE_ren := {
  mixed := by kernel_rfl
  f6 := ⟨Tryz.f57.name, by decide, Tryz.func57.trans (congrArg some (by kernel_rfl))⟩
  f14 := ⟨Tryz.f66.name, by decide, Tryz.func66.trans (congrArg some (by kernel_rfl))⟩
  f15 := Tryz.func67.trans (congrArg some (by kernel_rfl))
  f20 := ⟨Tryz.f76.name, by decide, Tryz.func76.trans (congrArg some (by kernel_rfl))⟩
  f21 := ⟨Tryz.f77.name, by decide, Tryz.func77.trans (congrArg some (by kernel_rfl))⟩
  f22 := ⟨Tryz.f78.name, by decide, Tryz.func78.trans (congrArg some (by kernel_rfl))⟩
  f23 := ⟨Tryz.f79.name, by decide, Tryz.func79.trans (congrArg some (by kernel_rfl))⟩
  f24 := ⟨Tryz.f80.name, by decide, Tryz.func80.trans (congrArg some (by kernel_rfl))⟩
  f25 := ⟨Tryz.f81.name, by decide, Tryz.func81.trans (congrArg some (by kernel_rfl))⟩
  f26 := ⟨Tryz.f82.name, by decide, Tryz.func82.trans (congrArg some (by kernel_rfl))⟩
  f27 := ⟨Tryz.f83.name, by decide, Tryz.func83.trans (congrArg some (by kernel_rfl))⟩
  f28 := Tryz.func84.trans (congrArg some (by kernel_rfl))
  f29 := Tryz.func85.trans (congrArg some (by kernel_rfl))
  f46 := ⟨Tryz.f93.name, by decide, Tryz.func93.trans (congrArg some (by kernel_rfl))⟩
  f47 := Tryz.func94.trans (congrArg some (by kernel_rfl))
  f48 := Tryz.func95.trans (congrArg some (by kernel_rfl))
  f49 := ⟨Tryz.f96.name, by decide, Tryz.func96.trans (congrArg some (by kernel_rfl))⟩
  f50 := ⟨Tryz.f97.name, by decide, Tryz.func97.trans (congrArg some (by kernel_rfl))⟩
  f57 := ⟨Tryz.f107.name, by decide, Tryz.func107.trans (congrArg some (by kernel_rfl))⟩
  t0 := Tryz.underlying0
  a0 := Tryz.isAgg0
  z0 := Tryz.sizeOf0
  v0 := Tryz.zeroValue0
  t3 := Tryz.underlying3
  a3 := Tryz.isAgg3
  z3 := Tryz.sizeOf3
  v3 := Tryz.zeroValue3
  t4 := Tryz.underlying4
  a4 := Tryz.isAgg4
  z4 := Tryz.sizeOf4
  v4 := Tryz.zeroValue4
  t5 := Tryz.underlying5
  a5 := Tryz.isAgg5
  z5 := Tryz.sizeOf5
  v5 := Tryz.zeroValue5
  t9 := Tryz.underlying9
  a9 := Tryz.isAgg9
  z9 := Tryz.sizeOf9
  v9 := Tryz.zeroValue9
  t22 := Tryz.underlying60
  a22 := Tryz.isAgg60
  z22 := Tryz.sizeOf60
  v22 := Tryz.zeroValue60
  t25 := Tryz.underlying103
  a25 := Tryz.isAgg103
  z25 := Tryz.sizeOf103
  v25 := Tryz.zeroValue103
  t39 := Tryz.underlying113
  a39 := Tryz.isAgg113
  z39 := Tryz.sizeOf113
  v39 := Tryz.zeroValue113
  t45 := Tryz.underlying123
  a45 := Tryz.isAgg123
  z45 := Tryz.sizeOf123
  v45 := Tryz.zeroValue123
  t46 := Tryz.underlying124
  a46 := Tryz.isAgg124
  z46 := Tryz.sizeOf124
  v46 := Tryz.zeroValue124
  t50 := Tryz.underlying44
  a50 := Tryz.isAgg44
  z50 := Tryz.sizeOf44
  v50 := Tryz.zeroValue44
  t53 := Tryz.underlying130
  a53 := Tryz.isAgg130
  z53 := Tryz.sizeOf130
  v53 := Tryz.zeroValue130
  t55 := Tryz.underlying132
  a55 := Tryz.isAgg132
  z55 := Tryz.sizeOf132
  v55 := Tryz.zeroValue132
  t66 := Tryz.underlying136
  a66 := Tryz.isAgg136
  z66 := Tryz.sizeOf136
  v66 := Tryz.zeroValue136
  t70 := Tryz.underlying140
  a70 := Tryz.isAgg140
  z70 := Tryz.sizeOf140
  v70 := Tryz.zeroValue140
  t76 := Tryz.underlying148
  a76 := Tryz.isAgg148
  z76 := Tryz.sizeOf148
  v76 := Tryz.zeroValue148
  t77 := Tryz.underlying134
  a77 := Tryz.isAgg134
  z77 := Tryz.sizeOf134
  v77 := Tryz.zeroValue134 }
def cmpI_ren : Go.Shelf.Ren := ⟨fun | 5 => 68 | 7 => 86 | n => n, fun | 22 => 3 | 3 => 3 | 4 => 4 | n => n, fun | n => n⟩
theorem cmpI : Go.Proofs.SlLaysC2.n5 Tryz.prog cmpI_ren := {
  mixed := by kernel_rfl
  f5 := ⟨Tryz.f68.name, by decide, Tryz.func68.trans (congrArg some (by kernel_rfl))⟩
  f7 := ⟨Tryz.f86.name, by decide, Tryz.func86.trans (congrArg some (by kernel_rfl))⟩
  t3 := Tryz.underlying3
  a3 := Tryz.isAgg3
  z3 := Tryz.sizeOf3
  v3 := Tryz.zeroValue3
  t4 := Tryz.underlying4
  a4 := Tryz.isAgg4
  z4 := Tryz.sizeOf4
  v4 := Tryz.zeroValue4
  t22 := Tryz.underlying3
  a22 := Tryz.isAgg3
  z22 := Tryz.sizeOf3
  v22 := Tryz.zeroValue3 }
def strs_ren : Go.Shelf.Ren := ⟨fun | 106 => 69 | 213 => 87 | 265 => 98 | n => n, fun | 9 => 9 | 3 => 3 | n => n, fun | n => n⟩
theorem strs : Go.Proofs.Lays.n106 Tryz.prog strs_ren := {
  mixed := by kernel_rfl
  f106 := Tryz.func69.trans (congrArg some (by kernel_rfl))
  f213 := Tryz.func87.trans (congrArg some (by kernel_rfl))
  f265 := Tryz.func98.trans (congrArg some (by kernel_rfl))
  t3 := Tryz.underlying3
  a3 := Tryz.isAgg3
  z3 := Tryz.sizeOf3
  v3 := Tryz.zeroValue3
  t9 := Tryz.underlying9
  a9 := Tryz.isAgg9
  z9 := Tryz.sizeOf9
  v9 := Tryz.zeroValue9 }
end Go.Proofs.YtaflbooofchimaaGreatDoor.Alk
end

section
/- compareKeys, the closure over it, entriesOf, by their contracts. -/
namespace Go.Proofs.YtaflbooofchimaaGreatDoor.Alk
open Utf Rws Pln Flw Grp
open Go.RowKit Go.Shelf
set_option linter.unusedSimpArgs false
set_option linter.unusedVariables false
set_option maxRecDepth 100000
set_option maxHeartbeats 4000000
attribute [local go_sem ↓] Go.wp_at_zero Go.wp_at_succ

theorem cmpInt_any (x y : Int) (w : World) : Calls Tryz.prog 68 #[.int .i64 x, .int .i64 y] w fun e w' => e = .returned (.int .i64 (Lib.compareInt x y)) ∧ w' = w := AnyG.cmp_Compare_int cmpI x y w
theorem cmpStr_any (x y : Ln) (w : World) : Calls Tryz.prog 69 #[.string (mk x), .string (mk y)] w fun e w' => e = .returned (.int .i64 (Lib.compareBytes x y)) ∧ w' = w := by
  have h := Any.strings_Compare strs (mk x) (mk y) w
  rw [mk_data, mk_data] at h
  exact h
theorem compare_any {kx ky : Int} {x y : Ln} {ax ay : Option Addr} {lx cx ly cy : Nat} (w : World) :
    Calls Tryz.prog 59 #[nv kx x ax lx cx, nv ky y ay ly cy] w fun e w' => e = .returned (.int .i64 (cmpK (kx, x) (ky, y))) ∧ ∃ os, w' = Sort.grow w os := by
  have HI := fun w' : World => cmpInt_any kx ky w'
  have HST := fun w' : World => cmpStr_any x y w'
  by_cases h : kx = ky
  · have HE : Hid (cmpK (kx, x) (ky, y) = Lib.compareBytes x y) := by unfold cmpK; rw [if_pos h]; exact rfl
    generalize cmpK (kx, x) (ky, y) = R at *
    generalize Lib.compareBytes x y = R2 at *
    have HS2 : Hid (∀ w', Calls Tryz.prog 69 #[.string (mk x), .string (mk y)] w' fun e w'' => e = .returned (.int .i64 R2) ∧ w'' = w') := HST
    subst h
    clear HI HST
    go_enter Tryz.func59, Tryz.ntmps59
    go_wp2_with (go_at_call 69; refine (HS2.out _).mono ?_; rintro e w' ⟨rfl, rfl⟩)
    go_ret
    exact ⟨by rw [HE.out]; rfl, _, by rw [Sort.alloc_eq_grow, Sort.alloc_eq_grow, Sort.grow_grow]⟩
  · have HE : Hid (cmpK (kx, x) (ky, y) = Lib.compareInt kx ky) := by unfold cmpK; rw [if_neg h]; exact rfl
    have hne : (kx != ky) = true := by simpa using h
    generalize cmpK (kx, x) (ky, y) = R at *
    generalize Lib.compareInt kx ky = R2 at *
    have HI2 : Hid (∀ w', Calls Tryz.prog 68 #[.int .i64 kx, .int .i64 ky] w' fun e w'' => e = .returned (.int .i64 R2) ∧ w'' = w') := HI
    clear HI HST h
    go_enter Tryz.func59, Tryz.ntmps59
    go_wp2_with (go_at_call 68; refine (HI2.out _).mono ?_; rintro e w' ⟨rfl, rfl⟩)
    go_ret
    exact ⟨by rw [HE.out]; rfl, _, by rw [Sort.alloc_eq_grow, Sort.alloc_eq_grow, Sort.grow_grow]⟩
/-- the nodes that a closure reads -/
structure NdS (X : World) (Kn : Nat) (b off n cap : Nat) (ns : List Nd) : Prop where
  v : X.cell? ⟨Kn, 0, none⟩ = some (.slice (some ⟨b, off, none⟩) n cap)
  kl : Kn < X.heap.size
  bl : b < X.heap.size
  c : ∀ i, i < n → ∃ kad klen kcap, X.cell? ⟨b, off + i * 3, none⟩ = some (.int .i64 (ns.getD i nd0).kind) ∧ X.cell? ⟨b, off + i * 3 + 1, none⟩ = some (.string (mk (ns.getD i nd0).text)) ∧ X.cell? ⟨b, off + i * 3 + 2, none⟩ = some (.slice kad klen kcap)
theorem closure_any {X : World} {Kn b off n cap : Nat} {ns : List Nd} (H : NdS X Kn b off n cap ns) (hn : n ≤ 4096) {p q : Nat} (hp : p < n) (hq : q < n) (u v : Int) :
    Calls Tryz.prog 58 #[.agg #[.int .i64 (p : Int), .int .i64 u], .agg #[.int .i64 (q : Int), .int .i64 v], .pointer (some ⟨Kn, 0, none⟩)] X fun e w' => e = .returned (.int .i64 (cmpK (lab ns p) (lab ns q))) ∧ ∃ k os, w' = Sort.grow (X.drewN k) os := by
  obtain ⟨kad, klen, kcap, y0, y1, y2⟩ := H.c p hp
  obtain ⟨lad, llen, lcap, z0, z1, z2⟩ := H.c q hq
  have hv := H.v
  have hkl := H.kl
  have hbl := H.bl
  clear H
  obtain ⟨Y, HY⟩ : ∃ Y, Hid (Y = (X.alloc (.cells #[.int .i64 (p : Int), .int .i64 u] 63)).alloc (.cells #[.int .i64 (q : Int), .int .i64 v] 63)) := ⟨_, rfl⟩
  have HYB : Hid (Bx Y X.heap.size #[.int .i64 (p : Int), .int .i64 u] 63 ∧ Bx Y (X.heap.size + 1) #[.int .i64 (q : Int), .int .i64 v] 63 ∧ Below X.heap.size X Y) := by
    rw [HY.out]
    have b1 := below_alloc X (.cells #[.int .i64 (p : Int), .int .i64 u] 63)
    have s1 : (X.alloc (.cells #[.int .i64 (p : Int), .int .i64 u] 63)).heap.size = X.heap.size + 1 := World.size_alloc _ _
    have b2 := below_alloc (X.alloc (.cells #[.int .i64 (p : Int), .int .i64 u] 63)) (.cells #[.int .i64 (q : Int), .int .i64 v] 63)
    have n2 := Bx.new (X.alloc (.cells #[.int .i64 (p : Int), .int .i64 u] 63)) #[.int .i64 (q : Int), .int .i64 v] 63
    rw [s1] at n2
    exact ⟨(Bx.new X _ _).later b2, n2, b1.trans (b2.mono b1.size)⟩
  have HG : Hid (∀ os, ∃ k os', Sort.grow Y.drew os = Sort.grow (X.drewN k) os') := fun os => ⟨1, #[.cells #[.int .i64 (p : Int), .int .i64 u] 63] ++ #[.cells #[.int .i64 (q : Int), .int .i64 v] 63] ++ os, by
    rw [HY.out, Sort.alloc_eq_grow, Sort.alloc_eq_grow, Sort.grow_grow]
    show Sort.grow (Sort.grow (X.drewN 1) _) os = _
    rw [Sort.grow_grow]⟩
  obtain ⟨R, HR⟩ : ∃ R, Hid (R = cmpK (lab ns p) (lab ns q)) := ⟨_, rfl⟩
  rw [← HR.out]
  have hYs := HYB.out.2.2.size
  have t0 : Y.cell? ⟨Kn, 0, none⟩ = _ := (HYB.out.2.2.cell (p := ⟨Kn, 0, none⟩) hkl).trans hv
  have t1 : Y.cell? ⟨b, off + p * 3, none⟩ = _ := (HYB.out.2.2.cell (p := ⟨b, off + p * 3, none⟩) hbl).trans y0
  have t2 : Y.cell? ⟨b, off + p * 3 + 1, none⟩ = _ := (HYB.out.2.2.cell (p := ⟨b, off + p * 3 + 1, none⟩) hbl).trans y1
  have t3 : Y.cell? ⟨b, off + p * 3 + 2, none⟩ = _ := (HYB.out.2.2.cell (p := ⟨b, off + p * 3 + 2, none⟩) hbl).trans y2
  have t4 : Y.cell? ⟨b, off + q * 3, none⟩ = _ := (HYB.out.2.2.cell (p := ⟨b, off + q * 3, none⟩) hbl).trans z0
  have t5 : Y.cell? ⟨b, off + q * 3 + 1, none⟩ = _ := (HYB.out.2.2.cell (p := ⟨b, off + q * 3 + 1, none⟩) hbl).trans z1
  have t6 : Y.cell? ⟨b, off + q * 3 + 2, none⟩ = _ := (HYB.out.2.2.cell (p := ⟨b, off + q * 3 + 2, none⟩) hbl).trans z2
  have HRL : Hid (R = cmpK ((ns.getD p nd0).kind, (ns.getD p nd0).text) ((ns.getD q nd0).kind, (ns.getD q nd0).text)) := HR.out
  generalize ns.getD p nd0 = np at *
  generalize ns.getD q nd0 = nq at *
  obtain ⟨kp', xp, lp⟩ := np
  obtain ⟨kq', xq, lq⟩ := nq
  simp only at t1 t2 t4 t5 HRL
  have HC : Hid (Calls Tryz.prog 59 #[nv kp' xp kad klen kcap, nv kq' xq lad llen lcap] Y.drew fun e w' => e = .returned (.int .i64 R) ∧ ∃ os, w' = Sort.grow Y.drew os) := by
    rw [HRL.out]
    exact compare_any Y.drew
  have HCl : Hid (∀ (os : Array Obj) (a : Addr), a.block < Y.heap.size → (Sort.grow Y.drew os).cell? a = Y.cell? a) := fun os a ha => Sort.cell?_grow Y.drew os a ha
  have hKn : Kn < Y.heap.size := by omega
  have hb2 : b < Y.heap.size := by omega
  have i1 : (0 : Int) ≤ (p : Int) := by omega
  have i2 : (p : Int) < (n : Int) := by omega
  have i3 : (0 : Int) ≤ (q : Int) := by omega
  have i4 : (q : Int) < (n : Int) := by omega
  clear y0 y1 y2 z0 z1 z2 hv HR HRL
  go_enter Tryz.func58, Tryz.ntmps58
  go_wp2_with fail
  rw [← HY.out]
  clear HY
  have s1 : Y.cell? ⟨X.heap.size, 0, none⟩ = _ := HYB.out.1.cell 0
  have s2 : Y.cell? ⟨X.heap.size + 1, 0, none⟩ = _ := HYB.out.2.1.cell 0
  have hs1 := HYB.out.1.lt
  have hs2 := HYB.out.2.1.lt
  clear HYB hkl hbl hYs
  generalize X.heap.size + 1 = S2 at *
  generalize X.heap.size = S1 at *
  go_region_held3 (fun w' => w'.cell? ⟨Kn, 0, none⟩ = some (.slice (some ⟨b, off, none⟩) n cap) ∧ w'.cell? ⟨S1, 0, none⟩ = some (.int .i64 (p : Int)) ∧ w'.cell? ⟨S2, 0, none⟩ = some (.int .i64 (q : Int)) ∧ w'.cell? ⟨b, off + p * 3, none⟩ = some (.int .i64 kp') ∧ w'.cell? ⟨b, off + p * 3 + 1, none⟩ = some (.string (mk xp)) ∧ w'.cell? ⟨b, off + p * 3 + 2, none⟩ = some (.slice kad klen kcap) ∧ w'.cell? ⟨b, off + q * 3, none⟩ = some (.int .i64 kq') ∧ w'.cell? ⟨b, off + q * 3 + 1, none⟩ = some (.string (mk xq)) ∧ w'.cell? ⟨b, off + q * 3 + 2, none⟩ = some (.slice lad llen lcap)) (go_keep)
    (first | (go_at_call 59; refine HC.out.mono ?_; rintro e w1 ⟨rfl, os, rfl⟩; have r0 := (HCl.out os ⟨Kn, 0, none⟩ hKn).trans t0; have r1 := (HCl.out os ⟨S1, 0, none⟩ hs1).trans s1; have r2 := (HCl.out os ⟨S2, 0, none⟩ hs2).trans s2; have r3 := (HCl.out os ⟨b, off + p * 3, none⟩ hb2).trans t1; have r4 := (HCl.out os ⟨b, off + p * 3 + 1, none⟩ hb2).trans t2; have r5 := (HCl.out os ⟨b, off + p * 3 + 2, none⟩ hb2).trans t3; have r6 := (HCl.out os ⟨b, off + q * 3, none⟩ hb2).trans t4; have r7 := (HCl.out os ⟨b, off + q * 3 + 1, none⟩ hb2).trans t5; have r8 := (HCl.out os ⟨b, off + q * 3 + 2, none⟩ hb2).trans t6))
  clear r0 r1 r2 r3 r4 r5 r6 r7 r8
  go_wp2
  go_ret
  obtain ⟨k, os', e⟩ := HG.out os
  exact ⟨rfl, k, os', e⟩
end Go.Proofs.YtaflbooofchimaaGreatDoor.Alk
end

section
/- entriesOf, by its contract. -/
namespace Go.Proofs.YtaflbooofchimaaGreatDoor.Alk
open Utf Rws Pln Flw Grp
open Go.RowKit Go.Shelf
set_option linter.unusedSimpArgs false
set_option linter.unusedVariables false
set_option maxRecDepth 100000
set_option maxHeartbeats 4000000
attribute [local go_sem ↓] Go.wp_at_zero Go.wp_at_succ

theorem Tryz.infoEntry : (Tryz.prog.info? 63).map (fun i => (i.zero, i.size, i.bytes)) = some (some (.agg #[.int .i64 0, .int .i64 0]), 2, 16) := by kernel_rfl
theorem Tryz.underEntries : Tryz.prog.underlying 60 = some (.slice 63) := by kernel_rfl
/-- the first j entries are there -/
def eF (l : List Int) (j : Nat) (t : Nat) : Int := if t < 2 * j then l.getD t 0 else 0
theorem made2 (h : Nat) : madeCells #[Value.int .i64 0, .int .i64 0] h = iA (fun _ => 0) h := by
  apply Array.ext_getElem?
  intro k
  by_cases hk : k < h
  · rw [iA_get _ hk]
    simp only [madeCells, Array.getElem?_map, Array.getElem?_range, hk, if_true, Option.map_some]
    have : k % 2 = 0 ∨ k % 2 = 1 := by omega
    rcases this with e | e <;> simp [e]
  · have e2 : (iA (fun _ => 0) h)[k]? = none := by simp [iA]; omega
    rw [e2]
    simp [madeCells]
    omega
theorem eF_step (l : List Int) (j n : Nat) : ((iA (eF l j) n).setIfInBounds (2 * j) (.int .i64 (l.getD (2 * j) 0))).setIfInBounds (2 * j + 1) (.int .i64 (l.getD (2 * j + 1) 0)) = iA (eF l (j + 1)) n := by
  rw [iA_set, iA_set]
  refine iA_congr fun i _ => ?_
  unfold eF
  by_cases e1 : i = 2 * j + 1
  · rw [if_pos e1, if_pos (by omega), e1]
  · rw [if_neg e1]
    by_cases e2 : i = 2 * j
    · rw [if_pos e2, if_pos (by omega), e2]
    · rw [if_neg e2]
      by_cases e3 : i < 2 * j
      · rw [if_pos e3, if_pos (by omega)]
      · rw [if_neg e3, if_neg (by omega)]
/-- entries under way: a node's box and the row -/
structure EnS (w W : World) (Kn E : Nat) (k : Int) (x : Ln) (ad : Option Addr) (len cap : Nat) (l : List Int) (j : Nat) : Prop where
  n : Bx W Kn #[.int .i64 k, .string (mk x), .slice ad len cap] 35
  e : Bx W E (iA (eF l j) (2 * (len / 2))) 63
  bl : Below w.heap.size w W
  he : w.heap.size ≤ E
  hn : w.heap.size ≤ Kn
  ne : Kn ≠ E
theorem entriesOf_any {w : World} {k : Int} {x : Ln} {ad : Option Addr} {len cap : Nat} {l : List Int} (hI : IAt w ad len l) (hlen : len ≤ 1000000000) :
    Calls Tryz.prog 34 #[nv k x ad len cap] w fun e W' => ∃ E, e = .returned (.slice (some ⟨E, 0, none⟩) (len / 2) (len / 2)) ∧ Hid (Bx W' E (iA (eF l (len / 2)) (2 * (len / 2))) 63 ∧ w.heap.size ≤ E ∧ Below w.heap.size w W') := by
  have HI : Hid (IAt w ad len l) := hI
  obtain ⟨H, HH⟩ : ∃ H : Nat, Hid (H = len / 2) := ⟨_, rfl⟩
  have hH : H ≤ 1000000000 := by have := HH.out; omega
  have HH2 : Hid (2 * H ≤ len) := by have := HH.out; show _ ≤ _; omega
  obtain ⟨i0, hi, hz0, hz1, hz2⟩ := info_parts Tryz.infoEntry
  have hmk := fun w' : World => run_make (P := Tryz.prog) w' 60 63 i0 _ Tryz.underEntries hi hz0 .i64 .i64 (H : Int) (H : Int) (by omega) (by omega) (by rw [hz2]; omega) (by omega)
  rw [hz1] at hmk
  have hq : Int.tdiv (len : Int) 2 = (H : Int) := by
    have := HH.out
    rw [Int.tdiv_eq_ediv_of_nonneg (by omega)]
    omega
  rw [← HH.out]
  have b1 := below_alloc w (.cells #[.int .i64 k, .string (mk x), .slice ad len cap] 35)
  have n1 := Bx.new w #[.int .i64 k, .string (mk x), .slice ad len cap] 35
  have s1 : (w.alloc (.cells #[.int .i64 k, .string (mk x), .slice ad len cap] 35)).heap.size = w.heap.size + 1 := World.size_alloc _ _
  have h0 : Hid (EnS w ((w.alloc (.cells #[.int .i64 k, .string (mk x), .slice ad len cap] 35)).alloc (.cells (madeCells #[Value.int .i64 0, .int .i64 0] (H * 2)) 63)) w.heap.size (w.heap.size + 1) k x ad len cap l 0) := by
    have b2 := below_alloc (w.alloc (.cells #[.int .i64 k, .string (mk x), .slice ad len cap] 35)) (.cells (madeCells #[Value.int .i64 0, .int .i64 0] (H * 2)) 63)
    have n2 := Bx.new (w.alloc (.cells #[.int .i64 k, .string (mk x), .slice ad len cap] 35)) (madeCells #[Value.int .i64 0, .int .i64 0] (H * 2)) 63
    rw [s1] at n2
    refine ⟨n1.later b2, ?_, b1.trans (b2.mono b1.size), by omega, Nat.le_refl _, by omega⟩
    rw [← HH.out, show iA (eF l 0) (2 * H) = madeCells #[Value.int .i64 0, .int .i64 0] (H * 2) by rw [made2, Nat.mul_comm H 2]; exact iA_congr fun i _ => by unfold eF; rw [if_neg (by omega)]]
    exact n2
  clear b1 n1 s1 hI hi hz0 hz1 hz2
  go_enter Tryz.func34, Tryz.ntmps34
  go_wp2_with fail
  generalize (w.alloc (.cells #[.int .i64 k, .string (mk x), .slice ad len cap] 35)).alloc (.cells (madeCells #[Value.int .i64 0, .int .i64 0] (H * 2)) 63) = W0 at h0 ⊢
  generalize w.heap.size + 1 = E at h0 ⊢
  obtain ⟨Kn, HKn⟩ : ∃ Kn, Hid (w.heap.size = Kn) := ⟨_, rfl⟩
  have HW : Hid (∀ X j, EnS w X w.heap.size E k x ad len cap l j → EnS w X Kn E k x ad len cap l j) := fun X j h => by rw [HKn.out] at h; exact h
  have h1 : Hid (EnS w W0 Kn E k x ad len cap l 0) := HW.out _ _ h0.out
  have HKw : Kn = w.heap.size := HKn.out.symm
  rw [← HKw]
  clear HKw HW h0 hmk hq
  go_loopw [12] (fun i wr => ∃ j : Nat, j ≤ H ∧ i = .int .i64 (j : Int) ∧ Hid (EnS w wr Kn E k x ad len cap l j)) (fun i _ => H - (intOf i).toNat)
  case atStart => exact ⟨0, Nat.zero_le _, rfl, h1⟩
  case round =>
    obtain ⟨j, hj, rfl, HS⟩ := hrel
    clear h1
    by_cases hlt : j < H
    · have hl2 := HH2.out
      obtain ⟨bk, ok, rfl, hbk, hck⟩ := HI.out.2 (by omega)
      obtain ⟨p, Hp⟩ : ∃ p, Hid (p = l.getD (2 * j) 0) := ⟨_, rfl⟩
      obtain ⟨q, Hq⟩ : ∃ q, Hid (q = l.getD (2 * j + 1) 0) := ⟨_, rfl⟩
      have y0 := (HS.out.bl.cell (p := ⟨bk, ok + 2 * j, none⟩) hbk).trans (hck (2 * j) (by omega)).2
      have y1 := (HS.out.bl.cell (p := ⟨bk, ok + (2 * j + 1), none⟩) hbk).trans (hck (2 * j + 1) (by omega)).2
      rw [← Hp.out] at y0
      rw [← Hq.out] at y1
      have c2 : wr.cell? ⟨Kn, 2, none⟩ = some (.slice (some ⟨bk, ok, none⟩) len cap) := HS.out.n.cell 2
      have e0 : wr.cell? ⟨E, j * 2, none⟩ = some (.int .i64 (eF l j (j * 2))) := (HS.out.e.cell (j * 2)).trans (iA_get _ (by have := HH.out; omega))
      have e1 : wr.cell? ⟨E, j * 2 + 1, none⟩ = some (.int .i64 (eF l j (j * 2 + 1))) := (HS.out.e.cell (j * 2 + 1)).trans (iA_get _ (by have := HH.out; omega))
      have z0 := HS.out.e.fz (j * 2)
      have z1 := HS.out.e.fz (j * 2 + 1)
      have HN : Hid (EnS w ((wr.setCell ⟨E, j * 2, none⟩ (.int .i64 p)).setCell ⟨E, j * 2 + 1, none⟩ (.int .i64 q)).drew Kn E k x (some ⟨bk, ok, none⟩) len cap l (j + 1)) := by
        have h := HS.out
        refine ⟨(h.n.other h.ne _ _).other h.ne _ _, ?_, ((h.bl.setCell (p := ⟨E, j * 2, none⟩) h.he _).setCell (p := ⟨E, j * 2 + 1, none⟩) h.he _).drew, h.he, h.hn, h.ne⟩
        have := (h.e.set (j * 2) (.int .i64 p)).set (j * 2 + 1) (.int .i64 q)
        rw [Hp.out, Hq.out, Nat.mul_comm j 2, eF_step] at this
        rw [Hp.out, Hq.out, Nat.mul_comm j 2]
        exact this
      have HNE : Hid (Kn ≠ E ∧ bk ≠ E) := by
        refine ⟨HS.out.ne, ?_⟩
        have := HS.out.he
        omega
      have hkE : Kn ≠ E := HNE.out.1
      have hbE : bk ≠ E := HNE.out.2
      have i1 : (0 : Int) ≤ 2 * (j : Int) := by omega
      have i2 : 2 * (j : Int) < (len : Int) := by omega
      have i3 : (0 : Int) ≤ 2 * (j : Int) + 1 := by omega
      have i4 : 2 * (j : Int) + 1 < (len : Int) := by omega
      have i5 : (0 : Int) ≤ (j : Int) := by omega
      have i6 : (j : Int) < (H : Int) := by omega
      have g2 : ((wr.setCell ⟨E, j * 2, none⟩ (.int .i64 p)).setCell ⟨E, j * 2 + 1, none⟩ (.int .i64 q)).drew.cell? ⟨Kn, 2, none⟩ = some (.slice (some ⟨bk, ok, none⟩) len cap) := HN.out.n.cell 2
      have g0 : ((wr.setCell ⟨E, j * 2, none⟩ (.int .i64 p)).setCell ⟨E, j * 2 + 1, none⟩ (.int .i64 q)).drew.cell? ⟨bk, ok + 2 * j, none⟩ = some (.int .i64 p) := ((HN.out.bl.cell (p := ⟨bk, ok + 2 * j, none⟩) hbk).trans (hck (2 * j) (by omega)).2).trans (congrArg (fun z => some (Value.int .i64 z)) Hp.out.symm)
      have g1 : ((wr.setCell ⟨E, j * 2, none⟩ (.int .i64 p)).setCell ⟨E, j * 2 + 1, none⟩ (.int .i64 q)).drew.cell? ⟨bk, ok + (2 * j + 1), none⟩ = some (.int .i64 q) := ((HN.out.bl.cell (p := ⟨bk, ok + (2 * j + 1), none⟩) hbk).trans (hck (2 * j + 1) (by omega)).2).trans (congrArg (fun z => some (Value.int .i64 z)) Hq.out.symm)
      have hw1 : IntKind.i64.wrap (2 * (j : Int)) = 2 * (j : Int) := by
        have e : ((2 * j : Nat) : Int) = 2 * (j : Int) := by omega
        rw [← e]
        exact Utf.wrap_small (2 * j) (by omega)
      have hw2 : IntKind.i64.wrap (2 * (j : Int) + 1) = 2 * (j : Int) + 1 := by
        have e : ((2 * j + 1 : Nat) : Int) = 2 * (j : Int) + 1 := by omega
        rw [← e]
        exact Utf.wrap_small (2 * j + 1) (by omega)
      have ht1 : (2 * (j : Int)).toNat = 2 * j := by omega
      have ht2 : (2 * (j : Int) + 1).toNat = 2 * j + 1 := by omega
      clear hck HS Hp Hq
      generalize eF l j (j * 2) = o0 at e0
      generalize eF l j (j * 2 + 1) = o1 at e1
      go_wp2_with fail
      apply wp_once
      case h1 =>
        go_region_held3 (fun w' => w'.cell? ⟨Kn, 2, none⟩ = some (.slice (some ⟨bk, ok, none⟩) len cap) ∧ w'.cell? ⟨bk, ok + 2 * j, none⟩ = some (.int .i64 p) ∧ w'.cell? ⟨bk, ok + (2 * j + 1), none⟩ = some (.int .i64 q)) (go_keep) (fail)
        all_goals exact ⟨rfl, rfl, rfl⟩
      clear g0 g1 g2 e0 e1 z0 z1 c2 y0 y1 hw1 hw2 ht1 ht2
      generalize ((wr.setCell ⟨E, j * 2, none⟩ (.int .i64 p)).setCell ⟨E, j * 2 + 1, none⟩ (.int .i64 q)).drew = W2 at HN ⊢
      go_wp2
      go_roundw
      case rel => exact ⟨j + 1, by omega, by go_num, HN⟩
      case measure => simp [intOf]; omega
    · have hje : j = H := by omega
      have HF : Hid (Bx wr E (iA (eF l H) (2 * H)) 63 ∧ w.heap.size ≤ E ∧ Below w.heap.size w wr) := by
        have h := HS.out.e
        rw [hje, ← HH.out] at h
        exact ⟨h, HS.out.he, HS.out.bl⟩
      clear hje
      go_wp2
      go_ret
      exact ⟨E, rfl, HF⟩
end Go.Proofs.YtaflbooofchimaaGreatDoor.Alk
end
