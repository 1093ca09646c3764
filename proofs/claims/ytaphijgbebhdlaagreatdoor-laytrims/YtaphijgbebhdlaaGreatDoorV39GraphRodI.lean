/- Several texts as one: GraphRodI, LayRsz. -/
import Derived.Test.YtaphijgbebhdlaaGreatDoorV33GraphRwk0
import Derived.Test.YtaphijgbebhdlaaGreatDoorV38GraphRrgt
import Derived.BigQuiet
import Derived.Deep.QuietTactic
import Derived.Test.YtaphijgbebhdlaaGreatDoorV19LaySz
import Derived.Deep.RegionHeld3
section
/- The document's Order and Depth, of layer 12, by their contracts. -/
namespace Go.Proofs.YtaphijgbebhdlaaGreatDoor.Grp
open Utf Rws Pln Flw
open Go.RowKit Go.Shelf Go.Maps
set_option linter.unusedSimpArgs false
set_option linter.unusedVariables false
set_option maxRecDepth 100000
set_option maxHeartbeats 4000000

/-- the walk in an order's words -/
theorem walk_iat {w : World} {ad : Option Addr} {len cap m : Nat} {r0 : Int} {ns : List Nd} (hlen : len ≤ 4096) (hN : NAt w ad len ns) (hks : ∀ n ∈ ns, ∀ a ∈ n.kids, isP len a = true) (hsum : sumK ns ≤ 1000000000) (hm : m < len) :
    Calls Tryz.prog 35 #[gv ad len cap r0, .int .i64 (m : Int)] w fun e w' => ∃ oa oc, e = .returned (.tuple #[.slice oa (odG ns m).length oc, .int .i64 (dpG ns m : Int)]) ∧ Hid (IAtB w.heap.size w' oa (odG ns m).length (nI (odG ns m)) ∧ (odG ns m).length ≤ oc ∧ oc ≤ maxLen) ∧ Hid ((odG ns m).length ≤ 5000) ∧ Hid (Below w.heap.size w w') := by
  refine (walk_core hlen hN hks hsum hm).mono ?_
  rintro e w1 ⟨oa, oc, rfl, h1, h2⟩
  have hl : ∀ a ∈ odG ns m, a < len := fun a ha => by
    rw [hN.1]
    exact odG_lt (by rw [← hN.1]; exact hks) (by rw [← hN.1]; exact hm) a ha
  refine ⟨oa, oc, rfl, iat_own h1.out (fun a ha => ?_), ?_, h2⟩
  · obtain ⟨x, hx, rfl⟩ := List.mem_map.1 ha
    have := hl x hx
    constructor <;> omega
  · have := len_le (odG_nd ns m) hl
    show _ ≤ _
    omega
theorem rorder12_core {w : World} {ad : Option Addr} {len cap : Nat} {r : Int} {ns : List Nd} (hlen : len ≤ 9223372036854775807) (hN : NAt w ad len ns) (hS : Sm2 ns) :
    Calls Tryz.prog 21 #[gv ad len cap r] w (ORes w (rgG ⟨ns, r⟩) (odG ns r.toNat)) := by
  have HLn : Hid (len = ns.length) := hN.1
  have h0 : RS w (w.alloc (.cells #[.slice ad len cap, .int .i64 r] 24)) w.heap.size (.slice ad len cap) (.int .i64 r) := ⟨Bx.new _ _ _, below_alloc _ _⟩
  have HR : Hid (∀ w', Hid (RS w w' w.heap.size (.slice ad len cap) (.int .i64 r)) → Calls Tryz.prog 34 #[gv ad len cap r] w' fun e w'' => e = .returned (.bool (rgG ⟨ns, r⟩)) ∧ Hid (RS w w'' w.heap.size (.slice ad len cap) (.int .i64 r))) :=
    fun w' h => (rright12_core hlen (hN.later h.out.bl (Nat.le_refl _)) hS).mono (fun e w'' q => ⟨q.1, h.out.later q.2⟩)
  cases hq : rgG ⟨ns, r⟩
  · rw [hq] at HR
    go_enter Tryz.func21, Tryz.ntmps21
    go_wp2_with fail
    generalize w.alloc (.cells #[.slice ad len cap, .int .i64 r] 24) = W0 at h0 ⊢
    refine (HR.out _ h0).mono ?_
    rintro e w1 ⟨rfl, H1⟩
    clear HR hS hN h0
    go_wp2
    go_ret2
    exact ⟨by rw [if_neg (by decide)]; rfl, H1.out.bl⟩
  · obtain ⟨f1, f2, f3⟩ := rgG_facts hq
    rw [← HLn.out] at f1 f2 f3
    obtain ⟨m, rfl, hm⟩ := isP_nat f2
    have hsum := (hS (by have := HLn.out; omega)).2
    rw [Int.toNat_natCast]
    rw [hq] at HR
    have HW : Hid (∀ w', Hid (RS w w' w.heap.size (.slice ad len cap) (.int .i64 (m : Int))) → Calls Tryz.prog 35 #[gv ad len cap (m : Int), .int .i64 (m : Int)] w' fun e w'' => ∃ oa oc, e = .returned (.tuple #[.slice oa (odG ns m).length oc, .int .i64 (dpG ns m : Int)]) ∧ Hid (IAt w'' oa (odG ns m).length (nI (odG ns m)) ∧ (odG ns m).length ≤ 5000 ∧ Below w.heap.size w w'')) :=
      fun w' h => (walk_iat f1 (hN.later h.out.bl (Nat.le_refl _)) f3 hsum hm).mono (fun e w'' q => by
        obtain ⟨oa, oc, e1, e2, e3, e4⟩ := q
        exact ⟨oa, oc, e1, e2.out.1.1, e3.out, h.out.bl.trans (e4.out.mono h.out.bl.size)⟩)
    clear hS f1 f2 f3 hsum hN
    generalize dpG ns m = D at *
    go_enter Tryz.func21, Tryz.ntmps21
    go_wp2_with fail
    generalize w.alloc (.cells #[.slice ad len cap, .int .i64 (m : Int)] 24) = W0 at h0 ⊢
    refine (HR.out _ h0).mono ?_
    rintro e w1 ⟨rfl, H1⟩
    obtain ⟨c0, c1⟩ := H1.out.g.c2
    go_wp2_with (go_at_call 35; refine (HW.out _ H1).mono ?_; rintro e w2 ⟨oa, oc, rfl, H2⟩)
    go_wp2
    go_ret2
    exact ⟨by rw [if_pos rfl]; exact ⟨oa, oc, rfl, H2.out.1, H2.out.2.1⟩, H2.out.2.2⟩
end Go.Proofs.YtaphijgbebhdlaaGreatDoor.Grp
end

section
/- The document's Size, by its contract. -/
namespace Go.Proofs.YtaphijgbebhdlaaGreatDoor.Grp
open Utf Rws Pln Flw
open Go.RowKit
set_option linter.unusedSimpArgs false
set_option linter.unusedVariables false
set_option maxRecDepth 100000
set_option maxHeartbeats 4000000

theorem rsize_core {w : World} {ad : Option Addr} {len cap : Nat} {r : Int} {ns : List Nd} (hlen : len ≤ 9223372036854775807) (hN : NAt w ad len ns) (hS : Sm2 ns) :
    Calls Tryz.prog 10 #[gv ad len cap r] w (SzRes w (rgG ⟨ns, r⟩) (szL ns (odG ns r.toNat))) := by
  have HLn : Hid (len = ns.length) := hN.1
  have h0 : Hid (RS w (w.alloc (.cells #[.slice ad len cap, .int .i64 r] 24)) w.heap.size (.slice ad len cap) (.int .i64 r)) := ⟨Bx.new _ _ _, below_alloc _ _⟩
  have HO0 : ∀ W, RS w W w.heap.size (.slice ad len cap) (.int .i64 r) → Calls Tryz.prog 21 #[gv ad len cap r] W (ORes W (rgG ⟨ns, r⟩) (odG ns r.toNat)) := fun W h => rorder12_core hlen (hN.later h.bl (Nat.le_refl _)) hS
  cases hq : rgG ⟨ns, r⟩
  case false =>
    rw [hq] at HO0
    have HO : Hid (∀ W, Hid (RS w W w.heap.size (.slice ad len cap) (.int .i64 r)) → Calls Tryz.prog 21 #[gv ad len cap r] W fun e W' => e = .returned (.tuple #[.slice none 0 0, .int .i64 1]) ∧ Hid (Below w.heap.size w W')) := fun W h => (HO0 W h.out).mono (fun e W' q => by
      obtain ⟨q1, q2⟩ := ores_noS q
      exact ⟨q1, h.out.bl.trans (q2.mono h.out.bl.size)⟩)
    clear HO0 hN hS
    go_enter Tryz.func10, Tryz.ntmps10
    go_wp2_with (go_at_call 21; refine (HO.out _ h0).mono ?_; rintro e w1 ⟨rfl, H1⟩)
    go_ret2
    exact ⟨by rw [if_neg (by decide)]; rfl, H1.out⟩
  case true =>
  rw [hq] at HO0
  obtain ⟨f1, f2, f3⟩ := rgG_facts hq
  rw [← HLn.out] at f1 f2
  obtain ⟨m, rfl, hm⟩ := isP_nat f2
  rw [Int.toNat_natCast] at HO0 ⊢
  have hsum := (hS (by have := HLn.out; omega)).2
  obtain ⟨b, off, rfl, HCN0⟩ := cn_of hN (by omega) hsum
  have HCN : Hid (CN w b off len ns) := HCN0
  have HLo : Hid (∀ a ∈ odG ns m, a < len) := fun a ha => by rw [HLn.out]; exact odG_lt f3 (by rw [← HLn.out]; exact hm) a ha
  obtain ⟨O, HOO⟩ : ∃ O, Hid (O = odG ns m) := ⟨_, rfl⟩
  rw [← HOO.out] at HLo HO0 ⊢
  have HO : Hid (∀ W, Hid (RS w W w.heap.size (.slice (some ⟨b, off, none⟩) len cap) (.int .i64 (m : Int))) → Calls Tryz.prog 21 #[gv (some ⟨b, off, none⟩) len cap (m : Int)] W fun e W' => ∃ oa oc, e = .returned (.tuple #[.slice oa O.length oc, .int .i64 0]) ∧ Hid (IAt W' oa O.length (O.map fun a : Nat => (a : Int)) ∧ O.length ≤ 5000 ∧ RS w W' w.heap.size (.slice (some ⟨b, off, none⟩) len cap) (.int .i64 (m : Int)))) := fun W h => (HO0 W h.out).mono (fun e W' q => by
    obtain ⟨oa, oc, q1, q2, q3, q4⟩ := ores_yesS q
    exact ⟨oa, oc, q1, q2, q3, h.out.later q4⟩)
  have HKB : Hid (∀ a, a < len → (kd ns a).length ≤ 1000000000) := fun a ha => by
    obtain ⟨_, plen, _, e, h, _⟩ := HCN0 a ha
    unfold kd
    rw [List.length_map, ← e]; exact h
  obtain ⟨SO, HSO⟩ : ∃ SO, Hid (SO = szL ns O) := ⟨_, rfl⟩
  rw [← HSO.out]
  obtain ⟨K0, HK0⟩ : ∃ K0, Hid (K0 = w.heap.size) := ⟨_, rfl⟩
  rw [← HK0.out] at HO h0
  clear HO0 hN hS f2 f3 hsum HCN0
  go_enter Tryz.func10, Tryz.ntmps10
  go_wp2_with fail
  rw [← HK0.out]
  generalize w.alloc (.cells #[.slice (some ⟨b, off, none⟩) len cap, .int .i64 (m : Int)] 24) = W0 at h0 ⊢
  refine (HO.out _ h0).mono ?_
  rintro e w1 ⟨oa, oc, rfl, H1⟩
  clear h0 HO
  obtain ⟨c0, c1⟩ := H1.out.2.2.g.c2
  have hOl : O.length ≤ 5000 := H1.out.2.1
  go_wp2_with fail
  clear c0 c1
  go_loopw [6, 7] (fun us ui wr => ∃ j : Nat, j ≤ O.length ∧ ui = .int .i64 (j : Int) ∧ us = .int .i64 ((szL ns (O.take j) : Nat) : Int) ∧ Hid (IAt wr oa O.length (O.map fun a : Nat => (a : Int)) ∧ O.length ≤ 5000 ∧ RS w wr K0 (.slice (some ⟨b, off, none⟩) len cap) (.int .i64 (m : Int)))) (fun _ ui _ => O.length - (intOf ui).toNat)
  case atStart => exact ⟨0, Nat.zero_le _, rfl, rfl, H1⟩
  case round =>
    obtain ⟨j, hj, rfl, rfl, HJ⟩ := hrel
    clear H1
    obtain ⟨c0, c1⟩ := HJ.out.2.2.g.c2
    have hbd : szL ns (O.take j) ≤ 5000000000001 := by
      have h1 := szL_bd (ns := ns) (O := O.take j) (B := 1000000000) (fun x hx => HKB.out x (HLo.out x (List.mem_of_mem_take hx)))
      have h2 : (O.take j).length ≤ 5000 := by rw [List.length_take]; omega
      have h3 : (O.take j).length * 1000000000 ≤ 5000000000000 := Nat.le_trans (Nat.mul_le_mul_right 1000000000 h2) (by decide)
      exact Nat.le_trans h1 (Nat.le_trans (Nat.add_le_add_left h3 1) (by decide))
    by_cases hlt : j < O.length
    · obtain ⟨ob, ooff, rfl, hob, hoc⟩ := HJ.out.1.2 (by omega)
      have x0 := (hoc j hlt).2
      have hoj : (O.map fun a : Nat => (a : Int)).getD j 0 = ((O.getD j 0 : Nat) : Int) := by
        rw [List.getD_eq_getElem?_getD, List.getElem?_map, List.getD_eq_getElem?_getD, List.getElem?_eq_getElem hlt]; rfl
      rw [hoj] at x0
      have hal : O.getD j 0 < len := by
        have : O.getD j 0 ∈ O := by rw [List.getD_eq_getElem?_getD, List.getElem?_eq_getElem hlt]; exact List.getElem_mem _
        exact HLo.out _ this
      have hsn := szL_snoc (ns := ns) hlt
      obtain ⟨pad, plen, pcap, e1, e2, _, _, _, hnc⟩ := HCN.out _ hal
      obtain ⟨_, _, y2⟩ := hnc _ HJ.out.2.2.bl
      have hkl : (kd ns (O.getD j 0)).length = plen := by unfold kd; rw [List.length_map, e1]
      rw [hkl] at hsn
      generalize szL ns (O.take j) = S at hsn hbd ⊢
      generalize O.getD j 0 = a at x0 hal y2
      have ha0 : (0 : Int) ≤ (a : Int) := by omega
      have ha1 : (a : Int) < (len : Int) := by omega
      have hj0 : (0 : Int) ≤ (j : Int) := by omega
      have hj1 : (j : Int) < (O.length : Int) := by omega
      have HS2 : Hid (szL ns (O.take (j + 1)) = S + plen) := hsn
      have HJ2 : Hid (IAt wr.drew (some ⟨ob, ooff, none⟩) O.length (O.map fun a : Nat => (a : Int)) ∧ O.length ≤ 5000 ∧ RS w wr.drew K0 (.slice (some ⟨b, off, none⟩) len cap) (.int .i64 (m : Int))) := ⟨HJ.out.1.later (Below.refl _ wr).drew (Nat.le_refl _), HJ.out.2.1, HJ.out.2.2.later (Below.refl _ wr).drew⟩
      clear hsn hnc e1 hoj hoc hkl hal HJ
      go_upto_region 8 with fail
      go_region_held3 (fun w' => w'.cell? ⟨K0, 0, none⟩ = some (.slice (some ⟨b, off, none⟩) len cap) ∧ w'.cell? ⟨ob, ooff + j, none⟩ = some (.int .i64 (a : Int)) ∧ w'.cell? ⟨b, off + a * 3 + 2, none⟩ = some (.slice pad plen pcap)) (go_keep) (fail)
      all_goals
        go_wp2_with fail
        go_roundw
        case rel => exact ⟨j + 1, by omega, by go_num, by rw [HS2.out]; exact congrArg _ (by rw [IntKind.wrap_i64]; omega), HJ2⟩
        case measure => (simp [intOf] <;> omega)
    · have hje : j = O.length := by omega
      rw [hje, List.take_length, ← HSO.out]
      rw [hje, List.take_length, ← HSO.out] at hbd
      clear hje
      go_wp2_with fail
      go_ret2
      exact ⟨by rw [if_pos rfl]; rfl, HJ.out.2.2.bl⟩
end Go.Proofs.YtaphijgbebhdlaaGreatDoor.Grp
end
