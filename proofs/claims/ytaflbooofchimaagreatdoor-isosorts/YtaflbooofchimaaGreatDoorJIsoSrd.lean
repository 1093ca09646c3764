/- Several texts as one: IsoSrd. -/
import Derived.Test.YtaflbooofchimaaGreatDoorJ22IsoRk
import Derived.Test.YtaflbooofchimaaGreatDoorJ13IsoPlain
import Derived.Test.YtaflbooofchimaaGreatDoorJ12GraphTop
section
/- Sorted, by its contract. -/
namespace Go.Proofs.YtaflbooofchimaaGreatDoor.Alk
open Utf Rws Pln Flw Grp
open Go.RowKit Go.Shelf
set_option linter.unusedSimpArgs false
set_option linter.unusedVariables false
set_option maxRecDepth 100000
set_option maxHeartbeats 4000000
attribute [local go_sem ↓] Go.wp_at_zero Go.wp_at_succ

theorem sorted_core {w : World} {ad : Option Addr} {len cap : Nat} {r : Int} {ns : List Nd} (hc : len ≤ cap) (hm : cap ≤ maxLen) (hr : i64 r) (hN : NAt w ad len ns) (hS : Sml ns) (hT : Tb w) :
    Calls Tryz.prog 13 #[gv ad len cap r] w (GRes w (rgG ⟨ns, r⟩) 1 ⟨cnN (ris ns) (odG (ris ns) r.toNat), 0⟩) := by
  have HLn : Hid (len = ns.length) := hN.1
  have hmm : maxLen = 9223372036854775807 := rfl
  have hlen : len ≤ 9223372036854775807 := by omega
  have h0 := CaS.new w (.slice ad len cap) (.int .i64 r)
  have HR : Hid (∀ w', Hid (CaS w w' w.heap.size (w.heap.size + 1) (.slice ad len cap) (.int .i64 r)) → Calls Tryz.prog 22 #[gv ad len cap r] w' fun e w'' => e = .returned (.bool (rgG ⟨ns, r⟩)) ∧ Hid (CaS w w'' w.heap.size (w.heap.size + 1) (.slice ad len cap) (.int .i64 r))) :=
    fun w' h => (right_core hlen (hN.later h.out.bl (Nat.le_refl _)) hS (hT.later h.out.bl)).mono (fun e w'' q => ⟨q.1, h.out.later q.2⟩)
  cases hq : rgG ⟨ns, r⟩
  · rw [hq] at HR
    clear hmm hlen hc hm hr
    go_enter Tryz.func13, Tryz.ntmps13
    go_wp2_with fail
    generalize (w.alloc (.cells #[.slice ad len cap, .int .i64 r] 24)).alloc (.cells #[.slice none 0 0, .int .i64 0] 24) = W0 at h0 ⊢
    refine (HR.out _ h0).mono ?_
    rintro e w1 ⟨rfl, H1⟩
    obtain ⟨c0, c1⟩ := H1.out.r.c2
    have z0 := H1.out.r.fz 0
    have z1 := H1.out.r.fz 1
    have HB : Hid (_ ∧ _) := ⟨(H1.out.r.set 0 (.slice none 0 0)).set 1 (.int .i64 0), (H1.out.bl.setCell (p := ⟨w.heap.size + 1, 0, none⟩) H1.out.hk (.slice none 0 0)).setCell (p := ⟨w.heap.size + 1, 1, none⟩) H1.out.hk (.int .i64 0)⟩
    clear H1 h0 HR hS hT hN
    go_wp2
    generalize (w1.setCell ⟨w.heap.size + 1, 0, none⟩ (.slice none 0 0)).setCell ⟨w.heap.size + 1, 1, none⟩ (.int .i64 0) = W9 at HB ⊢
    have g0 : W9.cell? ⟨w.heap.size + 1, 0, none⟩ = some (.slice none 0 0) := HB.out.1.cell 0
    have g1 : W9.cell? ⟨w.heap.size + 1, 1, none⟩ = some (.int .i64 0) := HB.out.1.cell 1
    refine bodyPost_ret (v := .tuple #[gv none 0 0 0, .int .i64 1]) (by simp [results, Tryz.results13, go_sem, g0, g1]) rfl ?_
    exact ⟨by rw [if_neg (by decide)], HB.out.2⟩
  · rw [hq] at HR
    have HG : Hid (∀ w', Hid (CaS w w' w.heap.size (w.heap.size + 1) (.slice ad len cap) (.int .i64 r)) → Calls Tryz.prog 24 #[gv ad len cap r] w' fun e w'' => ∃ ad' len' cap', e = .returned (gv ad' len' cap' r) ∧ Hid (Calls Tryz.prog 29 #[gv ad' len' cap' r] w'' fun e w3 => ∃ ad2 len2 cap2, e = .returned (.tuple #[gv ad2 len2 cap2 0, .int .i64 0]) ∧ Hid (GrP (w.heap.size + 1 + 1) w3 (gv ad2 len2 cap2 0) ⟨cnN (ris ns) (odG (ris ns) r.toNat), 0⟩) ∧ Hid (CaS w w3 w.heap.size (w.heap.size + 1) (.slice ad len cap) (.int .i64 r)) ∧ w3.cell? ⟨w.heap.size + 1, 0, none⟩ = some (.slice none 0 0) ∧ w3.cell? ⟨w.heap.size + 1, 1, none⟩ = some (.int .i64 0) ∧ w3.frozen? ⟨w.heap.size + 1, 0, none⟩ = false ∧ w3.frozen? ⟨w.heap.size + 1, 1, none⟩ = false)) := by
      intro w' h
      refine (rising_any (ns := ns) ⟨ad, len, cap, rfl, hc, hm, hr, hN.later h.out.bl (Nat.le_refl _)⟩ hq hS).mono ?_
      rintro e w'' ⟨ad', len', cap', rfl, H⟩
      obtain ⟨q1, q2⟩ := H.out
      refine ⟨ad', len', cap', rfl, ?_⟩
      have h2 := h.out.later q2
      have hx := canon_any q1 (sml_ris (rg_evn hq) hS) ((hT.later h2.bl))
      rw [rg_ris hq] at hx
      refine hx.mono ?_
      rintro e w3 ⟨q3, q4⟩
      rw [if_pos rfl] at q3
      obtain ⟨v, rfl, q5⟩ := q3
      have q6 := q5.v
      obtain ⟨ad2, len2, cap2, rfl, _⟩ := q6
      have h3 := h2.later q4
      exact ⟨ad2, len2, cap2, rfl, q5.mono (by have := h2.r.lt; omega), h3, h3.r.c2.1, h3.r.c2.2, h3.r.fz 0, h3.r.fz 1⟩
    clear hS hT hN hmm hlen hc hm hr
    go_enter Tryz.func13, Tryz.ntmps13
    go_wp2_with fail
    generalize (w.alloc (.cells #[.slice ad len cap, .int .i64 r] 24)).alloc (.cells #[.slice none 0 0, .int .i64 0] 24) = W0 at h0 ⊢
    refine (HR.out _ h0).mono ?_
    rintro e w1 ⟨rfl, H1⟩
    obtain ⟨c0, c1⟩ := H1.out.g.c2
    go_wp2_with (first | (go_at_call 24; refine (HG.out _ H1).mono ?_; rintro e w2 ⟨ad1, len1, cap1, rfl, H2⟩) | (go_at_call 29; refine H2.out.mono ?_; rintro e w3 ⟨ad', len', cap', rfl, H4, H5, d0, d1, z0, z1⟩))
    have HB : Hid (_ ∧ _ ∧ _) := ⟨(H5.out.r.set 0 (.slice ad' len' cap')).set 1 (.int .i64 0), (H5.out.bl.setCell (p := ⟨w.heap.size + 1, 0, none⟩) H5.out.hk (.slice ad' len' cap')).setCell (p := ⟨w.heap.size + 1, 1, none⟩) H5.out.hk (.int .i64 0), (H4.out.set (i := 0) (u := .slice ad' len' cap') (K := w.heap.size + 1) (by omega)).set (i := 1) (u := .int .i64 0) (K := w.heap.size + 1) (by omega)⟩
    generalize (w3.setCell ⟨w.heap.size + 1, 0, none⟩ (.slice ad' len' cap')).setCell ⟨w.heap.size + 1, 1, none⟩ (.int .i64 0) = W9 at HB ⊢
    have g0 : W9.cell? ⟨w.heap.size + 1, 0, none⟩ = some (.slice ad' len' cap') := HB.out.1.cell 0
    have g1 : W9.cell? ⟨w.heap.size + 1, 1, none⟩ = some (.int .i64 0) := HB.out.1.cell 1
    refine bodyPost_ret (v := .tuple #[gv ad' len' cap' 0, .int .i64 0]) (by simp [results, Tryz.results13, go_sem, g0, g1]) rfl ?_
    exact ⟨by rw [if_pos rfl]; exact ⟨_, rfl, HB.out.2.2.mono (by omega)⟩, HB.out.2.1⟩
theorem sorted_any {w : World} {v : Value} {g : Gr} (h : GrV w v g) (hS : Sml g.nodes) (hT : Tb w) : Calls Tryz.prog 13 #[v] w (GRes w (rgG g) 1 ⟨cnN (ris g.nodes) (odG (ris g.nodes) g.root.toNat), 0⟩) := by
  obtain ⟨ad, len, cap, rfl, h1, h2, h3, h4⟩ := h
  exact sorted_core h1 h2 h3 h4 hS hT
end Go.Proofs.YtaflbooofchimaaGreatDoor.Alk
end
