/- Several texts as one: GraphAlive. -/
import Derived.Test.YtfohbiohleekbaaGreatDoorQGgJ
import Derived.Test.YtfohbiohleekbaaGreatDoorQFbW
section
/- . -/
namespace Go.Proofs.YtfohbiohleekbaaGreatDoor.Grp
open Utf Rws Pln Flw
open Go.RowKit
set_option linter.unusedSimpArgs false
set_option linter.unusedVariables false
set_option maxRecDepth 100000
set_option maxHeartbeats 4000000
theorem alive_any {w : World} (hT : Tb w) : Calls Tryz.prog 7 #[] w fun e w' => e = .returned (.bool true) ∧ Below w.heap.size w w' := by
 have HWH : Hid (∀ w0, Below w.heap.size w w0 → Calls Tryz.prog 26 #[.string (mk gvS)] w0 fun e w' => ∃ v, e = .returned (.tuple #[v, .agg #[.int .i64 0, .int .i64 0]]) ∧ Hid (TrV w' 65 v gvT ∧ Below w.heap.size w w')) := fun w0 b0 =>
  (whole_any gvS (by decide) (hT.later b0)).mono (fun e w' ⟨v, h1, h2, h3⟩ => by
   rw [gv_whole] at h1 h2
   exact ⟨v, h1, h2, b0.trans (h3.mono b0.size)⟩)
 have HCO : Hid (∀ w0 v, Below w.heap.size w w0 → TrV w0 65 v gvT → Calls Tryz.prog 8 #[v] w0 fun e w' => ∃ b off cap b0 off0 c0, e = .returned (.tuple #[gv (some ⟨b, off, none⟩) 4 cap 0, .int .i64 0]) ∧ b < w'.heap.size ∧ b0 < w'.heap.size ∧ 4 ≤ cap ∧ cap ≤ maxLen ∧ 2 ≤ c0 ∧ c0 ≤ maxLen ∧ w'.cell? ⟨b, off + 2, none⟩ = some (.slice (some ⟨b0, off0, none⟩) 2 c0) ∧ w'.cell? ⟨b0, off0, none⟩ = some (.int .i64 0) ∧ w'.cell? ⟨b, off + 9 + 1, none⟩ = some (.string (mk [53])) ∧ Hid (GrV w' (gv (some ⟨b, off, none⟩) 4 cap 0) ⟨gvN, 0⟩ ∧ Below w0.heap.size w0 w')) := fun w0 v b0 h => by
  refine (compose_any gv_bri h (hT.later b0) (by rw [gv_tsz]; decide)).mono ?_
  rintro e w' ⟨h1, h2⟩
  have e1 : cmOk 65 gvT = true := by unfold cmOk; rw [gv_rgh, gv_err]; rfl
  rw [e1, if_pos rfl, gv_nodes] at h1
  obtain ⟨v, rfl, hg⟩ := h1
  have hv := hg.v
  obtain ⟨b, off, cap, b0, off0, c0, rfl, r1, r2, r3, r4, r5, r6, r7, r8, r9⟩ := gv_cells hv
  exact ⟨b, off, cap, b0, off0, c0, rfl, r1, r2, r3, r4, r5, r6, r7, r8, r9, hv, h2⟩
 have HRI : Hid (∀ w0 v, Below w.heap.size w w0 → GrV w0 v ⟨gvN, 0⟩ → Calls Tryz.prog 16 #[v] w0 fun e w' => e = .returned (.bool true) ∧ Hid (Below w.heap.size w w')) := fun w0 v b0 h =>
  (right_gr h gv_sml (hT.later b0)).mono (fun e w' q => by rw [gv_right] at q; exact ⟨q.1, b0.trans (q.2.mono b0.size)⟩)
 clear hT
 go_enter Tryz.func7, Tryz.ntmps7
 go_wp2_with fail
 refine (HWH.out w (Below.refl _ _)).mono ?_
 rintro e w1 ⟨v, rfl, H1⟩
 obtain ⟨ad, len, cap, hv⟩ : ∃ ad len cap, v = tv 5 [] [97] ad len cap := H1.out.1.open4
 subst hv
 have H2 : Hid (∀ w2, w2 = (w1.alloc (.cells #[.int .i64 5, .string (mk []), .string (mk [97]), .slice ad len cap] 24)).alloc (.cells #[.int .i64 0, .int .i64 0] 59) → Below w.heap.size w w2 ∧ Below w1.heap.size w1 w2 ∧ Bx w2 w1.heap.size #[.int .i64 5, .string (mk []), .string (mk [97]), .slice ad len cap] 24 ∧ Bx w2 (w1.heap.size + 1) #[.int .i64 0, .int .i64 0] 59) := fun w2 e => by
  subst e
  have a1 := below_alloc w1 (.cells #[.int .i64 5, .string (mk []), .string (mk [97]), .slice ad len cap] 24)
  have s1 : (w1.alloc (.cells #[.int .i64 5, .string (mk []), .string (mk [97]), .slice ad len cap] 24)).heap.size = w1.heap.size + 1 := World.size_alloc _ _
  have a2 := below_alloc (w1.alloc (.cells #[.int .i64 5, .string (mk []), .string (mk [97]), .slice ad len cap] 24)) (.cells #[.int .i64 0, .int .i64 0] 59)
  have n2 := Bx.new (w1.alloc (.cells #[.int .i64 5, .string (mk []), .string (mk [97]), .slice ad len cap] 24)) #[.int .i64 0, .int .i64 0] 59
  rw [s1] at n2
  have a3 := a1.trans (a2.mono a1.size)
  exact ⟨H1.out.2.trans (a3.mono H1.out.2.size), a3, (Bx.new w1 _ _).later a2, n2⟩
 go_upto_region 2 with fail
 have H3 := H2.out _ rfl
 clear H2
 generalize (w1.alloc (.cells #[.int .i64 5, .string (mk []), .string (mk [97]), .slice ad len cap] 24)).alloc (.cells #[.int .i64 0, .int .i64 0] 59) = w2 at H3 ⊢
 have hTV := H1.out.1.later H3.2.1 (Nat.le_refl _)
 have HCW : Hid (Calls Tryz.prog 8 _ _ _) := HCO.out w2 _ H3.1 hTV
 obtain ⟨K1, hK1⟩ : ∃ K1, w1.heap.size + 1 = K1 := ⟨_, rfl⟩
 rw [hK1] at H3 ⊢
 obtain ⟨K0, hK0⟩ : ∃ K0, w1.heap.size = K0 := ⟨_, rfl⟩
 have H4 : Hid (Below w.heap.size w w2 ∧ Bx w2 K1 #[.int .i64 0, .int .i64 0] 59) := ⟨H3.1, H3.2.2.2⟩
 have T1 := H3.2.2.1
 rw [hK0] at T1 ⊢
 obtain ⟨t0, t1, t2, t3⟩ := T1.c4
 clear hK0 hK1 H3 hTV T1 H1 HWH HCO
 go_upto_region 3 with (go_at_call 8; refine HCW.out.mono ?_; rintro e w3 ⟨b, off, cap', b0, off0, c0, rfl, r1, r2, r3, r4, r5, r6, r7, r8, r9, H5⟩)
 have H6 : Hid (∀ w4, w4 = w3.alloc (.cells #[.slice (some ⟨b, off, none⟩) 4 cap', .int .i64 0] 30) → Below w.heap.size w w4 ∧ Below w3.heap.size w3 w4 ∧ Bx w4 w3.heap.size #[.slice (some ⟨b, off, none⟩) 4 cap', .int .i64 0] 30 ∧ Bx w4 K1 #[.int .i64 0, .int .i64 0] 59 ∧ GrV w4 (gv (some ⟨b, off, none⟩) 4 cap' 0) ⟨gvN, 0⟩) := fun w4 e => by
  subst e
  have a1 := below_alloc w3 (.cells #[.slice (some ⟨b, off, none⟩) 4 cap', .int .i64 0] 30)
  have a2 := H4.out.1.trans (H5.out.2.mono H4.out.1.size)
  exact ⟨a2.trans (a1.mono a2.size), a1, Bx.new _ _ _, (H4.out.2.later H5.out.2).later a1, H5.out.1.later a1 (Nat.le_refl _)⟩
 have H7 := H6.out _ rfl
 clear H6 H4 H5 HCW
 generalize w3.alloc (.cells #[.slice (some ⟨b, off, none⟩) 4 cap', .int .i64 0] 30) = w4 at H7 ⊢
 obtain ⟨K3, hK3⟩ : ∃ K3, w3.heap.size = K3 := ⟨_, rfl⟩
 replace r7 := (H7.2.1.cell (p := ⟨b, off + 2, none⟩) r1).trans r7
 replace r8 := (H7.2.1.cell (p := ⟨b0, off0, none⟩) r2).trans r8
 replace r9 := (H7.2.1.cell (p := ⟨b, off + 9 + 1, none⟩) r1).trans r9
 have hb2 := Nat.lt_of_lt_of_le r1 H7.2.1.size
 have hb3 := Nat.lt_of_lt_of_le r2 H7.2.1.size
 have T3 := H7.2.2.1
 rw [hK3] at T3 ⊢
 obtain ⟨g0, g1⟩ := T3.c2
 obtain ⟨f0, f1⟩ := H7.2.2.2.1.c2
 have HRW : Hid (Calls Tryz.prog 16 _ _ _) := HRI.out w4 _ H7.1 H7.2.2.2.2
 clear H7 T3 hK3 HRI r1 r2
 have q1 : ((mk [53]).toList == [53]) = true := by rw [ByteArray.toList_eq, mk_data]; rfl
 go_wp2_with (go_at_call 16; refine HRW.out.mono ?_; rintro e w5 ⟨rfl, H9⟩)
 go_ret
 exact ⟨rfl, H9.out⟩
end Go.Proofs.YtfohbiohleekbaaGreatDoor.Grp
end
