/- Several texts as one: FlowWhole, FlowBrfP. -/
import Derived.Test.YtfohbiohleekbaaGreatDoorQFbV
import Derived.Test.YtfohbiohleekbaaGreatDoorQFbQ
import Derived.Test.YtfohbiohleekbaaGreatDoorQFbP
import Derived.Test.YtfohbiohleekbaaGreatDoorQFbC
import Derived.Test.YtfohbiohleekbaaGreatDoorQFbM
section
/- . -/
namespace Go.Proofs.YtfohbiohleekbaaGreatDoor.Flw
open Utf Rws Pln
open Go.RowKit
set_option linter.unusedSimpArgs false
set_option linter.unusedVariables false
set_option maxRecDepth 100000
set_option maxHeartbeats 4000000
variable {b p dp d : Nat} {s : Ln} {w w1 w2 : World}
theorem value_all : ∀ (d dp : Nat), dp + d = 64 → ∀ (b : Nat) (s : Ln) (f : Bool) (w : World) (p : Nat), Rd w b s p dp → p ≤ s.length → s.length ≤ 65536 → TbB b w →
  Calls Tryz.prog 48 #[.pointer (some ⟨b, 0, none⟩), .bool f] w fun e w' => ValRes b s dp w (d + 1) (lval d f (s.drop p)) e w'
 | 0, dp, hd, b, s, f, w, p, h, hp, hs, hT => by
  have hdp : dp = 64 := by omega
  subst hdp
  exact value_any (inner := none) f (fun w' p' h1 h2 h3 h4 => ⟨bracket_deep _ _ h1 h2 hs, bracket_deep _ _ h1 h2 hs⟩) (fun v hv => by cases hv) h hp hs hT
 | d + 1, dp, hd, b, s, f, w, p, h, hp, hs, hT => by
  have hV : ValOk b s (dp + 1) (d + 1) (fun m => lval d true m) := fun w' p' h1 h2 h3 => value_all d (dp + 1) (by omega) b s true w' p' h1 h2 hs h3
  have hbd : ∀ l, Bad ((fun m => lval d true m) l) := fun l => lval_bad d true l
  have hb : BrkOk b s dp (d + 1) (some fun m => lval d true m) := fun w' p' h1 h2 h3 h4 =>
   ⟨bracket_any 86 (enters_of Tryz.func86 (by kernel_rfl) rfl) false 93 rfl (by decide) (vf := fun m => lval d true m) (fun w2 p2 g1 g2 g3 => item_any hV (fun l e he => hbd l e he) g1 g2 hs g3) (fun l e he => lpart_bad hbd false l e he) (fun l => lval_adv d true l) h1 h2 hs h3 (by omega) h4,
    bracket_any 87 (enters_of Tryz.func87 (by kernel_rfl) rfl) true 125 rfl (by decide) (vf := fun m => lval d true m) (fun w2 p2 g1 g2 g3 => entry_any hV (fun l e he => hbd l e he) g1 g2 hs g3 (by omega)) (fun l e he => lpart_bad hbd true l e he) (fun l => lval_adv d true l) h1 h2 hs h3 (by omega) h4⟩
  exact value_any (inner := some fun m => lval d true m) f hb (fun v hv => by cases hv; exact hbd) h hp hs hT
structure SW (w0 w : World) (K0 K1 : Nat) : Prop where
 k0 : Bx w K0 zT 24
 k1 : Bx w K1 zF 59
 bl : Below w0.heap.size w0 w
 h0 : w0.heap.size ≤ K0
 h1 : K0 < K1
variable {K0 K1 : Nat} {w0 : World}
theorem SW.later (h : SW w0 w K0 K1) (hb : Below w.heap.size w w1) : SW w0 w1 K0 K1 := ⟨h.k0.later hb, h.k1.later hb, h.bl.trans (hb.mono h.bl.size), h.h0, h.h1⟩
theorem SW.fr (h : SW w0 w K0 K1) (hf : Fr b w w1) (hb : K1 < b) : SW w0 w1 K0 K1 := by
 have := h.h0; have := h.h1
 exact ⟨(hf.1.block _ (by omega)).trans h.k0, (hf.1.block _ (by omega)).trans h.k1, h.bl.trans (hf.1.mono (by omega)), h.h0, h.h1⟩
theorem SW.c (h : SW w0 w K0 K1) : S2C w K0 K1 := ⟨h.k0.cell 0, h.k0.cell 1, h.k0.cell 2, h.k0.cell 3, h.k1.cell 0, h.k1.cell 1, h.k0.fz 0, h.k0.fz 1, h.k0.fz 2, h.k0.fz 3, h.k1.fz 0, h.k1.fz 1⟩
theorem SW.out (h : SW w0 w K0 K1) (x0 x1 x2 x3 y0 y1 : Value) : Below w0.heap.size w0 (fill6 w K0 K1 x0 x1 x2 x3 y0 y1) ∧ Bx (fill6 w K0 K1 x0 x1 x2 x3 y0 y1) K0 #[x0, x1, x2, x3] 24 ∧ Bx (fill6 w K0 K1 x0 x1 x2 x3 y0 y1) K1 #[y0, y1] 59 := by
 have := h.h0; have := h.h1
 exact ⟨((below_fill4 h.bl h.h0 x0 x1 x2 x3).setCell (p := ⟨K1, 0, none⟩) (by show w0.heap.size ≤ K1; omega) _).setCell (p := ⟨K1, 1, none⟩) (by show w0.heap.size ≤ K1; omega) _, ((h.k0.fill4 rfl x0 x1 x2 x3).other (by omega) _ _).other (by omega) _ _, ((h.k1.fill4o (by omega) x0 x1 x2 x3).set 0 y0).set 1 y1⟩
def WhoRes (l : Ln) (w : World) (e : Ending) (w' : World) : Prop := ∃ v, e = .returned (.tuple #[v, .agg #[.int .i64 ((whole l).2.1 : Int), .int .i64 ((whole l).2.2 : Int)]]) ∧ TrV w' 65 v (whole l).1 ∧ Below w.heap.size w w'
theorem trV0 : TrV w 65 (.agg zT) tr0 := (TrP.leaf (c := 0) (w := w) 0 [] [] (by decide) (by simp) (by simp) 64).v
theorem whole_any (l : Ln) (hl : l.length ≤ 9223372036854775807) (hT : Tb w) : Calls Tryz.prog 26 #[.string (mk l)] w fun e w' => WhoRes l w e w' := by
 have hsz := mk_size l
 by_cases h0 : 65536 < l.length
 ·have HV : Hid (whole l = (tr0, 5, 0)) := by unfold whole; rw [if_pos h0]; exact rfl
  go_enter Tryz.func26, Tryz.ntmps26
  go_wp2
  refine bodyPost_ret (v := .tuple #[.agg #[.int .i64 0, .string ⟨#[]⟩, .string ⟨#[]⟩, .slice none 0 0], .agg #[.int .i64 5, .int .i64 0]]) (by simp [results, Tryz.results26, go_sem]) rfl ?_
  refine ⟨_, by rw [HV.out]; rfl, by rw [HV.out]; exact trV0, ?_⟩
  exact (below_alloc _ _).trans ((below_alloc _ _).mono (by simp))
 ·have hle : l.length ≤ 65536 := by omega
  have hx0 := ((Bx.new w zT 24).later (below_alloc (w.alloc (.cells zT 24)) (.cells zF 59))).later (below_alloc ((w.alloc (.cells zT 24)).alloc (.cells zF 59)) (.cells #[.string (mk l), .int .i64 0, .int .i64 0] 88))
  have hx1 := (Bx.new (w.alloc (.cells zT 24)) zF 59).later (below_alloc ((w.alloc (.cells zT 24)).alloc (.cells zF 59)) (.cells #[.string (mk l), .int .i64 0, .int .i64 0] 88))
  have hx2 := Bx.new ((w.alloc (.cells zT 24)).alloc (.cells zF 59)) #[.string (mk l), .int .i64 0, .int .i64 0] 88
  have e1 : (w.alloc (.cells zT 24)).heap.size = w.heap.size + 1 := by simp
  have e2 : ((w.alloc (.cells zT 24)).alloc (.cells zF 59)).heap.size = w.heap.size + 1 + 1 := by simp
  rw [e1] at hx1
  rw [e2] at hx2
  have hbl : Below w.heap.size w (((w.alloc (.cells zT 24)).alloc (.cells zF 59)).alloc (.cells #[.string (mk l), .int .i64 0, .int .i64 0] 88)) := (below_alloc _ _).trans (((below_alloc _ _).mono (by simp)).trans ((below_alloc _ _).mono (by simp; omega)))
  go_enter Tryz.func26, Tryz.ntmps26
  go_wp2_with fail
  change Calls _ _ _ (((w.alloc (.cells zT 24)).alloc (.cells zF 59)).alloc (.cells #[.string (mk l), .int .i64 0, .int .i64 0] 88)) _
  generalize ((w.alloc (.cells zT 24)).alloc (.cells zF 59)).alloc (.cells #[.string (mk l), .int .i64 0, .int .i64 0] 88) = W at hx0 hx1 hx2 hbl ⊢
  clear e1 e2
  have hk1 : w.heap.size < w.heap.size + 1 := by omega
  have hk2 : w.heap.size + 1 < w.heap.size + 1 + 1 := by omega
  have hk3 : w.heap.size ≤ w.heap.size + 1 + 1 := by omega
  generalize hB : w.heap.size + 1 + 1 = B at hx2 hk2 hk3 ⊢
  generalize hK1 : w.heap.size + 1 = K1 at hx1 hk1 hk2 ⊢
  generalize hK0 : w.heap.size = K0 at hx0 hk1 ⊢
  have HS : Hid (SW w W K0 K1) := ⟨hx0, hx1, hbl, Nat.le_of_eq hK0, hk1⟩
  have hR : Rd W B l 0 0 := hx2
  have hTB : TbB B W := ⟨w, hT, hk3, hbl⟩
  have HVA : Hid (Calls Tryz.prog 48 #[.pointer (some ⟨B, 0, none⟩), .bool false] W fun e w' => ValRes B l 0 W 65 (lval 64 false l) e w') := by
   have := value_all 64 0 (by omega) B l false W 0 hR (Nat.zero_le _) hle hTB
   rwa [List.drop_zero] at this
  have HWL : Hid (whole l = match lval 64 false l with
    | .ok x => if gaps x.2 = [] then (x.1, 0, 0) else (tr0, 3, l.length - (gaps x.2).length)
    | .error e => (tr0, e.1, l.length - e.2)) := by have := whole_l l; rw [if_neg h0] at this; exact this
  have HWB : Hid (B < W.heap.size) := hx2.lt
  clear hB hK1 hK0 hx0 hx1 hx2 hbl hR hTB hk1 hk3 hT
  refine HVA.out.mono ?_
  intro e w3 hres
  have hvb := lval_bad 64 false l
  generalize hlv : lval 64 false l = r at hres HWL hvb
  clear HVA
  cases r with
  | error F =>
   obtain ⟨v, t, ht, rfl, hf3⟩ := hres
   obtain ⟨k2, x2, a2, ad2, len2, cap2, rfl⟩ := ht.cells
   have hF0 := hvb F rfl
   have HV : Hid (whole l = (tr0, F.1, l.length - F.2)) := HWL.out
   unfold fv
   have HS3 : Hid (SW w w3 K0 K1) := HS.out.fr hf3 hk2
   clear hf3 ht HS HWL hvb
   have hb4 : Below w3.heap.size w3 ((w3.alloc (.cells #[.int .i64 k2, .string x2, .string a2, .slice ad2 len2 cap2] 24)).alloc (.cells #[.int .i64 (F.1 : Int), .int .i64 ((l.length - F.2 : Nat) : Int)] 59)) := (below_alloc _ _).trans ((below_alloc _ _).mono (by simp))
   have hS4 : SW w ((w3.alloc (.cells #[.int .i64 k2, .string x2, .string a2, .slice ad2 len2 cap2] 24)).alloc (.cells #[.int .i64 (F.1 : Int), .int .i64 ((l.length - F.2 : Nat) : Int)] 59)) K0 K1 := HS3.out.later hb4
   have hT4 := (Bx.new w3 #[.int .i64 k2, .string x2, .string a2, .slice ad2 len2 cap2] 24).later (below_alloc (w3.alloc (.cells #[.int .i64 k2, .string x2, .string a2, .slice ad2 len2 cap2] 24)) (.cells #[.int .i64 (F.1 : Int), .int .i64 ((l.length - F.2 : Nat) : Int)] 59))
   have hF4 := Bx.new (w3.alloc (.cells #[.int .i64 k2, .string x2, .string a2, .slice ad2 len2 cap2] 24)) #[.int .i64 (F.1 : Int), .int .i64 ((l.length - F.2 : Nat) : Int)] 59
   rw [show (w3.alloc (.cells #[.int .i64 k2, .string x2, .string a2, .slice ad2 len2 cap2] 24)).heap.size = w3.heap.size + 1 by simp] at hF4
   have hq0 : K0 < w3.heap.size := HS3.out.k0.lt
   have hq1 : K1 < w3.heap.size := HS3.out.k1.lt
   go_upto_region 5 with fail
   generalize ((w3.alloc (.cells #[.int .i64 k2, .string x2, .string a2, .slice ad2 len2 cap2] 24)).alloc (.cells #[.int .i64 (F.1 : Int), .int .i64 ((l.length - F.2 : Nat) : Int)] 59)) = w4 at hb4 hS4 hT4 hF4 ⊢
   have HB4 : Hid (Below w3.heap.size w3 w4) := hb4
   clear hb4
   have hq2 : w3.heap.size < w3.heap.size + 1 := by omega
   generalize w3.heap.size + 1 = KF at hF4 hq2 ⊢
   generalize hKT : w3.heap.size = KT at hT4 hq0 hq1 hq2 ⊢
   clear hKT
   have HS4 : Hid (SW w w4 K0 K1) := hS4
   have HT4 : Hid (Bx w4 KT #[.int .i64 k2, .string x2, .string a2, .slice ad2 len2 cap2] 24) := hT4
   have HF4 : Hid (Bx w4 KF #[.int .i64 (F.1 : Int), .int .i64 ((l.length - F.2 : Nat) : Int)] 59) := hF4
   have i0 : w4.cell? ⟨KF, 0, none⟩ = some (.int .i64 (F.1 : Int)) := hF4.cell 0
   have i1 : w4.cell? ⟨KF, 1, none⟩ = some (.int .i64 ((l.length - F.2 : Nat) : Int)) := hF4.cell 1
   have t0 : w4.cell? ⟨KT, 0, none⟩ = some (.int .i64 k2) := hT4.cell 0
   have t1 : w4.cell? ⟨KT, 1, none⟩ = some (.string x2) := hT4.cell 1
   have t2 : w4.cell? ⟨KT, 2, none⟩ = some (.string a2) := hT4.cell 2
   have t3 : w4.cell? ⟨KT, 3, none⟩ = some (.slice ad2 len2 cap2) := hT4.cell 3
   have hkf1 : KF ≠ K0 := by omega
   have hkf2 : K0 ≠ KF := by omega
   have hkf3 : KF ≠ K1 := by omega
   have hkf4 : K1 ≠ KF := by omega
   clear hS4 hT4 hF4
   obtain ⟨X0, X1, X2, X3, Y0, Y1, Z0, Z1, Z2, Z3, V0, V1⟩ := HS4.out.c
   have hd10 : K1 ≠ K0 := by have := HS4.out.h1; omega
   have hd01 : K0 ≠ K1 := by omega
   have hF1 : ((F.1 : Int) == 0) = false := by rw [beq_eq_false_iff_ne]; omega
   have hF2 : ((F.1 : Int) != 0) = true := by simpa using hF0
   clear hF0
   go_wp2
   go_region
   all_goals
    go_wp2
    have hO := HS4.out.out (.int .i64 0) (.string ⟨#[]⟩) (.string ⟨#[]⟩) (.slice none 0 0) (.int .i64 (F.1 : Int)) (.int .i64 ((l.length - F.2 : Nat) : Int))
    change bodyPost _ _ _ _ _ (fill6 w4 K0 K1 (.int .i64 0) (.string ⟨#[]⟩) (.string ⟨#[]⟩) (.slice none 0 0) (.int .i64 (F.1 : Int)) (.int .i64 ((l.length - F.2 : Nat) : Int))).drew
    generalize fill6 w4 K0 K1 (.int .i64 0) (.string ⟨#[]⟩) (.string ⟨#[]⟩) (.slice none 0 0) (.int .i64 (F.1 : Int)) (.int .i64 ((l.length - F.2 : Nat) : Int)) = WF at hO ⊢
    obtain ⟨o2, o3, o4⟩ := hO
    have j0 : WF.drew.cell? ⟨K0, 0, none⟩ = _ := o3.cell 0
    have j1 : WF.drew.cell? ⟨K0, 1, none⟩ = _ := o3.cell 1
    have j2 : WF.drew.cell? ⟨K0, 2, none⟩ = _ := o3.cell 2
    have j3 : WF.drew.cell? ⟨K0, 3, none⟩ = _ := o3.cell 3
    have j4 : WF.drew.cell? ⟨K1, 0, none⟩ = _ := o4.cell 0
    have j5 : WF.drew.cell? ⟨K1, 1, none⟩ = _ := o4.cell 1
    replace o2 := o2.drew
    refine bodyPost_ret (v := .tuple #[.agg #[.int .i64 0, .string ⟨#[]⟩, .string ⟨#[]⟩, .slice none 0 0], .agg #[.int .i64 (F.1 : Int), .int .i64 ((l.length - F.2 : Nat) : Int)]]) (by simp [results, Tryz.results26, go_sem, j0, j1, j2, j3, j4, j5]) rfl ?_
    exact ⟨_, by rw [HV.out], by rw [HV.out]; exact trV0, o2⟩
  | ok r =>
   obtain ⟨t, l'⟩ := r
   obtain ⟨v, rfl, ht, ⟨q, hq, hl', hr3⟩, hf3⟩ := hres
   simp only at ht hl'
   subst hl'
   obtain ⟨k2, x2, a2, ad2, len2, cap2, rfl⟩ := ht.cells
   unfold f0
   have HS3 : Hid (SW w w3 K0 K1) := HS.out.fr hf3 hk2
   have HR3 : Hid (Rd w3 B l q 0) := hr3
   have HTP3 : Hid (TrP W.heap.size w3 65 (.agg #[.int .i64 k2, .string x2, .string a2, .slice ad2 len2 cap2]) t) := ht
   clear hf3 ht hr3 HS hvb hlv
   have hb4 : Below w3.heap.size w3 ((w3.alloc (.cells #[.int .i64 k2, .string x2, .string a2, .slice ad2 len2 cap2] 24)).alloc (.cells #[.int .i64 0, .int .i64 0] 59)) := (below_alloc _ _).trans ((below_alloc _ _).mono (by simp))
   have hS4 : SW w ((w3.alloc (.cells #[.int .i64 k2, .string x2, .string a2, .slice ad2 len2 cap2] 24)).alloc (.cells #[.int .i64 0, .int .i64 0] 59)) K0 K1 := HS3.out.later hb4
   have hT4 := (Bx.new w3 #[.int .i64 k2, .string x2, .string a2, .slice ad2 len2 cap2] 24).later (below_alloc (w3.alloc (.cells #[.int .i64 k2, .string x2, .string a2, .slice ad2 len2 cap2] 24)) (.cells #[.int .i64 0, .int .i64 0] 59))
   have hF4 := Bx.new (w3.alloc (.cells #[.int .i64 k2, .string x2, .string a2, .slice ad2 len2 cap2] 24)) #[.int .i64 0, .int .i64 0] 59
   rw [show (w3.alloc (.cells #[.int .i64 k2, .string x2, .string a2, .slice ad2 len2 cap2] 24)).heap.size = w3.heap.size + 1 by simp] at hF4
   have hq0 : K0 < w3.heap.size := HS3.out.k0.lt
   have hq1 : K1 < w3.heap.size := HS3.out.k1.lt
   go_upto_region 5 with fail
   generalize ((w3.alloc (.cells #[.int .i64 k2, .string x2, .string a2, .slice ad2 len2 cap2] 24)).alloc (.cells #[.int .i64 0, .int .i64 0] 59)) = w4 at hb4 hS4 hT4 hF4 ⊢
   have HB4 : Hid (Below w3.heap.size w3 w4) := hb4
   clear hb4
   have hq2 : w3.heap.size < w3.heap.size + 1 := by omega
   generalize w3.heap.size + 1 = KF at hF4 hq2 ⊢
   generalize hKT : w3.heap.size = KT at hT4 hq0 hq1 hq2 ⊢
   clear hKT
   have HS4 : Hid (SW w w4 K0 K1) := hS4
   have HT4 : Hid (Bx w4 KT #[.int .i64 k2, .string x2, .string a2, .slice ad2 len2 cap2] 24) := hT4
   have HF4 : Hid (Bx w4 KF #[.int .i64 0, .int .i64 0] 59) := hF4
   have i0 : w4.cell? ⟨KF, 0, none⟩ = some (.int .i64 0) := hF4.cell 0
   have i1 : w4.cell? ⟨KF, 1, none⟩ = some (.int .i64 0) := hF4.cell 1
   have t0 : w4.cell? ⟨KT, 0, none⟩ = some (.int .i64 k2) := hT4.cell 0
   have t1 : w4.cell? ⟨KT, 1, none⟩ = some (.string x2) := hT4.cell 1
   have t2 : w4.cell? ⟨KT, 2, none⟩ = some (.string a2) := hT4.cell 2
   have t3 : w4.cell? ⟨KT, 3, none⟩ = some (.slice ad2 len2 cap2) := hT4.cell 3
   have hkf1 : KF ≠ K0 := by omega
   have hkf2 : K0 ≠ KF := by omega
   have hkf3 : KF ≠ K1 := by omega
   have hkf4 : K1 ≠ KF := by omega
   clear hS4 hT4 hF4
   obtain ⟨X0, X1, X2, X3, Y0, Y1, Z0, Z1, Z2, Z3, V0, V1⟩ := HS4.out.c
   have hd10 : K1 ≠ K0 := by have := HS4.out.h1; omega
   have hd01 : K0 ≠ K1 := by omega
   have HR4 : Hid (Rd w4 B l q 0) := HR3.out.later HB4.out
   have HTP4 : Hid (TrP W.heap.size w4 65 (.agg #[.int .i64 k2, .string x2, .string a2, .slice ad2 len2 cap2]) t) := HTP3.out.later HB4.out
   have hgn := gaps_nx l hq
   have hnl := nx_le l q
   have HNX : Hid (Calls Tryz.prog 49 #[.pointer (some ⟨B, 0, none⟩)] w4 fun e w' => e = .returned (.int .i64 (nx l q : Nat)) ∧ ∃ n, w' = w4.drewN n) := next_any HR4.out hq hle
   by_cases hg : gaps (l.drop q) = []
   ·have HV : Hid (whole l = (t, 0, 0)) := by have := HWL.out; rw [if_pos hg] at this; exact this
    have hnx : nx l q = l.length := by rw [hg] at hgn; simp at hgn; omega
    have hc0 : ¬ ((nx l q : Nat) : Int) < (l.length : Int) := by omega
    rw [hnx] at HNX
    clear HWL hgn hnx hc0
    go_wp2_with fail
    refine HNX.out.mono ?_
    rintro e w5 ⟨rfl, k5, rfl⟩
    have HS5 : Hid (SW w (w4.drewN k5) K0 K1) := HS4.out.later (below_drewN (Below.refl _ _) k5)
    have hKW0 : K0 < W.heap.size := by have := HWB.out; have := HS4.out.h1; omega
    have hKW1 : K1 < W.heap.size := by have := HWB.out; omega
    have htf : TrV (fill6 (w4.drewN k5) K0 K1 (.int .i64 k2) (.string x2) (.string a2) (.slice ad2 len2 cap2) (.int .i64 0) (.int .i64 0)) 65 (.agg #[.int .i64 k2, .string x2, .string a2, .slice ad2 len2 cap2]) t := (((((((HTP4.out.later (below_drewN (Below.refl _ _) k5)).set hKW0).set hKW0).set hKW0).set hKW0).set hKW1).set hKW1).v
    clear HNX
    go_wp2
    have hO := HS5.out.out (.int .i64 k2) (.string x2) (.string a2) (.slice ad2 len2 cap2) (.int .i64 0) (.int .i64 0)
    change bodyPost _ _ _ _ _ (fill6 (w4.drewN k5) K0 K1 (.int .i64 k2) (.string x2) (.string a2) (.slice ad2 len2 cap2) (.int .i64 0) (.int .i64 0))
    generalize fill6 (w4.drewN k5) K0 K1 (.int .i64 k2) (.string x2) (.string a2) (.slice ad2 len2 cap2) (.int .i64 0) (.int .i64 0) = WF at hO htf ⊢
    obtain ⟨o2, o3, o4⟩ := hO
    have j0 : WF.cell? ⟨K0, 0, none⟩ = _ := o3.cell 0
    have j1 : WF.cell? ⟨K0, 1, none⟩ = _ := o3.cell 1
    have j2 : WF.cell? ⟨K0, 2, none⟩ = _ := o3.cell 2
    have j3 : WF.cell? ⟨K0, 3, none⟩ = _ := o3.cell 3
    have j4 : WF.cell? ⟨K1, 0, none⟩ = _ := o4.cell 0
    have j5 : WF.cell? ⟨K1, 1, none⟩ = _ := o4.cell 1
    refine bodyPost_ret (v := .tuple #[.agg #[.int .i64 k2, .string x2, .string a2, .slice ad2 len2 cap2], .agg #[.int .i64 0, .int .i64 0]]) (by simp [results, Tryz.results26, go_sem, j0, j1, j2, j3, j4, j5]) rfl ?_
    exact ⟨_, by rw [HV.out]; rfl, by rw [HV.out]; exact htf, o2⟩
   ·have hgl := List.length_pos_iff.2 hg
    have HV0 : Hid (whole l = (tr0, 3, l.length - (gaps (l.drop q)).length)) := by have := HWL.out; rw [if_neg hg] at this; exact this
    have hst : stands (gaps (l.drop q)) = (3, (gaps (l.drop q)).length) := by unfold stands; rw [if_neg hg]
    have hc0 : ((nx l q : Nat) : Int) < (l.length : Int) := by omega
    have HWR : Hid (∀ k, Calls Tryz.prog 50 #[.pointer (some ⟨B, 0, none⟩)] (w4.drewN k) fun e w' => e = .returned (fv l.length (3, (gaps (l.drop q)).length)) ∧ Hid (SW w w' K0 K1 ∧ Bx w' KF #[.int .i64 0, .int .i64 0] 59)) := fun k => by
     have := wrong_any (HR4.out.drew k) hq hle
     rw [hst] at this
     exact this.mono (fun e w' h => ⟨h.1, (HS4.out.later (below_drewN (Below.refl _ _) k)).later h.2, (HF4.out.drew k).later h.2⟩)
    generalize hGG : (gaps (l.drop q)).length = GG at *
    obtain ⟨F, hFF⟩ : ∃ F : Fa, F = (3, GG) := ⟨_, rfl⟩
    rw [← hFF] at HWR
    have HV : Hid (whole l = (tr0, F.1, l.length - F.2)) := by rw [hFF]; exact HV0.out
    have hF2 : ((F.1 : Int) != 0) = true := by rw [hFF]; show ((3 : Int) != 0) = true; decide
    clear HV0 hFF hGG hst HWL hg hgn hgl
    clear GG
    go_wp2_with fail
    refine HNX.out.mono ?_
    rintro e w5 ⟨rfl, k5, rfl⟩
    go_wp2_with fail
    refine (HWR.out _).mono ?_
    rintro e w6 ⟨rfl, H6⟩
    unfold fv
    have z0 : w6.cell? ⟨KF, 0, none⟩ = some (.int .i64 0) := H6.out.2.cell 0
    have z1 : w6.cell? ⟨KF, 1, none⟩ = some (.int .i64 0) := H6.out.2.cell 1
    have z2 := H6.out.2.fz 0
    have z3 := H6.out.2.fz 1
    have hwK : w.heap.size ≤ KF := by have := H6.out.1.h0; omega
    obtain ⟨w7, hw7⟩ : ∃ w7, (w6.setCell ⟨KF, 0, none⟩ (.int .i64 (F.1 : Int))).setCell ⟨KF, 1, none⟩ (.int .i64 ((l.length - F.2 : Nat) : Int)) = w7 := ⟨_, rfl⟩
    have HS7 : Hid (SW w w7 K0 K1) := by
     rw [← hw7]
     exact ⟨(H6.out.1.k0.other (by omega) _ _).other (by omega) _ _, (H6.out.1.k1.other (by omega) _ _).other (by omega) _ _, (H6.out.1.bl.setCell (p := ⟨KF, 0, none⟩) hwK _).setCell (p := ⟨KF, 1, none⟩) hwK _, H6.out.1.h0, H6.out.1.h1⟩
    have HF7 : Hid (Bx w7 KF #[.int .i64 (F.1 : Int), .int .i64 ((l.length - F.2 : Nat) : Int)] 59) := by rw [← hw7]; exact (H6.out.2.set 0 _).set 1 _
    have j0_ : w7.cell? ⟨KF, 0, none⟩ = some (.int .i64 (F.1 : Int)) := HF7.out.cell 0
    have j1_ : w7.cell? ⟨KF, 1, none⟩ = some (.int .i64 ((l.length - F.2 : Nat) : Int)) := HF7.out.cell 1
    clear X0 X1 X2 X3 Y0 Y1 Z0 Z1 Z2 Z3 V0 V1 H6 i0 i1
    obtain ⟨X0, X1, X2, X3, Y0, Y1, Z0, Z1, Z2, Z3, V0, V1⟩ := HS7.out.c
    have hd10b : K1 ≠ K0 := by have := HS7.out.h1; omega
    have hd01b : K0 ≠ K1 := by omega
    go_wp2
    go_region
    all_goals
     go_wp2
     have hO := HS7.out.out (.int .i64 0) (.string ⟨#[]⟩) (.string ⟨#[]⟩) (.slice none 0 0) (.int .i64 (F.1 : Int)) (.int .i64 ((l.length - F.2 : Nat) : Int))
     change bodyPost _ _ _ _ _ (fill6 w7 K0 K1 (.int .i64 0) (.string ⟨#[]⟩) (.string ⟨#[]⟩) (.slice none 0 0) (.int .i64 (F.1 : Int)) (.int .i64 ((l.length - F.2 : Nat) : Int))).drew
     generalize fill6 w7 K0 K1 (.int .i64 0) (.string ⟨#[]⟩) (.string ⟨#[]⟩) (.slice none 0 0) (.int .i64 (F.1 : Int)) (.int .i64 ((l.length - F.2 : Nat) : Int)) = WF at hO ⊢
     obtain ⟨o2, o3, o4⟩ := hO
     have j0 : WF.drew.cell? ⟨K0, 0, none⟩ = _ := o3.cell 0
     have j1 : WF.drew.cell? ⟨K0, 1, none⟩ = _ := o3.cell 1
     have j2 : WF.drew.cell? ⟨K0, 2, none⟩ = _ := o3.cell 2
     have j3 : WF.drew.cell? ⟨K0, 3, none⟩ = _ := o3.cell 3
     have j4 : WF.drew.cell? ⟨K1, 0, none⟩ = _ := o4.cell 0
     have j5 : WF.drew.cell? ⟨K1, 1, none⟩ = _ := o4.cell 1
     replace o2 := o2.drew
     refine bodyPost_ret (v := .tuple #[.agg #[.int .i64 0, .string ⟨#[]⟩, .string ⟨#[]⟩, .slice none 0 0], .agg #[.int .i64 (F.1 : Int), .int .i64 ((l.length - F.2 : Nat) : Int)]]) (by simp [results, Tryz.results26, go_sem, j0, j1, j2, j3, j4, j5]) rfl ?_
     exact ⟨_, by rw [HV.out], by rw [HV.out]; exact trV0, o2⟩
end Go.Proofs.YtfohbiohleekbaaGreatDoor.Flw
end

section
/- . -/
namespace Go.Proofs.YtfohbiohleekbaaGreatDoor.Flw
open Utf Rws Pln
open Go.RowKit
set_option linter.unusedSimpArgs false
set_option linter.unusedVariables false
set_option maxRecDepth 100000
theorem getD_mem {xs : List Tr} {i : Nat} (h : i < xs.length) : xs.getD i tr0 ∈ xs := by
 rw [List.getD_eq_getElem?_getD, List.getElem?_eq_getElem h]
 exact List.getElem_mem h
end Go.Proofs.YtfohbiohleekbaaGreatDoor.Flw
end
