/- Several texts as one: FlowWr, FlowKids, FlowWrS, FlowWrtL. -/
import Derived.Test.YtaphijgbebhdlaaGreatDoorV06FlowRight
import Derived.Test.YtaphijgbebhdlaaGreatDoorV25QuoteBldW
import Derived.Test.YtaphijgbebhdlaaGreatDoorV09FlowAllow
import Derived.Test.YtaphijgbebhdlaaGreatDoorV04PlainEndY
section
/- a strings.Builder of one's own, as flow.write uses it. -/
namespace Go.Proofs.YtaphijgbebhdlaaGreatDoor.Flw
open Utf Rws Pln
open Go.RowKit
set_option linter.unusedSimpArgs false
set_option linter.unusedVariables false
set_option maxRecDepth 100000

theorem embB : Quo.Emb 67 2 := ⟨by decide, by kernel_rfl⟩
/-- a builder in block b that has built out -/
def Wb (B b : Nat) (out : Ln) (w : World) : Prop := Quo.Bld 67 B b [] (Lib.byteCells out) w
variable {B b KB : Nat} {out : Ln} {w w1 w2 : World}
theorem Wb.lt (h : Wb B b out w) : b < w.heap.size := Quo.Bld.lt h
theorem Wb.later (h : Wb B b out w) (hb : Below w.heap.size w w1) : Wb B b out w1 := Quo.Bld.later h hb
theorem Wb.base (h : Wb B b out w) : B ≤ b := by rcases h with ⟨h, _⟩ | ⟨h, _⟩ <;> exact h
theorem wStr (s : Ln) (w : World) (h : Wb B b out w) (hlen : out.length + s.length ≤ 140737488355328) (hBw : B ≤ w.heap.size) :
    Calls Tryz.prog 40 #[.pointer (some ⟨b, 0, none⟩), .string (mk s)] w fun e w' => e = .returned (.tuple #[.int .i64 (s.length : Int), .nilIface]) ∧ Wb B b (out ++ s) w' ∧ Quo.Fr B b w w' := by
  refine (Quo.writeString_any embB (mk s) h (by rw [Quo.cells_len, mk_size]; exact hlen) hBw).mono ?_
  rintro e w' ⟨h1, h2, h3, h4⟩
  rw [mk_size] at h1
  refine ⟨h1, ?_, h3, h4⟩
  have e : Lib.byteCells out ++ Lib.strCells (mk s) = Lib.byteCells (out ++ s) := by
    simp [Lib.byteCells, Lib.strCells, mk_data]
  rw [e] at h2
  exact h2
/-- a builder, a tree's box beside it, in a world behind W (what lies below B has stayed) -/
structure Wk (W w0 w : World) (B b KB : Nat) (out : Ln) (tc : Array Value) : Prop where
  g : Wb B b out w
  t : Bx w KB tc 29
  bl : Below W.heap.size W w
  f : Quo.Fr B b w0 w
  hB : W.heap.size ≤ B
  hs : B ≤ w.heap.size
  hk : KB ≠ b
theorem Wk.later {W w0 : World} {tc : Array Value} (h : Wk W w0 w B b KB out tc) (hb : Below w.heap.size w w1) : Wk W w0 w1 B b KB out tc :=
  ⟨h.g.later hb, h.t.later hb, h.bl.trans (hb.mono h.bl.size), h.f.trans (Quo.Fr.of hb h.hs), h.hB, Nat.le_trans h.hs hb.size, h.hk⟩
theorem Wk.fr {W w0 : World} {tc : Array Value} {out' : Ln} (h : Wk W w0 w B b KB out tc) (hw : Wb B b out' w1) (hf : Quo.Fr B b w w1) : Wk W w0 w1 B b KB out' tc :=
  ⟨hw, hf.keep h.t h.hk (fun c fz e => by cases e), h.bl.trans (hf.1.mono h.hB), h.f.trans hf, h.hB, Nat.le_trans h.hs hf.1.size, h.hk⟩
/-- .. when a string is written -/
theorem wk_str {W w0 : World} {tc : Array Value} (s : Ln) (h : Wk W w0 w B b KB out tc) (hlen : out.length + s.length ≤ 140737488355328) :
    Calls Tryz.prog 40 #[.pointer (some ⟨b, 0, none⟩), .string (mk s)] w fun e w' => e = .returned (.tuple #[.int .i64 (s.length : Int), .nilIface]) ∧ Hid (Wk W w0 w' B b KB (out ++ s) tc) :=
  (wStr s w h.g hlen h.hs).mono (fun e w' g => ⟨g.1, h.fr g.2.1 g.2.2⟩)
theorem Wk.new {W : World} {tc : Array Value} (h : Wb B b out w) (hb : Below W.heap.size W w) (hB : W.heap.size ≤ B) (hs : B ≤ w.heap.size) : Wk W w (w.alloc (.cells tc 29)) B b w.heap.size out tc :=
  ⟨h.later (below_alloc _ _), Bx.new _ _ _, hb.trans ((below_alloc _ _).mono hb.size), Quo.Fr.of (below_alloc _ _) hs, hB, by rw [World.size_alloc]; omega, by have := h.lt; omega⟩
end Go.Proofs.YtaphijgbebhdlaaGreatDoor.Flw
end

section
/- flow.writeKids, by its contract. -/
namespace Go.Proofs.YtaphijgbebhdlaaGreatDoor.Flw
open Utf Rws Pln
open Go.RowKit
set_option linter.unusedSimpArgs false
set_option linter.unusedVariables false
set_option maxRecDepth 100000
set_option maxHeartbeats 4000000

/-- .. and a kid's box -/
structure Wq (W w0 w : World) (B b KB KK : Nat) (out : Ln) (tc kc : Array Value) : Prop where
  g : Wk W w0 w B b KB out tc
  k : Bx w KK kc 29
  hk : KK ≠ b
theorem Wq.later {W w0 w w1 : World} {B b KB KK : Nat} {out : Ln} {tc kc : Array Value} (h : Wq W w0 w B b KB KK out tc kc) (hb : Below w.heap.size w w1) : Wq W w0 w1 B b KB KK out tc kc :=
  ⟨h.g.later hb, h.k.later hb, h.hk⟩
theorem Wq.new {W w0 w : World} {B b KB : Nat} {out : Ln} {tc kc : Array Value} (h : Wk W w0 w B b KB out tc) : Wq W w0 (w.alloc (.cells kc 29)) B b KB w.heap.size out tc kc :=
  ⟨h.later (below_alloc _ _), Bx.new _ _ _, by have := h.g.lt; omega⟩
theorem wq_str {W w0 w : World} {B b KB KK : Nat} {out : Ln} {tc kc : Array Value} (s : Ln) (h : Wq W w0 w B b KB KK out tc kc) (hlen : out.length + s.length ≤ 140737488355328) :
    Calls Tryz.prog 40 #[.pointer (some ⟨b, 0, none⟩), .string (mk s)] w fun e w' => e = .returned (.tuple #[.int .i64 (s.length : Int), .nilIface]) ∧ Hid (Wq W w0 w' B b KB KK (out ++ s) tc kc) :=
  (wStr s w h.g.g hlen h.g.hs).mono (fun e w' g => ⟨g.1, h.g.fr g.2.1 g.2.2, g.2.2.keep h.k h.hk (fun c fz e => by cases e), h.hk⟩)
theorem sep_no {mp : Bool} {p : Nat} (h : (mp && decide (p % 2 = 0)) = false) : sep mp (p + 1) = [44, 32] := by
  unfold sep
  rw [if_neg (by omega), if_neg]
  rintro ⟨h1, h2⟩
  rw [h1, decide_eq_true (by omega)] at h
  cases h
theorem sep_yes {mp : Bool} {p : Nat} (h : (mp && decide (p % 2 = 0)) = true) : sep mp (p + 1) = [58, 32] := by
  unfold sep
  simp only [Bool.and_eq_true, decide_eq_true_eq] at h
  rw [if_neg (by omega), if_pos ⟨h.1, by omega⟩]
/-- what write does with a tree -/
def WrOk (W : World) (B b d : Nat) (f : Tr → Ln) (P : Tr → Prop) : Prop := ∀ (v : Value) (t : Tr) (w : World) (out : Ln), P t → TrV W d v t → Below W.heap.size W w → W.heap.size ≤ B → B ≤ w.heap.size → Wb B b out w → out.length + (f t).length ≤ 140737488355328 →
  Calls Tryz.prog 25 #[.pointer (some ⟨b, 0, none⟩), v] w fun e w' => e = .returned (.tuple #[]) ∧ Wb B b (out ++ f t) w' ∧ Quo.Fr B b w w'
theorem jn_at (f : Tr → Ln) (mp : Bool) (j : Nat) (ks : List Tr) (h : j < ks.length) : jn mp j ((ks.drop j).map f) = sep mp j ++ (f (ks.getD j tr0) ++ jn mp (j + 1) ((ks.drop (j + 1)).map f)) := by
  rw [List.drop_eq_getElem_cons h, List.getD_eq_getElem?_getD, List.getElem?_eq_getElem h, ← List.append_assoc]
  rfl
theorem writeKids_core (k : Int) (x a : Ln) (ad : Option Addr) (len cap : Nat) (W w : World) (B b d : Nat) (ks : List Tr) (hl : len ≤ 9223372036854775807)
    (HK : Hid (KAt W d ad len ks)) (HBW : Hid (Below W.heap.size W w)) (hB : W.heap.size ≤ B) (hs : B ≤ w.heap.size) (out : Ln) (HW : Hid (Wb B b out w))
    (f : Tr → Ln) (P : Tr → Prop) (hP : ∀ i, i < ks.length → P (ks.getD i tr0)) (HI : Hid (WrOk W B b d f P)) (mp : Bool) (HM : Hid (mp = decide (k = 6))) (J : Ln) (HJ : Hid (J = jn mp 0 (ks.map f))) (hlen : out.length + J.length ≤ 140737488355328) :
    Calls Tryz.prog 41 #[.pointer (some ⟨b, 0, none⟩), tv k x a ad len cap] w fun e w' => e = .returned (.tuple #[]) ∧ Hid (Wb B b (out ++ J) w' ∧ Quo.Fr B b w w') := by
  have H1 : Hid (Wk W w (w.alloc (.cells #[.int .i64 k, .string (mk x), .string (mk a), .slice ad len cap] 29)) B b w.heap.size out #[.int .i64 k, .string (mk x), .string (mk a), .slice ad len cap]) := Wk.new HW.out HBW.out hB hs
  obtain ⟨w1, hw1⟩ : ∃ w1, w.alloc (.cells #[.int .i64 k, .string (mk x), .string (mk a), .slice ad len cap] 29) = w1 := ⟨_, rfl⟩
  rw [hw1] at H1
  obtain ⟨KB, hKB⟩ : ∃ KB, w.heap.size = KB := ⟨_, rfl⟩
  rw [hKB] at H1
  have e3 : w1.cell? ⟨KB, 3, none⟩ = some (.slice ad len cap) := H1.out.t.cell 3
  have HLN : Hid (out.length + J.length ≤ 140737488355328) := hlen
  clear hlen HW HBW
  go_enter Tryz.func41, Tryz.ntmps41
  go_wp2_with fail
  clear e3
  go_loopw [9] (fun i wr => ∃ (j : Nat) (acc : Ln), j ≤ len ∧ i = .int .i64 j ∧ Hid (Wk W w wr B b KB acc #[.int .i64 k, .string (mk x), .string (mk a), .slice ad len cap]) ∧ Hid (out ++ J = acc ++ jn mp j ((ks.drop j).map f))) (fun i _ => len - (intOf i).toNat)
  case atStart => exact ⟨0, out, Nat.zero_le _, rfl, H1, by show _ = _; rw [HJ.out]; rfl⟩
  case round =>
    obtain ⟨j, acc, hj, rfl, HWk, HA⟩ := hrel
    clear H1
    by_cases hlt : j < len
    · have hlk : j < ks.length := by have := HK.out.1; omega
      obtain ⟨b', off, rfl, hb, hcell⟩ := HK.out.2 (by omega)
      obtain ⟨c0, c1, c2, c3, x0, x1, x2, x3, hx'⟩ := hcell j hlt
      replace x0 := (HWk.out.bl.cell (p := ⟨b', off + j * 4, none⟩) hb).trans x0
      replace x1 := (HWk.out.bl.cell (p := ⟨b', off + j * 4 + 1, none⟩) hb).trans x1
      replace x2 := (HWk.out.bl.cell (p := ⟨b', off + j * 4 + 2, none⟩) hb).trans x2
      replace x3 := (HWk.out.bl.cell (p := ⟨b', off + j * 4 + 3, none⟩) hb).trans x3
      have HV : Hid (TrV W d (.agg #[c0, c1, c2, c3]) (ks.getD j tr0)) := hx'
      obtain ⟨ad', len', cap', rfl, rfl, rfl, rfl⟩ := hx'.four
      clear hcell hx'
      have HPk : Hid (P (ks.getD j tr0)) := hP j hlk
      have HAT : Hid (out ++ J = acc ++ (sep mp j ++ (f (ks.getD j tr0) ++ jn mp (j + 1) ((ks.drop (j + 1)).map f)))) := HA.out.trans (by rw [jn_at f mp j ks hlk])
      clear HA
      generalize ks.getD j tr0 = t' at x0 x1 x2 x3 HV HPk HAT
      obtain ⟨k', y', a', ks'⟩ := t'
      simp only at x0 x1 x2 x3 HV HAT
      obtain ⟨F, HF⟩ : ∃ F, Hid (F = f ⟨k', y', a', ks'⟩) := ⟨_, rfl⟩
      obtain ⟨S, HS⟩ : ∃ S, Hid (S = sep mp j) := ⟨_, rfl⟩
      rw [← HF.out, ← HS.out] at HAT
      have HL2 : Hid (acc.length + (S.length + F.length) ≤ 140737488355328) := by
        have h1 := congrArg List.length HAT.out
        simp only [List.length_append] at h1
        have h2 := HLN.out
        show _ ≤ _
        omega
      have H4 : Hid (Wq W w (wr.alloc (.cells #[.int .i64 k', .string (mk y'), .string (mk a'), .slice ad' len' cap'] 29)) B b KB wr.heap.size acc #[.int .i64 k, .string (mk x), .string (mk a), .slice (some ⟨b', off, none⟩) len cap] #[.int .i64 k', .string (mk y'), .string (mk a'), .slice ad' len' cap']) := Wq.new HWk.out
      go_upto_region 5 with fail
      generalize wr.alloc (.cells #[.int .i64 k', .string (mk y'), .string (mk a'), .slice ad' len' cap'] 29) = w4 at H4 ⊢
      generalize wr.heap.size = KK at H4 ⊢
      have HKP : Hid (∀ (p : Nat) (w' : World), j = p + 1 → Hid (Wq W w w' B b KB KK (acc) #[.int .i64 k, .string (mk x), .string (mk a), .slice (some ⟨b', off, none⟩) len cap] #[.int .i64 k', .string (mk y'), .string (mk a'), .slice ad' len' cap']) → Calls Tryz.prog 62 #[.agg #[.int .i64 k, .string (mk x), .string (mk a), .slice (some ⟨b', off, none⟩) len cap], .int .i64 (p : Int)] w' fun e w'' => e = .returned (.bool (mp && decide (p % 2 = 0))) ∧ Hid (Wq W w w'' B b KB KK (acc) #[.int .i64 k, .string (mk x), .string (mk a), .slice (some ⟨b', off, none⟩) len cap] #[.int .i64 k', .string (mk y'), .string (mk a'), .slice ad' len' cap'])) := fun p w' hp h => (isKeyPlace_any p (by omega)).mono (fun e w'' g => ⟨by rw [g.1, HM.out], h.out.later g.2⟩)
      have HST : Hid (∀ w' s, S = s → Hid (Wq W w w' B b KB KK (acc) #[.int .i64 k, .string (mk x), .string (mk a), .slice (some ⟨b', off, none⟩) len cap] #[.int .i64 k', .string (mk y'), .string (mk a'), .slice ad' len' cap']) → Calls Tryz.prog 40 #[.pointer (some ⟨b, 0, none⟩), .string (mk s)] w' fun e w'' => e = .returned (.tuple #[.int .i64 (s.length : Int), .nilIface]) ∧ Hid (Wq W w w'' B b KB KK (acc ++ S) #[.int .i64 k, .string (mk x), .string (mk a), .slice (some ⟨b', off, none⟩) len cap] #[.int .i64 k', .string (mk y'), .string (mk a'), .slice ad' len' cap'])) := fun w' s hs h => by
        subst hs
        exact wq_str S h.out (by have := HL2.out; omega)
      have HWR : Hid (∀ w', Hid (Wq W w w' B b KB KK (acc ++ S) #[.int .i64 k, .string (mk x), .string (mk a), .slice (some ⟨b', off, none⟩) len cap] #[.int .i64 k', .string (mk y'), .string (mk a'), .slice ad' len' cap']) → Calls Tryz.prog 25 #[.pointer (some ⟨b, 0, none⟩), .agg #[.int .i64 k', .string (mk y'), .string (mk a'), .slice ad' len' cap']] w' fun e w'' => e = .returned (.tuple #[]) ∧ Hid (Hid (Wk W w w'' B b KB (acc ++ S ++ F) #[.int .i64 k, .string (mk x), .string (mk a), .slice (some ⟨b', off, none⟩) len cap]) ∧ Hid (out ++ J = acc ++ S ++ F ++ jn mp (j + 1) ((ks.drop (j + 1)).map f)))) := fun w' h =>
        (HI.out _ _ w' (acc ++ S) HPk.out HV.out h.out.g.bl h.out.g.hB h.out.g.hs h.out.g.g (by rw [← HF.out, List.length_append]; have := HL2.out; omega)).mono (fun e w'' g => ⟨g.1, h.out.g.fr (by have := g.2.1; rw [← HF.out] at this; exact this) g.2.2, by show _ = _; rw [HAT.out]; simp only [List.append_assoc]⟩)
      have u0 : w4.cell? ⟨KB, 0, none⟩ = some (.int .i64 k) := H4.out.g.t.cell 0
      have u1 : w4.cell? ⟨KB, 1, none⟩ = some (.string (mk x)) := H4.out.g.t.cell 1
      have u2 : w4.cell? ⟨KB, 2, none⟩ = some (.string (mk a)) := H4.out.g.t.cell 2
      have u3 : w4.cell? ⟨KB, 3, none⟩ = some (.slice (some ⟨b', off, none⟩) len cap) := H4.out.g.t.cell 3
      have v0 : w4.cell? ⟨KK, 0, none⟩ = some (.int .i64 k') := H4.out.k.cell 0
      have v1 : w4.cell? ⟨KK, 1, none⟩ = some (.string (mk y')) := H4.out.k.cell 1
      have v2 : w4.cell? ⟨KK, 2, none⟩ = some (.string (mk a')) := H4.out.k.cell 2
      have v3 : w4.cell? ⟨KK, 3, none⟩ = some (.slice ad' len' cap') := H4.out.k.cell 3
      clear HV HPk HWk x0 x1 x2 x3 HI HF HAT HL2 HLN HJ
      by_cases hj0 : j = 0
      · subst hj0
        have HS0 : S = [] := HS.out
        subst HS0
        have H4' : Hid (Wq W w w4 B b KB KK (acc ++ []) #[.int .i64 k, .string (mk x), .string (mk a), .slice (some ⟨b', off, none⟩) len cap] #[.int .i64 k', .string (mk y'), .string (mk a'), .slice ad' len' cap']) := by rw [List.append_nil]; exact H4
        go_wp2_with (first | (go_at_call 25; refine (HWR.out _ H4').mono ?_; rintro e w9 ⟨rfl, H9⟩))
        go_roundw
        case rel => exact ⟨0 + 1, _, by omega, by go_num, H9.out.1, H9.out.2⟩
        case measure => simp [intOf]; omega
      obtain ⟨p, rfl⟩ : ∃ p, j = p + 1 := ⟨j - 1, by omega⟩
      clear hj0
      obtain ⟨q1, HQ1⟩ : ∃ q1, Hid (q1 = (mp && decide (p % 2 = 0))) := ⟨_, rfl⟩
      have HKP2 := HKP.out p w4 rfl H4
      rw [← HQ1.out] at HKP2
      cases q1
      · replace HS : Hid (S = [44, 32]) := HS.out.trans (sep_no HQ1.out.symm)
        go_wp2_with (first | (go_at_call 62; refine HKP2.mono ?_; rintro e w5 ⟨rfl, H5⟩) | (go_at_call 40; refine (HST.out _ [44, 32] HS.out H5).mono ?_; rintro e w6 ⟨rfl, H6⟩; have z0 : w6.cell? ⟨KK, 0, none⟩ = some (.int .i64 k') := H6.out.k.cell 0; have z1 : w6.cell? ⟨KK, 1, none⟩ = some (.string (mk y')) := H6.out.k.cell 1; have z2 : w6.cell? ⟨KK, 2, none⟩ = some (.string (mk a')) := H6.out.k.cell 2; have z3 : w6.cell? ⟨KK, 3, none⟩ = some (.slice ad' len' cap') := H6.out.k.cell 3) | (go_at_call 25; refine (HWR.out _ H6).mono ?_; rintro e w9 ⟨rfl, H9⟩))
        go_roundw
        case rel => exact ⟨(p + 1) + 1, _, by omega, by go_num, H9.out.1, H9.out.2⟩
        case measure => simp [intOf]; omega
      · replace HS : Hid (S = [58, 32]) := HS.out.trans (sep_yes HQ1.out.symm)
        go_wp2_with (first | (go_at_call 62; refine HKP2.mono ?_; rintro e w5 ⟨rfl, H5⟩) | (go_at_call 40; refine (HST.out _ [58, 32] HS.out H5).mono ?_; rintro e w6 ⟨rfl, H6⟩; have z0 : w6.cell? ⟨KK, 0, none⟩ = some (.int .i64 k') := H6.out.k.cell 0; have z1 : w6.cell? ⟨KK, 1, none⟩ = some (.string (mk y')) := H6.out.k.cell 1; have z2 : w6.cell? ⟨KK, 2, none⟩ = some (.string (mk a')) := H6.out.k.cell 2; have z3 : w6.cell? ⟨KK, 3, none⟩ = some (.slice ad' len' cap') := H6.out.k.cell 3) | (go_at_call 25; refine (HWR.out _ H6).mono ?_; rintro e w9 ⟨rfl, H9⟩))
        go_roundw
        case rel => exact ⟨(p + 1) + 1, _, by omega, by go_num, H9.out.1, H9.out.2⟩
        case measure => simp [intOf]; omega
    · have HLE : Hid (len = ks.length) := HK.out.1
      have e : j = len := by omega
      subst e
      have HE : Hid (out ++ J = acc) := by show _ = _; rw [HA.out, HLE.out, List.drop_length]; exact List.append_nil _
      go_wp2
      go_end0
      exact ⟨rfl, by rw [HE.out]; exact HWk.out.g, HWk.out.f⟩
end Go.Proofs.YtaphijgbebhdlaaGreatDoor.Flw
end

section
/- flow.Scalar, flow.write and flow.Write at a tree without anchors whose scalars are numbers or plain texts. -/
namespace Go.Proofs.YtaphijgbebhdlaaGreatDoor.Flw
open Utf Rws Pln
open Go.RowKit
set_option linter.unusedSimpArgs false
set_option linter.unusedVariables false
set_option maxRecDepth 100000
set_option maxHeartbeats 4000000

def plS (k : Int) (x : Ln) : Prop := k = 3 ∨ k = 4 ∧ isP x true = true ∧ knd x = 4
theorem scalarS {w : World} {k : Int} {x a : Ln} {ad : Option Addr} {len cap : Nat} (hx : x.length ≤ 65536) (hT : Tb w) (hk : plS k x) : Calls Tryz.prog 42 #[tv k x a ad len cap, .bool true] w fun e w' => e = .returned (.string (mk x)) ∧ Below w.heap.size w w' := by
  have b1 := below_alloc w (.cells #[.int .i64 k, .string (mk x), .string (mk a), .slice ad len cap] 29)
  rcases hk with rfl | ⟨rfl, hi, hk⟩
  · clear hT b1
    go_enter Tryz.func42, Tryz.ntmps42
    go_wp2
    go_ret
    exact ⟨rfl, below_alloc _ _⟩
  · have hx0 := Bx.new w #[.int .i64 4, .string (mk x), .string (mk a), .slice ad len cap] 29
    obtain ⟨W, hW⟩ : ∃ W, w.alloc (.cells #[.int .i64 4, .string (mk x), .string (mk a), .slice ad len cap] 29) = W := ⟨_, rfl⟩
    rw [hW] at hx0 b1
    obtain ⟨K, hK⟩ : ∃ K, w.heap.size = K := ⟨_, rfl⟩
    rw [hK] at hx0
    have HI : Hid (Calls Tryz.prog 65 #[.string (mk x), .bool true] W fun e w'' => e = .returned (.bool true) ∧ Hid (Bx w'' K #[.int .i64 4, .string (mk x), .string (mk a), .slice ad len cap] 29 ∧ Below w.heap.size w w'' ∧ Tb w'')) := (is_any x true _ (by omega)).mono (fun e w'' g => ⟨by rw [g.1, hi], ⟨hx0.later g.2, b1.trans (g.2.mono b1.size), (hT.later b1).later g.2⟩⟩)
    have HR : Hid (∀ w', Hid (Bx w' K #[.int .i64 4, .string (mk x), .string (mk a), .slice ad len cap] 29 ∧ Below w.heap.size w w' ∧ Tb w') → Calls Tryz.prog 66 #[.string (mk x)] w' fun e w'' => e = .returned (.int .i64 4) ∧ Hid (Bx w'' K #[.int .i64 4, .string (mk x), .string (mk a), .slice ad len cap] 29 ∧ Below w.heap.size w w'')) := fun w' h => (resolve_any x _ (by omega) h.out.2.2.1).mono (fun e w'' g => ⟨g.1.trans (congrArg (fun k => Ending.returned (.int .i64 k)) hk), ⟨h.out.1.later g.2, h.out.2.1.trans (g.2.mono h.out.2.1.size)⟩⟩)
    have u0 : W.cell? ⟨K, 0, none⟩ = some (.int .i64 4) := hx0.cell 0
    have u1 : W.cell? ⟨K, 1, none⟩ = some (.string (mk x)) := hx0.cell 1
    clear hT b1 hx0 hi hk
    go_enter Tryz.func42, Tryz.ntmps42
    go_upto_region 1 with fail
    go_wp2_with (first | (go_at_call 65; refine HI.out.mono ?_; rintro e w5 ⟨rfl, H5⟩; have v1 : w5.cell? ⟨K, 1, none⟩ = some (.string (mk x)) := H5.out.1.cell 1) | (go_at_call 66; refine (HR.out _ H5).mono ?_; rintro e w6 ⟨rfl, H6⟩; have z1 : w6.cell? ⟨K, 1, none⟩ = some (.string (mk x)) := H6.out.1.cell 1))
    go_ret
    exact ⟨rfl, hK ▸ H6.out.2⟩
variable {x : Ln} {ad : Option Addr} {len cap : Nat} {W w : World} {B b d : Nat} {ks : List Tr} {out : Ln}
theorem wrS_leaf {k : Int} (hk : plS k x) (hx : x.length ≤ 65536) (HBW : Below W.heap.size W w) (HTW : Tb W) (hB : W.heap.size ≤ B) (hs : B ≤ w.heap.size) (HW : Wb B b out w) (hlen : out.length + x.length ≤ 140737488355328) :
    Calls Tryz.prog 25 #[.pointer (some ⟨b, 0, none⟩), tv k x [] ad len cap] w fun e w' => e = .returned (.tuple #[]) ∧ Wb B b (out ++ x) w' ∧ Quo.Fr B b w w' := by
  have H1 : Hid (Wk W w (w.alloc (.cells #[.int .i64 k, .string (mk x), .string (mk []), .slice ad len cap] 29)) B b w.heap.size out #[.int .i64 k, .string (mk x), .string (mk []), .slice ad len cap]) := Wk.new HW HBW hB hs
  obtain ⟨w1, hw1⟩ : ∃ w1, w.alloc (.cells #[.int .i64 k, .string (mk x), .string (mk []), .slice ad len cap] 29) = w1 := ⟨_, rfl⟩
  rw [hw1] at H1
  obtain ⟨KB, hKB⟩ : ∃ KB, w.heap.size = KB := ⟨_, rfl⟩
  rw [hKB] at H1
  have e0 : w1.cell? ⟨KB, 0, none⟩ = some (.int .i64 k) := H1.out.t.cell 0
  have e1 : w1.cell? ⟨KB, 1, none⟩ = some (.string (mk x)) := H1.out.t.cell 1
  have e2 : w1.cell? ⟨KB, 2, none⟩ = some (.string (mk [])) := H1.out.t.cell 2
  have e3 : w1.cell? ⟨KB, 3, none⟩ = some (.slice ad len cap) := H1.out.t.cell 3
  have HST : Hid (∀ w', Hid (Wk W w w' B b KB out #[.int .i64 k, .string (mk x), .string (mk []), .slice ad len cap]) → Calls Tryz.prog 40 #[.pointer (some ⟨b, 0, none⟩), .string (mk x)] w' fun e w'' => e = .returned (.tuple #[.int .i64 (x.length : Int), .nilIface]) ∧ Hid (Wk W w w'' B b KB (out ++ x) #[.int .i64 k, .string (mk x), .string (mk []), .slice ad len cap])) := fun w' h => wk_str x h.out hlen
  have HSC : Hid (Calls Tryz.prog 42 #[.agg #[.int .i64 k, .string (mk x), .string (mk []), .slice ad len cap], .bool true] w1 fun e w'' => e = .returned (.string (mk x)) ∧ Hid (Wk W w w'' B b KB out #[.int .i64 k, .string (mk x), .string (mk []), .slice ad len cap])) :=
    (scalarS hx (HTW.later H1.out.bl) hk).mono (fun e w'' g => ⟨g.1, H1.out.later g.2⟩)
  have he : ((mk []).toList == []) = true := by rw [ByteArray.toList_eq, mk_data]; rfl
  have k7 : (k == 7) = false := by rcases hk with rfl | ⟨rfl, _⟩ <;> rfl
  have k5 : (k == 5) = false := by rcases hk with rfl | ⟨rfl, _⟩ <;> rfl
  have k6 : (k == 6) = false := by rcases hk with rfl | ⟨rfl, _⟩ <;> rfl
  clear HW HBW HTW hk hlen
  go_enter Tryz.func25, Tryz.ntmps25
  go_wp2_with fail
  refine HSC.out.mono ?_
  rintro e w2 ⟨rfl, G1⟩
  go_wp2_with fail
  refine (HST.out _ G1).mono ?_
  rintro e w4 ⟨rfl, G3⟩
  go_wp2
  go_end0
  exact ⟨rfl, G3.out.g, G3.out.f⟩
end Go.Proofs.YtaphijgbebhdlaaGreatDoor.Flw
end

section
/- flow.write, by its contract. -/
namespace Go.Proofs.YtaphijgbebhdlaaGreatDoor.Flw
open Utf Rws Pln
open Go.RowKit
set_option linter.unusedSimpArgs false
set_option linter.unusedVariables false
set_option maxRecDepth 100000
set_option maxHeartbeats 4000000

theorem mk_app (a b : List UInt8) : mk a ++ mk b = mk (a ++ b) := by
  have h : (mk a ++ mk b).data.toList = a ++ b := by
    rw [ByteArray.data_append, Array.toList_append, mk_data, mk_data]
  rw [← mk_of (mk a ++ mk b), h]

theorem write_alias (x a : Ln) (ad : Option Addr) (len cap : Nat) (W w : World) (B b : Nat) (ha : a.length ≤ 65536)
    (HBW : Hid (Below W.heap.size W w)) (hB : W.heap.size ≤ B) (hs : B ≤ w.heap.size) (out : Ln) (HW : Hid (Wb B b out w)) (hlen : out.length + (42 :: a).length ≤ 140737488355328) :
    Calls Tryz.prog 25 #[.pointer (some ⟨b, 0, none⟩), tv 7 x a ad len cap] w fun e w' => e = .returned (.tuple #[]) ∧ Wb B b (out ++ 42 :: a) w' ∧ Quo.Fr B b w w' := by
  have H1 : Hid (Wk W w (w.alloc (.cells #[.int .i64 7, .string (mk x), .string (mk a), .slice ad len cap] 29)) B b w.heap.size out #[.int .i64 7, .string (mk x), .string (mk a), .slice ad len cap]) := Wk.new HW.out HBW.out hB hs
  obtain ⟨w1, hw1⟩ : ∃ w1, w.alloc (.cells #[.int .i64 7, .string (mk x), .string (mk a), .slice ad len cap] 29) = w1 := ⟨_, rfl⟩
  rw [hw1] at H1
  obtain ⟨KB, hKB⟩ : ∃ KB, w.heap.size = KB := ⟨_, rfl⟩
  rw [hKB] at H1
  have e0 : w1.cell? ⟨KB, 0, none⟩ = some (.int .i64 7) := H1.out.t.cell 0
  have e2 : w1.cell? ⟨KB, 2, none⟩ = some (.string (mk a)) := H1.out.t.cell 2
  have hma : (mk a).size ≤ 65536 := by rw [mk_size]; exact ha
  have HST : Hid (Calls Tryz.prog 40 #[.pointer (some ⟨b, 0, none⟩), .string (mk (42 :: a))] w1 fun e w' => e = .returned (.tuple #[.int .i64 ((42 :: a).length : Int), .nilIface]) ∧ Hid (Wk W w w' B b KB (out ++ 42 :: a) #[.int .i64 7, .string (mk x), .string (mk a), .slice ad len cap])) := wk_str (42 :: a) H1.out hlen
  clear hlen HW HBW
  go_enter Tryz.func25, Tryz.ntmps25
  go_wp2_with fail
  rw [show ((⟨#[42]⟩ : ByteArray) ++ mk a) = mk (42 :: a) from mk_app [42] a]
  refine HST.out.mono ?_
  rintro e w2 ⟨rfl, H2⟩
  go_wp2
  exact bodyPost_ret (v := .tuple #[]) (by simp [results, Tryz.results25, go_sem]) rfl ⟨rfl, H2.out.g, H2.out.f⟩
theorem write_seq  (x a : Ln) (ad : Option Addr) (len cap : Nat) (W w : World) (B b d : Nat) (ks : List Tr) (hl : len ≤ 9223372036854775807) (hx : x.length ≤ 65536) (ha : a.length ≤ 65536)
    (HK : Hid (KAt W d ad len ks)) (HBW : Hid (Below W.heap.size W w)) (HTW : Hid (Tb W)) (hB : W.heap.size ≤ B) (hs : B ≤ w.heap.size) (out : Ln) (HW : Hid (Wb B b out w))
    (f : Tr → Ln) (P : Tr → Prop) (hP : ∀ i, i < ks.length → P (ks.getD i tr0)) (HI : Hid (WrOk W B b d f P)) (hlen : out.length + (ancW a ++ (91 :: (jn false 0 (ks.map f) ++ [93]))).length ≤ 140737488355328) :
    Calls Tryz.prog 25 #[.pointer (some ⟨b, 0, none⟩), tv 5 x a ad len cap] w fun e w' => e = .returned (.tuple #[]) ∧ Wb B b (out ++ (ancW a ++ (91 :: (jn false 0 (ks.map f) ++ [93])))) w' ∧ Quo.Fr B b w w' := by
  have H1 : Hid (Wk W w (w.alloc (.cells #[.int .i64 5, .string (mk x), .string (mk a), .slice ad len cap] 29)) B b w.heap.size out #[.int .i64 5, .string (mk x), .string (mk a), .slice ad len cap]) := Wk.new HW.out HBW.out hB hs
  obtain ⟨w1, hw1⟩ : ∃ w1, w.alloc (.cells #[.int .i64 5, .string (mk x), .string (mk a), .slice ad len cap] 29) = w1 := ⟨_, rfl⟩
  rw [hw1] at H1
  obtain ⟨KB, hKB⟩ : ∃ KB, w.heap.size = KB := ⟨_, rfl⟩
  rw [hKB] at H1
  have e0 : w1.cell? ⟨KB, 0, none⟩ = some (.int .i64 5) := H1.out.t.cell 0
  have e1 : w1.cell? ⟨KB, 1, none⟩ = some (.string (mk x)) := H1.out.t.cell 1
  have e2 : w1.cell? ⟨KB, 2, none⟩ = some (.string (mk a)) := H1.out.t.cell 2
  have e3 : w1.cell? ⟨KB, 3, none⟩ = some (.slice ad len cap) := H1.out.t.cell 3
  have hma : (mk a).size ≤ 65536 := by rw [mk_size]; exact ha
  have HLN : Hid (out.length + (ancW a ++ (91 :: (jn false 0 (ks.map f) ++ [93]))).length ≤ 140737488355328) := hlen
  simp only [List.length_append, List.length_cons, List.length_nil] at hlen
  have HST : Hid (∀ w' s o, o.length + s.length ≤ 140737488355328 → Hid (Wk W w w' B b KB (o) #[.int .i64 5, .string (mk x), .string (mk a), .slice ad len cap]) → Calls Tryz.prog 40 #[.pointer (some ⟨b, 0, none⟩), .string (mk s)] w' fun e w'' => e = .returned (.tuple #[.int .i64 (s.length : Int), .nilIface]) ∧ Hid (Wk W w w'' B b KB (o ++ s) #[.int .i64 5, .string (mk x), .string (mk a), .slice ad len cap])) := fun w' s o hl h => wk_str s h.out hl
  have HKD : Hid (∀ w' o, o.length + (jn false 0 (ks.map f)).length ≤ 140737488355328 → Hid (Wk W w w' B b KB (o) #[.int .i64 5, .string (mk x), .string (mk a), .slice ad len cap]) → Calls Tryz.prog 41 #[.pointer (some ⟨b, 0, none⟩), .agg #[.int .i64 5, .string (mk x), .string (mk a), .slice ad len cap]] w' fun e w'' => e = .returned (.tuple #[]) ∧ Hid (Wk W w w'' B b KB (o ++ jn false 0 (ks.map f)) #[.int .i64 5, .string (mk x), .string (mk a), .slice ad len cap])) := fun w' o hl' h =>
    (writeKids_core 5 x a ad len cap W w' B b d ks hl HK.out h.out.bl hB h.out.hs o h.out.g f P hP HI false rfl _ rfl hl').mono (fun e w'' g => ⟨g.1, h.out.fr g.2.out.1 g.2.out.2⟩)
  generalize jn false 0 (ks.map f) = J at *
  clear HW HBW HI hP HTW HK
  by_cases h0 : a = []
  · subst h0
    have he : ((mk []).toList == []) = true := by rw [ByteArray.toList_eq, mk_data]; rfl
    have hA : ancW [] = [] := rfl
    rw [hA] at HLN hlen ⊢
    go_enter Tryz.func25, Tryz.ntmps25
    go_wp2_with fail
    refine (HST.out _ [91] out (by simp at hlen ⊢; omega) H1).mono ?_
    rintro e w2 ⟨rfl, G1⟩
    have g0 : w2.cell? ⟨KB, 0, none⟩ = some (.int .i64 5) := G1.out.t.cell 0
    have g1 : w2.cell? ⟨KB, 1, none⟩ = some (.string (mk x)) := G1.out.t.cell 1
    have g2 : w2.cell? ⟨KB, 2, none⟩ = some (.string (mk [])) := G1.out.t.cell 2
    have g3 : w2.cell? ⟨KB, 3, none⟩ = some (.slice ad len cap) := G1.out.t.cell 3
    go_wp2_with fail
    refine (HKD.out _ _ (by simp at hlen ⊢; omega) G1).mono ?_
    rintro e w3 ⟨rfl, G2⟩
    go_wp2_with fail
    refine (HST.out _ [93] _ (by simp at hlen ⊢; omega) G2).mono ?_
    rintro e w4 ⟨rfl, G3⟩
    go_wp2
    go_end0
    exact ⟨rfl, by have := G3.out.g; simpa using this, G3.out.f⟩
  · have he : ((mk a).toList == []) = false := by rw [ByteArray.toList_eq, mk_data]; simpa using h0
    have hA : ancW a = 38 :: (a ++ [32]) := if_neg h0
    rw [hA] at HLN hlen ⊢
    go_enter Tryz.func25, Tryz.ntmps25
    go_wp2_with fail
    rw [show ((⟨#[38]⟩ : ByteArray) ++ mk a ++ ⟨#[32]⟩) = mk (38 :: (a ++ [32])) from by rw [show ((⟨#[38]⟩ : ByteArray) ++ mk a) = mk (38 :: a) from mk_app [38] a]; exact mk_app (38 :: a) [32]]
    refine (HST.out _ (38 :: (a ++ [32])) out (by simp at hlen ⊢; omega) H1).mono ?_
    rintro e w2 ⟨rfl, G0⟩
    have g0 : w2.cell? ⟨KB, 0, none⟩ = some (.int .i64 5) := G0.out.t.cell 0
    have g1 : w2.cell? ⟨KB, 1, none⟩ = some (.string (mk x)) := G0.out.t.cell 1
    have g2 : w2.cell? ⟨KB, 2, none⟩ = some (.string (mk a)) := G0.out.t.cell 2
    have g3 : w2.cell? ⟨KB, 3, none⟩ = some (.slice ad len cap) := G0.out.t.cell 3
    go_wp2_with fail
    refine (HST.out _ [91] _ (by simp at hlen ⊢; omega) G0).mono ?_
    rintro e w3 ⟨rfl, G1⟩
    have i0 : w3.cell? ⟨KB, 0, none⟩ = some (.int .i64 5) := G1.out.t.cell 0
    have i1 : w3.cell? ⟨KB, 1, none⟩ = some (.string (mk x)) := G1.out.t.cell 1
    have i2 : w3.cell? ⟨KB, 2, none⟩ = some (.string (mk a)) := G1.out.t.cell 2
    have i3 : w3.cell? ⟨KB, 3, none⟩ = some (.slice ad len cap) := G1.out.t.cell 3
    go_wp2_with fail
    refine (HKD.out _ _ (by simp at hlen ⊢; omega) G1).mono ?_
    rintro e w4 ⟨rfl, G2⟩
    go_wp2_with fail
    refine (HST.out _ [93] _ (by simp at hlen ⊢; omega) G2).mono ?_
    rintro e w5 ⟨rfl, G3⟩
    go_wp2
    go_end0
    exact ⟨rfl, by have := G3.out.g; simpa using this, G3.out.f⟩
end Go.Proofs.YtaphijgbebhdlaaGreatDoor.Flw
end
