/- Several texts as one: FlowKids, FlowWrt, FlowWrAny, FlowWrite, FlowLive. -/
import Derived.Test.YteokhnielbmifaaGreatDoorFbS
import Derived.Test.YteokhnielbmifaaGreatDoorFbQ
section
/- flow.writeKids, by its contract. -/
namespace Go.Proofs.YteokhnielbmifaaGreatDoor.Flw
open Utf Rws Pln
open Go.RowKit
set_option linter.unusedSimpArgs false
set_option linter.unusedVariables false
set_option maxRecDepth 100000
set_option maxHeartbeats 4000000

/-- .. and a kid's box -/
structure Wq (W w0 w : World) (B b KB KK : Nat) (out : Ln) (tc kc : Array Value) : Prop where
  g : Wk W w0 w B b KB out tc
  k : Bx w KK kc 24
  hk : KK ≠ b
theorem Wq.later {W w0 w w1 : World} {B b KB KK : Nat} {out : Ln} {tc kc : Array Value} (h : Wq W w0 w B b KB KK out tc kc) (hb : Below w.heap.size w w1) : Wq W w0 w1 B b KB KK out tc kc :=
  ⟨h.g.later hb, h.k.later hb, h.hk⟩
theorem Wq.new {W w0 w : World} {B b KB : Nat} {out : Ln} {tc kc : Array Value} (h : Wk W w0 w B b KB out tc) : Wq W w0 (w.alloc (.cells kc 24)) B b KB w.heap.size out tc kc :=
  ⟨h.later (below_alloc _ _), Bx.new _ _ _, by have := h.g.lt; omega⟩
theorem wq_str {W w0 w : World} {B b KB KK : Nat} {out : Ln} {tc kc : Array Value} (s : Ln) (h : Wq W w0 w B b KB KK out tc kc) (hlen : out.length + s.length ≤ 140737488355328) :
    Calls Tryz.prog 40 #[.pointer (some ⟨b, 0, none⟩), .string (mk s)] w fun e w' => e = .returned (.tuple #[.int .i64 (s.length : Int), .nilIface]) ∧ Hid (Wq W w0 w' B b KB KK (out ++ s) tc kc) :=
  (wStr s w h.g.g hlen h.g.hs).mono (fun e w' g => ⟨g.1, h.g.fr g.2.1 g.2.2, g.2.2.keep h.k h.hk (fun c fz e => by cases e), h.hk⟩)
theorem sep_no {mp : Bool} {p : Nat} (h : (mp && decide (p % 2 = 0)) = false) : sep mp (p + 1) = [44, 32] := by
  unfold sep
  rw [if_neg (by omega), if_neg]
  rintro ⟨h1, h2⟩
  rw [h1, decide_eq_true (by omega)] at h
  cases h
theorem sep_yes {mp : Bool} {p : Nat} (h : (mp && decide (p % 2 = 0)) = true) : sep mp (p + 1) = [58, 32] := by
  unfold sep
  simp only [Bool.and_eq_true, decide_eq_true_eq] at h
  rw [if_neg (by omega), if_pos ⟨h.1, by omega⟩]
/-- what write does with a tree -/
def WrOk (W : World) (B b d : Nat) (f : Tr → Ln) (P : Tr → Prop) : Prop := ∀ (v : Value) (t : Tr) (w : World) (out : Ln), P t → TrV W d v t → Below W.heap.size W w → W.heap.size ≤ B → B ≤ w.heap.size → Wb B b out w → out.length + (f t).length ≤ 140737488355328 →
  Calls Tryz.prog 22 #[.pointer (some ⟨b, 0, none⟩), v] w fun e w' => e = .returned (.tuple #[]) ∧ Wb B b (out ++ f t) w' ∧ Quo.Fr B b w w'
theorem jn_at (f : Tr → Ln) (mp : Bool) (j : Nat) (ks : List Tr) (h : j < ks.length) : jn mp j ((ks.drop j).map f) = sep mp j ++ (f (ks.getD j tr0) ++ jn mp (j + 1) ((ks.drop (j + 1)).map f)) := by
  rw [List.drop_eq_getElem_cons h, List.getD_eq_getElem?_getD, List.getElem?_eq_getElem h, ← List.append_assoc]
  rfl
theorem writeKids_core (k : Int) (x a : Ln) (ad : Option Addr) (len cap : Nat) (W w : World) (B b d : Nat) (ks : List Tr) (hl : len ≤ 9223372036854775807)
    (HK : Hid (KAt W d ad len ks)) (HBW : Hid (Below W.heap.size W w)) (hB : W.heap.size ≤ B) (hs : B ≤ w.heap.size) (out : Ln) (HW : Hid (Wb B b out w))
    (f : Tr → Ln) (P : Tr → Prop) (hP : ∀ i, i < ks.length → P (ks.getD i tr0)) (HI : Hid (WrOk W B b d f P)) (mp : Bool) (HM : Hid (mp = decide (k = 6))) (J : Ln) (HJ : Hid (J = jn mp 0 (ks.map f))) (hlen : out.length + J.length ≤ 140737488355328) :
    Calls Tryz.prog 41 #[.pointer (some ⟨b, 0, none⟩), tv k x a ad len cap] w fun e w' => e = .returned (.tuple #[]) ∧ Hid (Wb B b (out ++ J) w' ∧ Quo.Fr B b w w') := by
  have H1 : Hid (Wk W w (w.alloc (.cells #[.int .i64 k, .string (mk x), .string (mk a), .slice ad len cap] 24)) B b w.heap.size out #[.int .i64 k, .string (mk x), .string (mk a), .slice ad len cap]) := Wk.new HW.out HBW.out hB hs
  obtain ⟨w1, hw1⟩ : ∃ w1, w.alloc (.cells #[.int .i64 k, .string (mk x), .string (mk a), .slice ad len cap] 24) = w1 := ⟨_, rfl⟩
  rw [hw1] at H1
  obtain ⟨KB, hKB⟩ : ∃ KB, w.heap.size = KB := ⟨_, rfl⟩
  rw [hKB] at H1
  have e3 : w1.cell? ⟨KB, 3, none⟩ = some (.slice ad len cap) := H1.out.t.cell 3
  have HLN : Hid (out.length + J.length ≤ 140737488355328) := hlen
  clear hlen HW HBW
  go_enter Tryz.func41, Tryz.ntmps41
  go_wp2_with fail
  clear e3
  go_loopw [9] (fun i wr => ∃ (j : Nat) (acc : Ln), j ≤ len ∧ i = .int .i64 j ∧ Hid (Wk W w wr B b KB acc #[.int .i64 k, .string (mk x), .string (mk a), .slice ad len cap]) ∧ Hid (out ++ J = acc ++ jn mp j ((ks.drop j).map f))) (fun i _ => len - (intOf i).toNat)
  case atStart => exact ⟨0, out, Nat.zero_le _, rfl, H1, by show _ = _; rw [HJ.out]; rfl⟩
  case round =>
    obtain ⟨j, acc, hj, rfl, HWk, HA⟩ := hrel
    clear H1
    by_cases hlt : j < len
    · have hlk : j < ks.length := by have := HK.out.1; omega
      obtain ⟨b', off, rfl, hb, hcell⟩ := HK.out.2 (by omega)
      obtain ⟨c0, c1, c2, c3, x0, x1, x2, x3, hx'⟩ := hcell j hlt
      replace x0 := (HWk.out.bl.cell (p := ⟨b', off + j * 4, none⟩) hb).trans x0
      replace x1 := (HWk.out.bl.cell (p := ⟨b', off + j * 4 + 1, none⟩) hb).trans x1
      replace x2 := (HWk.out.bl.cell (p := ⟨b', off + j * 4 + 2, none⟩) hb).trans x2
      replace x3 := (HWk.out.bl.cell (p := ⟨b', off + j * 4 + 3, none⟩) hb).trans x3
      have HV : Hid (TrV W d (.agg #[c0, c1, c2, c3]) (ks.getD j tr0)) := hx'
      obtain ⟨ad', len', cap', rfl, rfl, rfl, rfl⟩ := hx'.four
      clear hcell hx'
      have HPk : Hid (P (ks.getD j tr0)) := hP j hlk
      have HAT : Hid (out ++ J = acc ++ (sep mp j ++ (f (ks.getD j tr0) ++ jn mp (j + 1) ((ks.drop (j + 1)).map f)))) := HA.out.trans (by rw [jn_at f mp j ks hlk])
      clear HA
      generalize ks.getD j tr0 = t' at x0 x1 x2 x3 HV HPk HAT
      obtain ⟨k', y', a', ks'⟩ := t'
      simp only at x0 x1 x2 x3 HV HAT
      obtain ⟨F, HF⟩ : ∃ F, Hid (F = f ⟨k', y', a', ks'⟩) := ⟨_, rfl⟩
      obtain ⟨S, HS⟩ : ∃ S, Hid (S = sep mp j) := ⟨_, rfl⟩
      rw [← HF.out, ← HS.out] at HAT
      have HL2 : Hid (acc.length + (S.length + F.length) ≤ 140737488355328) := by
        have h1 := congrArg List.length HAT.out
        simp only [List.length_append] at h1
        have h2 := HLN.out
        show _ ≤ _
        omega
      have H4 : Hid (Wq W w (wr.alloc (.cells #[.int .i64 k', .string (mk y'), .string (mk a'), .slice ad' len' cap'] 24)) B b KB wr.heap.size acc #[.int .i64 k, .string (mk x), .string (mk a), .slice (some ⟨b', off, none⟩) len cap] #[.int .i64 k', .string (mk y'), .string (mk a'), .slice ad' len' cap']) := Wq.new HWk.out
      go_upto_region 5 with fail
      generalize wr.alloc (.cells #[.int .i64 k', .string (mk y'), .string (mk a'), .slice ad' len' cap'] 24) = w4 at H4 ⊢
      generalize wr.heap.size = KK at H4 ⊢
      have HKP : Hid (∀ (p : Nat) (w' : World), j = p + 1 → Hid (Wq W w w' B b KB KK (acc) #[.int .i64 k, .string (mk x), .string (mk a), .slice (some ⟨b', off, none⟩) len cap] #[.int .i64 k', .string (mk y'), .string (mk a'), .slice ad' len' cap']) → Calls Tryz.prog 45 #[.agg #[.int .i64 k, .string (mk x), .string (mk a), .slice (some ⟨b', off, none⟩) len cap], .int .i64 (p : Int)] w' fun e w'' => e = .returned (.bool (mp && decide (p % 2 = 0))) ∧ Hid (Wq W w w'' B b KB KK (acc) #[.int .i64 k, .string (mk x), .string (mk a), .slice (some ⟨b', off, none⟩) len cap] #[.int .i64 k', .string (mk y'), .string (mk a'), .slice ad' len' cap'])) := fun p w' hp h => (isKeyPlace_any p (by omega)).mono (fun e w'' g => ⟨by rw [g.1, HM.out], h.out.later g.2⟩)
      have HST : Hid (∀ w' s, S = s → Hid (Wq W w w' B b KB KK (acc) #[.int .i64 k, .string (mk x), .string (mk a), .slice (some ⟨b', off, none⟩) len cap] #[.int .i64 k', .string (mk y'), .string (mk a'), .slice ad' len' cap']) → Calls Tryz.prog 40 #[.pointer (some ⟨b, 0, none⟩), .string (mk s)] w' fun e w'' => e = .returned (.tuple #[.int .i64 (s.length : Int), .nilIface]) ∧ Hid (Wq W w w'' B b KB KK (acc ++ S) #[.int .i64 k, .string (mk x), .string (mk a), .slice (some ⟨b', off, none⟩) len cap] #[.int .i64 k', .string (mk y'), .string (mk a'), .slice ad' len' cap'])) := fun w' s hs h => by
        subst hs
        exact wq_str S h.out (by have := HL2.out; omega)
      have HWR : Hid (∀ w', Hid (Wq W w w' B b KB KK (acc ++ S) #[.int .i64 k, .string (mk x), .string (mk a), .slice (some ⟨b', off, none⟩) len cap] #[.int .i64 k', .string (mk y'), .string (mk a'), .slice ad' len' cap']) → Calls Tryz.prog 22 #[.pointer (some ⟨b, 0, none⟩), .agg #[.int .i64 k', .string (mk y'), .string (mk a'), .slice ad' len' cap']] w' fun e w'' => e = .returned (.tuple #[]) ∧ Hid (Hid (Wk W w w'' B b KB (acc ++ S ++ F) #[.int .i64 k, .string (mk x), .string (mk a), .slice (some ⟨b', off, none⟩) len cap]) ∧ Hid (out ++ J = acc ++ S ++ F ++ jn mp (j + 1) ((ks.drop (j + 1)).map f)))) := fun w' h =>
        (HI.out _ _ w' (acc ++ S) HPk.out HV.out h.out.g.bl h.out.g.hB h.out.g.hs h.out.g.g (by rw [← HF.out, List.length_append]; have := HL2.out; omega)).mono (fun e w'' g => ⟨g.1, h.out.g.fr (by have := g.2.1; rw [← HF.out] at this; exact this) g.2.2, by show _ = _; rw [HAT.out]; simp only [List.append_assoc]⟩)
      have u0 : w4.cell? ⟨KB, 0, none⟩ = some (.int .i64 k) := H4.out.g.t.cell 0
      have u1 : w4.cell? ⟨KB, 1, none⟩ = some (.string (mk x)) := H4.out.g.t.cell 1
      have u2 : w4.cell? ⟨KB, 2, none⟩ = some (.string (mk a)) := H4.out.g.t.cell 2
      have u3 : w4.cell? ⟨KB, 3, none⟩ = some (.slice (some ⟨b', off, none⟩) len cap) := H4.out.g.t.cell 3
      have v0 : w4.cell? ⟨KK, 0, none⟩ = some (.int .i64 k') := H4.out.k.cell 0
      have v1 : w4.cell? ⟨KK, 1, none⟩ = some (.string (mk y')) := H4.out.k.cell 1
      have v2 : w4.cell? ⟨KK, 2, none⟩ = some (.string (mk a')) := H4.out.k.cell 2
      have v3 : w4.cell? ⟨KK, 3, none⟩ = some (.slice ad' len' cap') := H4.out.k.cell 3
      clear HV HPk HWk x0 x1 x2 x3 HI HF HAT HL2 HLN HJ
      by_cases hj0 : j = 0
      · subst hj0
        have HS0 : S = [] := HS.out
        subst HS0
        have H4' : Hid (Wq W w w4 B b KB KK (acc ++ []) #[.int .i64 k, .string (mk x), .string (mk a), .slice (some ⟨b', off, none⟩) len cap] #[.int .i64 k', .string (mk y'), .string (mk a'), .slice ad' len' cap']) := by rw [List.append_nil]; exact H4
        go_wp2_with (first | (go_at_call 22; refine (HWR.out _ H4').mono ?_; rintro e w9 ⟨rfl, H9⟩))
        go_roundw
        case rel => exact ⟨0 + 1, _, by omega, by go_num, H9.out.1, H9.out.2⟩
        case measure => simp [intOf]; omega
      obtain ⟨p, rfl⟩ : ∃ p, j = p + 1 := ⟨j - 1, by omega⟩
      clear hj0
      obtain ⟨q1, HQ1⟩ : ∃ q1, Hid (q1 = (mp && decide (p % 2 = 0))) := ⟨_, rfl⟩
      have HKP2 := HKP.out p w4 rfl H4
      rw [← HQ1.out] at HKP2
      cases q1
      · replace HS : Hid (S = [44, 32]) := HS.out.trans (sep_no HQ1.out.symm)
        go_wp2_with (first | (go_at_call 45; refine HKP2.mono ?_; rintro e w5 ⟨rfl, H5⟩) | (go_at_call 40; refine (HST.out _ [44, 32] HS.out H5).mono ?_; rintro e w6 ⟨rfl, H6⟩; have z0 : w6.cell? ⟨KK, 0, none⟩ = some (.int .i64 k') := H6.out.k.cell 0; have z1 : w6.cell? ⟨KK, 1, none⟩ = some (.string (mk y')) := H6.out.k.cell 1; have z2 : w6.cell? ⟨KK, 2, none⟩ = some (.string (mk a')) := H6.out.k.cell 2; have z3 : w6.cell? ⟨KK, 3, none⟩ = some (.slice ad' len' cap') := H6.out.k.cell 3) | (go_at_call 22; refine (HWR.out _ H6).mono ?_; rintro e w9 ⟨rfl, H9⟩))
        go_roundw
        case rel => exact ⟨(p + 1) + 1, _, by omega, by go_num, H9.out.1, H9.out.2⟩
        case measure => simp [intOf]; omega
      · replace HS : Hid (S = [58, 32]) := HS.out.trans (sep_yes HQ1.out.symm)
        go_wp2_with (first | (go_at_call 45; refine HKP2.mono ?_; rintro e w5 ⟨rfl, H5⟩) | (go_at_call 40; refine (HST.out _ [58, 32] HS.out H5).mono ?_; rintro e w6 ⟨rfl, H6⟩; have z0 : w6.cell? ⟨KK, 0, none⟩ = some (.int .i64 k') := H6.out.k.cell 0; have z1 : w6.cell? ⟨KK, 1, none⟩ = some (.string (mk y')) := H6.out.k.cell 1; have z2 : w6.cell? ⟨KK, 2, none⟩ = some (.string (mk a')) := H6.out.k.cell 2; have z3 : w6.cell? ⟨KK, 3, none⟩ = some (.slice ad' len' cap') := H6.out.k.cell 3) | (go_at_call 22; refine (HWR.out _ H6).mono ?_; rintro e w9 ⟨rfl, H9⟩))
        go_roundw
        case rel => exact ⟨(p + 1) + 1, _, by omega, by go_num, H9.out.1, H9.out.2⟩
        case measure => simp [intOf]; omega
    · have HLE : Hid (len = ks.length) := HK.out.1
      have e : j = len := by omega
      subst e
      have HE : Hid (out ++ J = acc) := by show _ = _; rw [HA.out, HLE.out, List.drop_length]; exact List.append_nil _
      go_wp2
      go_end0
      exact ⟨rfl, by rw [HE.out]; exact HWk.out.g, HWk.out.f⟩
end Go.Proofs.YteokhnielbmifaaGreatDoor.Flw
end

section
/- flow.write, by its contract. -/
namespace Go.Proofs.YteokhnielbmifaaGreatDoor.Flw
open Utf Rws Pln
open Go.RowKit
set_option linter.unusedSimpArgs false
set_option linter.unusedVariables false
set_option maxRecDepth 100000
set_option maxHeartbeats 4000000

theorem mk_app (a b : List UInt8) : mk a ++ mk b = mk (a ++ b) := by
  have h : (mk a ++ mk b).data.toList = a ++ b := by
    rw [ByteArray.data_append, Array.toList_append, mk_data, mk_data]
  rw [← mk_of (mk a ++ mk b), h]

theorem write_alias (x a : Ln) (ad : Option Addr) (len cap : Nat) (W w : World) (B b : Nat) (ha : a.length ≤ 65536)
    (HBW : Hid (Below W.heap.size W w)) (hB : W.heap.size ≤ B) (hs : B ≤ w.heap.size) (out : Ln) (HW : Hid (Wb B b out w)) (hlen : out.length + (42 :: a).length ≤ 140737488355328) :
    Calls Tryz.prog 22 #[.pointer (some ⟨b, 0, none⟩), tv 7 x a ad len cap] w fun e w' => e = .returned (.tuple #[]) ∧ Wb B b (out ++ 42 :: a) w' ∧ Quo.Fr B b w w' := by
  have H1 : Hid (Wk W w (w.alloc (.cells #[.int .i64 7, .string (mk x), .string (mk a), .slice ad len cap] 24)) B b w.heap.size out #[.int .i64 7, .string (mk x), .string (mk a), .slice ad len cap]) := Wk.new HW.out HBW.out hB hs
  obtain ⟨w1, hw1⟩ : ∃ w1, w.alloc (.cells #[.int .i64 7, .string (mk x), .string (mk a), .slice ad len cap] 24) = w1 := ⟨_, rfl⟩
  rw [hw1] at H1
  obtain ⟨KB, hKB⟩ : ∃ KB, w.heap.size = KB := ⟨_, rfl⟩
  rw [hKB] at H1
  have e0 : w1.cell? ⟨KB, 0, none⟩ = some (.int .i64 7) := H1.out.t.cell 0
  have e2 : w1.cell? ⟨KB, 2, none⟩ = some (.string (mk a)) := H1.out.t.cell 2
  have hma : (mk a).size ≤ 65536 := by rw [mk_size]; exact ha
  have HST : Hid (Calls Tryz.prog 40 #[.pointer (some ⟨b, 0, none⟩), .string (mk (42 :: a))] w1 fun e w' => e = .returned (.tuple #[.int .i64 ((42 :: a).length : Int), .nilIface]) ∧ Hid (Wk W w w' B b KB (out ++ 42 :: a) #[.int .i64 7, .string (mk x), .string (mk a), .slice ad len cap])) := wk_str (42 :: a) H1.out hlen
  clear hlen HW HBW
  go_enter Tryz.func22, Tryz.ntmps22
  go_wp2_with fail
  rw [show ((⟨#[42]⟩ : ByteArray) ++ mk a) = mk (42 :: a) from mk_app [42] a]
  refine HST.out.mono ?_
  rintro e w2 ⟨rfl, H2⟩
  go_wp2
  exact bodyPost_ret (v := .tuple #[]) (by simp [results, Tryz.results22, go_sem]) rfl ⟨rfl, H2.out.g, H2.out.f⟩
theorem write_seq  (x a : Ln) (ad : Option Addr) (len cap : Nat) (W w : World) (B b d : Nat) (ks : List Tr) (hl : len ≤ 9223372036854775807) (hx : x.length ≤ 65536) (ha : a.length ≤ 65536)
    (HK : Hid (KAt W d ad len ks)) (HBW : Hid (Below W.heap.size W w)) (HTW : Hid (Tb W)) (hB : W.heap.size ≤ B) (hs : B ≤ w.heap.size) (out : Ln) (HW : Hid (Wb B b out w))
    (f : Tr → Ln) (P : Tr → Prop) (hP : ∀ i, i < ks.length → P (ks.getD i tr0)) (HI : Hid (WrOk W B b d f P)) (hlen : out.length + (ancW a ++ (91 :: (jn false 0 (ks.map f) ++ [93]))).length ≤ 140737488355328) :
    Calls Tryz.prog 22 #[.pointer (some ⟨b, 0, none⟩), tv 5 x a ad len cap] w fun e w' => e = .returned (.tuple #[]) ∧ Wb B b (out ++ (ancW a ++ (91 :: (jn false 0 (ks.map f) ++ [93])))) w' ∧ Quo.Fr B b w w' := by
  have H1 : Hid (Wk W w (w.alloc (.cells #[.int .i64 5, .string (mk x), .string (mk a), .slice ad len cap] 24)) B b w.heap.size out #[.int .i64 5, .string (mk x), .string (mk a), .slice ad len cap]) := Wk.new HW.out HBW.out hB hs
  obtain ⟨w1, hw1⟩ : ∃ w1, w.alloc (.cells #[.int .i64 5, .string (mk x), .string (mk a), .slice ad len cap] 24) = w1 := ⟨_, rfl⟩
  rw [hw1] at H1
  obtain ⟨KB, hKB⟩ : ∃ KB, w.heap.size = KB := ⟨_, rfl⟩
  rw [hKB] at H1
  have e0 : w1.cell? ⟨KB, 0, none⟩ = some (.int .i64 5) := H1.out.t.cell 0
  have e1 : w1.cell? ⟨KB, 1, none⟩ = some (.string (mk x)) := H1.out.t.cell 1
  have e2 : w1.cell? ⟨KB, 2, none⟩ = some (.string (mk a)) := H1.out.t.cell 2
  have e3 : w1.cell? ⟨KB, 3, none⟩ = some (.slice ad len cap) := H1.out.t.cell 3
  have hma : (mk a).size ≤ 65536 := by rw [mk_size]; exact ha
  have HLN : Hid (out.length + (ancW a ++ (91 :: (jn false 0 (ks.map f) ++ [93]))).length ≤ 140737488355328) := hlen
  simp only [List.length_append, List.length_cons, List.length_nil] at hlen
  have HST : Hid (∀ w' s o, o.length + s.length ≤ 140737488355328 → Hid (Wk W w w' B b KB (o) #[.int .i64 5, .string (mk x), .string (mk a), .slice ad len cap]) → Calls Tryz.prog 40 #[.pointer (some ⟨b, 0, none⟩), .string (mk s)] w' fun e w'' => e = .returned (.tuple #[.int .i64 (s.length : Int), .nilIface]) ∧ Hid (Wk W w w'' B b KB (o ++ s) #[.int .i64 5, .string (mk x), .string (mk a), .slice ad len cap])) := fun w' s o hl h => wk_str s h.out hl
  have HKD : Hid (∀ w' o, o.length + (jn false 0 (ks.map f)).length ≤ 140737488355328 → Hid (Wk W w w' B b KB (o) #[.int .i64 5, .string (mk x), .string (mk a), .slice ad len cap]) → Calls Tryz.prog 41 #[.pointer (some ⟨b, 0, none⟩), .agg #[.int .i64 5, .string (mk x), .string (mk a), .slice ad len cap]] w' fun e w'' => e = .returned (.tuple #[]) ∧ Hid (Wk W w w'' B b KB (o ++ jn false 0 (ks.map f)) #[.int .i64 5, .string (mk x), .string (mk a), .slice ad len cap])) := fun w' o hl' h =>
    (writeKids_core 5 x a ad len cap W w' B b d ks hl HK.out h.out.bl hB h.out.hs o h.out.g f P hP HI false rfl _ rfl hl').mono (fun e w'' g => ⟨g.1, h.out.fr g.2.out.1 g.2.out.2⟩)
  generalize jn false 0 (ks.map f) = J at *
  clear HW HBW HI hP HTW HK
  by_cases h0 : a = []
  · subst h0
    have he : ((mk []).toList == []) = true := by rw [ByteArray.toList_eq, mk_data]; rfl
    have hA : ancW [] = [] := rfl
    rw [hA] at HLN hlen ⊢
    go_enter Tryz.func22, Tryz.ntmps22
    go_wp2_with fail
    refine (HST.out _ [91] out (by simp at hlen ⊢; omega) H1).mono ?_
    rintro e w2 ⟨rfl, G1⟩
    have g0 : w2.cell? ⟨KB, 0, none⟩ = some (.int .i64 5) := G1.out.t.cell 0
    have g1 : w2.cell? ⟨KB, 1, none⟩ = some (.string (mk x)) := G1.out.t.cell 1
    have g2 : w2.cell? ⟨KB, 2, none⟩ = some (.string (mk [])) := G1.out.t.cell 2
    have g3 : w2.cell? ⟨KB, 3, none⟩ = some (.slice ad len cap) := G1.out.t.cell 3
    go_wp2_with fail
    refine (HKD.out _ _ (by simp at hlen ⊢; omega) G1).mono ?_
    rintro e w3 ⟨rfl, G2⟩
    go_wp2_with fail
    refine (HST.out _ [93] _ (by simp at hlen ⊢; omega) G2).mono ?_
    rintro e w4 ⟨rfl, G3⟩
    go_wp2
    go_end0
    exact ⟨rfl, by have := G3.out.g; simpa using this, G3.out.f⟩
  · have he : ((mk a).toList == []) = false := by rw [ByteArray.toList_eq, mk_data]; simpa using h0
    have hA : ancW a = 38 :: (a ++ [32]) := if_neg h0
    rw [hA] at HLN hlen ⊢
    go_enter Tryz.func22, Tryz.ntmps22
    go_wp2_with fail
    rw [show ((⟨#[38]⟩ : ByteArray) ++ mk a ++ ⟨#[32]⟩) = mk (38 :: (a ++ [32])) from by rw [show ((⟨#[38]⟩ : ByteArray) ++ mk a) = mk (38 :: a) from mk_app [38] a]; exact mk_app (38 :: a) [32]]
    refine (HST.out _ (38 :: (a ++ [32])) out (by simp at hlen ⊢; omega) H1).mono ?_
    rintro e w2 ⟨rfl, G0⟩
    have g0 : w2.cell? ⟨KB, 0, none⟩ = some (.int .i64 5) := G0.out.t.cell 0
    have g1 : w2.cell? ⟨KB, 1, none⟩ = some (.string (mk x)) := G0.out.t.cell 1
    have g2 : w2.cell? ⟨KB, 2, none⟩ = some (.string (mk a)) := G0.out.t.cell 2
    have g3 : w2.cell? ⟨KB, 3, none⟩ = some (.slice ad len cap) := G0.out.t.cell 3
    go_wp2_with fail
    refine (HST.out _ [91] _ (by simp at hlen ⊢; omega) G0).mono ?_
    rintro e w3 ⟨rfl, G1⟩
    have i0 : w3.cell? ⟨KB, 0, none⟩ = some (.int .i64 5) := G1.out.t.cell 0
    have i1 : w3.cell? ⟨KB, 1, none⟩ = some (.string (mk x)) := G1.out.t.cell 1
    have i2 : w3.cell? ⟨KB, 2, none⟩ = some (.string (mk a)) := G1.out.t.cell 2
    have i3 : w3.cell? ⟨KB, 3, none⟩ = some (.slice ad len cap) := G1.out.t.cell 3
    go_wp2_with fail
    refine (HKD.out _ _ (by simp at hlen ⊢; omega) G1).mono ?_
    rintro e w4 ⟨rfl, G2⟩
    go_wp2_with fail
    refine (HST.out _ [93] _ (by simp at hlen ⊢; omega) G2).mono ?_
    rintro e w5 ⟨rfl, G3⟩
    go_wp2
    go_end0
    exact ⟨rfl, by have := G3.out.g; simpa using this, G3.out.f⟩
theorem write_map  (x a : Ln) (ad : Option Addr) (len cap : Nat) (W w : World) (B b d : Nat) (ks : List Tr) (hl : len ≤ 9223372036854775807) (hx : x.length ≤ 65536) (ha : a.length ≤ 65536)
    (HK : Hid (KAt W d ad len ks)) (HBW : Hid (Below W.heap.size W w)) (HTW : Hid (Tb W)) (hB : W.heap.size ≤ B) (hs : B ≤ w.heap.size) (out : Ln) (HW : Hid (Wb B b out w))
    (f : Tr → Ln) (P : Tr → Prop) (hP : ∀ i, i < ks.length → P (ks.getD i tr0)) (HI : Hid (WrOk W B b d f P)) (hlen : out.length + (ancW a ++ (123 :: (jn true 0 (ks.map f) ++ [125]))).length ≤ 140737488355328) :
    Calls Tryz.prog 22 #[.pointer (some ⟨b, 0, none⟩), tv 6 x a ad len cap] w fun e w' => e = .returned (.tuple #[]) ∧ Wb B b (out ++ (ancW a ++ (123 :: (jn true 0 (ks.map f) ++ [125])))) w' ∧ Quo.Fr B b w w' := by
  have H1 : Hid (Wk W w (w.alloc (.cells #[.int .i64 6, .string (mk x), .string (mk a), .slice ad len cap] 24)) B b w.heap.size out #[.int .i64 6, .string (mk x), .string (mk a), .slice ad len cap]) := Wk.new HW.out HBW.out hB hs
  obtain ⟨w1, hw1⟩ : ∃ w1, w.alloc (.cells #[.int .i64 6, .string (mk x), .string (mk a), .slice ad len cap] 24) = w1 := ⟨_, rfl⟩
  rw [hw1] at H1
  obtain ⟨KB, hKB⟩ : ∃ KB, w.heap.size = KB := ⟨_, rfl⟩
  rw [hKB] at H1
  have e0 : w1.cell? ⟨KB, 0, none⟩ = some (.int .i64 6) := H1.out.t.cell 0
  have e1 : w1.cell? ⟨KB, 1, none⟩ = some (.string (mk x)) := H1.out.t.cell 1
  have e2 : w1.cell? ⟨KB, 2, none⟩ = some (.string (mk a)) := H1.out.t.cell 2
  have e3 : w1.cell? ⟨KB, 3, none⟩ = some (.slice ad len cap) := H1.out.t.cell 3
  have hma : (mk a).size ≤ 65536 := by rw [mk_size]; exact ha
  have HLN : Hid (out.length + (ancW a ++ (123 :: (jn true 0 (ks.map f) ++ [125]))).length ≤ 140737488355328) := hlen
  simp only [List.length_append, List.length_cons, List.length_nil] at hlen
  have HST : Hid (∀ w' s o, o.length + s.length ≤ 140737488355328 → Hid (Wk W w w' B b KB (o) #[.int .i64 6, .string (mk x), .string (mk a), .slice ad len cap]) → Calls Tryz.prog 40 #[.pointer (some ⟨b, 0, none⟩), .string (mk s)] w' fun e w'' => e = .returned (.tuple #[.int .i64 (s.length : Int), .nilIface]) ∧ Hid (Wk W w w'' B b KB (o ++ s) #[.int .i64 6, .string (mk x), .string (mk a), .slice ad len cap])) := fun w' s o hl h => wk_str s h.out hl
  have HKD : Hid (∀ w' o, o.length + (jn true 0 (ks.map f)).length ≤ 140737488355328 → Hid (Wk W w w' B b KB (o) #[.int .i64 6, .string (mk x), .string (mk a), .slice ad len cap]) → Calls Tryz.prog 41 #[.pointer (some ⟨b, 0, none⟩), .agg #[.int .i64 6, .string (mk x), .string (mk a), .slice ad len cap]] w' fun e w'' => e = .returned (.tuple #[]) ∧ Hid (Wk W w w'' B b KB (o ++ jn true 0 (ks.map f)) #[.int .i64 6, .string (mk x), .string (mk a), .slice ad len cap])) := fun w' o hl' h =>
    (writeKids_core 6 x a ad len cap W w' B b d ks hl HK.out h.out.bl hB h.out.hs o h.out.g f P hP HI true rfl _ rfl hl').mono (fun e w'' g => ⟨g.1, h.out.fr g.2.out.1 g.2.out.2⟩)
  generalize jn true 0 (ks.map f) = J at *
  clear HW HBW HI hP HTW HK
  by_cases h0 : a = []
  · subst h0
    have he : ((mk []).toList == []) = true := by rw [ByteArray.toList_eq, mk_data]; rfl
    have hA : ancW [] = [] := rfl
    rw [hA] at HLN hlen ⊢
    go_enter Tryz.func22, Tryz.ntmps22
    go_wp2_with fail
    refine (HST.out _ [123] out (by simp at hlen ⊢; omega) H1).mono ?_
    rintro e w2 ⟨rfl, G1⟩
    have g0 : w2.cell? ⟨KB, 0, none⟩ = some (.int .i64 6) := G1.out.t.cell 0
    have g1 : w2.cell? ⟨KB, 1, none⟩ = some (.string (mk x)) := G1.out.t.cell 1
    have g2 : w2.cell? ⟨KB, 2, none⟩ = some (.string (mk [])) := G1.out.t.cell 2
    have g3 : w2.cell? ⟨KB, 3, none⟩ = some (.slice ad len cap) := G1.out.t.cell 3
    go_wp2_with fail
    refine (HKD.out _ _ (by simp at hlen ⊢; omega) G1).mono ?_
    rintro e w3 ⟨rfl, G2⟩
    go_wp2_with fail
    refine (HST.out _ [125] _ (by simp at hlen ⊢; omega) G2).mono ?_
    rintro e w4 ⟨rfl, G3⟩
    go_wp2
    go_end0
    exact ⟨rfl, by have := G3.out.g; simpa using this, G3.out.f⟩
  · have he : ((mk a).toList == []) = false := by rw [ByteArray.toList_eq, mk_data]; simpa using h0
    have hA : ancW a = 38 :: (a ++ [32]) := if_neg h0
    rw [hA] at HLN hlen ⊢
    go_enter Tryz.func22, Tryz.ntmps22
    go_wp2_with fail
    rw [show ((⟨#[38]⟩ : ByteArray) ++ mk a ++ ⟨#[32]⟩) = mk (38 :: (a ++ [32])) from by rw [show ((⟨#[38]⟩ : ByteArray) ++ mk a) = mk (38 :: a) from mk_app [38] a]; exact mk_app (38 :: a) [32]]
    refine (HST.out _ (38 :: (a ++ [32])) out (by simp at hlen ⊢; omega) H1).mono ?_
    rintro e w2 ⟨rfl, G0⟩
    have g0 : w2.cell? ⟨KB, 0, none⟩ = some (.int .i64 6) := G0.out.t.cell 0
    have g1 : w2.cell? ⟨KB, 1, none⟩ = some (.string (mk x)) := G0.out.t.cell 1
    have g2 : w2.cell? ⟨KB, 2, none⟩ = some (.string (mk a)) := G0.out.t.cell 2
    have g3 : w2.cell? ⟨KB, 3, none⟩ = some (.slice ad len cap) := G0.out.t.cell 3
    go_wp2_with fail
    refine (HST.out _ [123] _ (by simp at hlen ⊢; omega) G0).mono ?_
    rintro e w3 ⟨rfl, G1⟩
    have i0 : w3.cell? ⟨KB, 0, none⟩ = some (.int .i64 6) := G1.out.t.cell 0
    have i1 : w3.cell? ⟨KB, 1, none⟩ = some (.string (mk x)) := G1.out.t.cell 1
    have i2 : w3.cell? ⟨KB, 2, none⟩ = some (.string (mk a)) := G1.out.t.cell 2
    have i3 : w3.cell? ⟨KB, 3, none⟩ = some (.slice ad len cap) := G1.out.t.cell 3
    go_wp2_with fail
    refine (HKD.out _ _ (by simp at hlen ⊢; omega) G1).mono ?_
    rintro e w4 ⟨rfl, G2⟩
    go_wp2_with fail
    refine (HST.out _ [125] _ (by simp at hlen ⊢; omega) G2).mono ?_
    rintro e w5 ⟨rfl, G3⟩
    go_wp2
    go_end0
    exact ⟨rfl, by have := G3.out.g; simpa using this, G3.out.f⟩
theorem write_leaf (k : Int) (hk1 : 1 ≤ k) (hk4 : k ≤ 4) (x a : Ln) (ad : Option Addr) (len cap : Nat) (W w : World) (B b d : Nat) (ks : List Tr) (hl : len ≤ 9223372036854775807) (hx : x.length ≤ 65536) (ha : a.length ≤ 65536)
    (HK : Hid (KAt W d ad len ks)) (HBW : Hid (Below W.heap.size W w)) (HTW : Hid (Tb W)) (hB : W.heap.size ≤ B) (hs : B ≤ w.heap.size) (out : Ln) (HW : Hid (Wb B b out w))
    (f : Tr → Ln) (P : Tr → Prop) (hP : ∀ i, i < ks.length → P (ks.getD i tr0)) (HI : Hid (WrOk W B b d f P)) (hlen : out.length + (ancW a ++ scl true k x).length ≤ 140737488355328) :
    Calls Tryz.prog 22 #[.pointer (some ⟨b, 0, none⟩), tv k x a ad len cap] w fun e w' => e = .returned (.tuple #[]) ∧ Wb B b (out ++ (ancW a ++ scl true k x)) w' ∧ Quo.Fr B b w w' := by
  have H1 : Hid (Wk W w (w.alloc (.cells #[.int .i64 k, .string (mk x), .string (mk a), .slice ad len cap] 24)) B b w.heap.size out #[.int .i64 k, .string (mk x), .string (mk a), .slice ad len cap]) := Wk.new HW.out HBW.out hB hs
  obtain ⟨w1, hw1⟩ : ∃ w1, w.alloc (.cells #[.int .i64 k, .string (mk x), .string (mk a), .slice ad len cap] 24) = w1 := ⟨_, rfl⟩
  rw [hw1] at H1
  obtain ⟨KB, hKB⟩ : ∃ KB, w.heap.size = KB := ⟨_, rfl⟩
  rw [hKB] at H1
  have e0 : w1.cell? ⟨KB, 0, none⟩ = some (.int .i64 k) := H1.out.t.cell 0
  have e1 : w1.cell? ⟨KB, 1, none⟩ = some (.string (mk x)) := H1.out.t.cell 1
  have e2 : w1.cell? ⟨KB, 2, none⟩ = some (.string (mk a)) := H1.out.t.cell 2
  have e3 : w1.cell? ⟨KB, 3, none⟩ = some (.slice ad len cap) := H1.out.t.cell 3
  have hma : (mk a).size ≤ 65536 := by rw [mk_size]; exact ha
  have HLN : Hid (out.length + (ancW a ++ scl true k x).length ≤ 140737488355328) := hlen
  simp only [List.length_append, List.length_cons, List.length_nil] at hlen
  have HST : Hid (∀ w' s o, o.length + s.length ≤ 140737488355328 → Hid (Wk W w w' B b KB (o) #[.int .i64 k, .string (mk x), .string (mk a), .slice ad len cap]) → Calls Tryz.prog 40 #[.pointer (some ⟨b, 0, none⟩), .string (mk s)] w' fun e w'' => e = .returned (.tuple #[.int .i64 (s.length : Int), .nilIface]) ∧ Hid (Wk W w w'' B b KB (o ++ s) #[.int .i64 k, .string (mk x), .string (mk a), .slice ad len cap])) := fun w' s o hl h => wk_str s h.out hl
  have HSC : Hid (∀ w' o, Hid (Wk W w w' B b KB (o) #[.int .i64 k, .string (mk x), .string (mk a), .slice ad len cap]) → Calls Tryz.prog 16 #[.agg #[.int .i64 k, .string (mk x), .string (mk a), .slice ad len cap], .bool true] w' fun e w'' => e = .returned (.string (mk (scl true k x))) ∧ Hid (Wk W w w'' B b KB (o) #[.int .i64 k, .string (mk x), .string (mk a), .slice ad len cap])) := fun w' o h =>
    (scalar0_any true hx (HTW.out.later h.out.bl)).mono (fun e w'' g => ⟨g.1, h.out.later g.2⟩)
  generalize scl true k x = J at *
  have k7 : (k == 7) = false := by simp; omega
  have k5 : (k == 5) = false := by simp; omega
  have k6 : (k == 6) = false := by simp; omega
  clear HW HBW HI hP HTW HK hk1 hk4
  by_cases h0 : a = []
  · subst h0
    have he : ((mk []).toList == []) = true := by rw [ByteArray.toList_eq, mk_data]; rfl
    have hA : ancW [] = [] := rfl
    rw [hA] at HLN hlen ⊢
    go_enter Tryz.func22, Tryz.ntmps22
    go_wp2_with fail
    refine (HSC.out _ _ H1).mono ?_
    rintro e w2 ⟨rfl, G1⟩
    go_wp2_with fail
    refine (HST.out _ J _ (by simp at hlen ⊢; omega) G1).mono ?_
    rintro e w4 ⟨rfl, G3⟩
    go_wp2
    go_end0
    exact ⟨rfl, by have := G3.out.g; simpa using this, G3.out.f⟩
  · have he : ((mk a).toList == []) = false := by rw [ByteArray.toList_eq, mk_data]; simpa using h0
    have hA : ancW a = 38 :: (a ++ [32]) := if_neg h0
    rw [hA] at HLN hlen ⊢
    go_enter Tryz.func22, Tryz.ntmps22
    go_wp2_with fail
    rw [show ((⟨#[38]⟩ : ByteArray) ++ mk a ++ ⟨#[32]⟩) = mk (38 :: (a ++ [32])) from by rw [show ((⟨#[38]⟩ : ByteArray) ++ mk a) = mk (38 :: a) from mk_app [38] a]; exact mk_app (38 :: a) [32]]
    refine (HST.out _ (38 :: (a ++ [32])) out (by simp at hlen ⊢; omega) H1).mono ?_
    rintro e w2 ⟨rfl, G0⟩
    have g0 : w2.cell? ⟨KB, 0, none⟩ = some (.int .i64 k) := G0.out.t.cell 0
    have g1 : w2.cell? ⟨KB, 1, none⟩ = some (.string (mk x)) := G0.out.t.cell 1
    have g2 : w2.cell? ⟨KB, 2, none⟩ = some (.string (mk a)) := G0.out.t.cell 2
    have g3 : w2.cell? ⟨KB, 3, none⟩ = some (.slice ad len cap) := G0.out.t.cell 3
    go_wp2_with fail
    refine (HSC.out _ _ G0).mono ?_
    rintro e w3 ⟨rfl, G1⟩
    go_wp2_with fail
    refine (HST.out _ J _ (by simp at hlen ⊢; omega) G1).mono ?_
    rintro e w5 ⟨rfl, G3⟩
    go_wp2
    go_end0
    exact ⟨rfl, by have := G3.out.g; simpa using this, G3.out.f⟩
end Go.Proofs.YteokhnielbmifaaGreatDoor.Flw
end

section
/- flow.write at every tree that may be. -/
namespace Go.Proofs.YteokhnielbmifaaGreatDoor.Flw
open Utf Rws Pln
open Go.RowKit
set_option linter.unusedSimpArgs false
set_option linter.unusedVariables false

theorem write_step {W : World} {B b : Nat} (hT : Tb W) (d : Nat) (f : Tr → Ln) (P : Tr → Prop) (HI : WrOk W B b d f P) (inner : Option (Tr → Bool)) (v : Value) (t : Tr) (w : World) (out : Ln) (hr : rstep inner t = true) (hbr : brief (d + 1) t)
    (hP : ∀ i, i < t.kids.length → P (t.kids.getD i tr0)) (h : TrV W (d + 1) v t) (hb : Below W.heap.size W w) (hB : W.heap.size ≤ B) (hs : B ≤ w.heap.size) (hw : Wb B b out w) (hlen : out.length + (wstep f t).length ≤ 140737488355328) :
    Calls Tryz.prog 22 #[.pointer (some ⟨b, 0, none⟩), v] w fun e w' => e = .returned (.tuple #[]) ∧ Wb B b (out ++ wstep f t) w' ∧ Quo.Fr B b w w' := by
  obtain ⟨r1, r2, _⟩ := rstep_inv hr
  obtain ⟨ad, len, cap, rfl, hl, hcp, hm, hz, hk⟩ := h
  obtain ⟨k, x, a, ks⟩ := t
  obtain ⟨b1, b2, b3⟩ := hbr
  have m1 : maxLen = 9223372036854775807 := rfl
  simp only at r1 r2 hl hz hk b1 b2 hP
  by_cases h7 : k = 7
  · subst h7
    have e : wstep f ⟨7, x, a, ks⟩ = 42 :: a := rfl
    rw [e] at hlen ⊢
    exact write_alias x a ad len cap W w B b b2 hb hB hs out hw hlen
  by_cases h4 : k ≤ 4
  · have e : wstep f ⟨k, x, a, ks⟩ = ancW a ++ scl true k x := by
      unfold wstep
      rw [if_neg h7, if_pos ⟨r1, h4⟩]
    rw [e] at hlen ⊢
    exact write_leaf k r1 h4 x a ad len cap W w B b d ks (by omega) b1 b2 ⟨hl, hk⟩ hb hT hB hs out hw f P hP HI hlen
  by_cases h5 : k = 5
  · subst h5
    have e : wstep f ⟨5, x, a, ks⟩ = ancW a ++ (91 :: (jn false 0 (ks.map f) ++ [93])) := rfl
    rw [e] at hlen ⊢
    exact write_seq x a ad len cap W w B b d ks (by omega) b1 b2 ⟨hl, hk⟩ hb hT hB hs out hw f P hP HI hlen
  · have h6 : k = 6 := by omega
    subst h6
    have e : wstep f ⟨6, x, a, ks⟩ = ancW a ++ (123 :: (jn true 0 (ks.map f) ++ [125])) := rfl
    rw [e] at hlen ⊢
    exact write_map x a ad len cap W w B b d ks (by omega) b1 b2 ⟨hl, hk⟩ hb hT hB hs out hw f P hP HI hlen
theorem getD_mem (ks : List Tr) (i : Nat) (h : i < ks.length) : ks.getD i tr0 ∈ ks := by
  rw [List.getD_eq_getElem?_getD, List.getElem?_eq_getElem h]
  exact List.getElem_mem h
theorem write_any {W : World} {B b : Nat} (hT : Tb W) : ∀ (m d : Nat), WrOk W B b d (fun t => wrt m t) (fun t => rgt m t = true ∧ brief d t) := by
  intro m
  induction m with
  | zero =>
    intro d v t w out hp h hb hB hs hw hlen
    cases d with
    | zero => exact h.elim
    | succ d =>
      obtain ⟨r, br⟩ := hp
      have hr : rstep none t = true := r
      obtain ⟨h1, h2⟩ := (rstep_ral none t).1 hr
      have hk := kids_nil h1 (fun e => by obtain ⟨v, e, _⟩ := h2 e; cases e)
      exact write_step hT d (fun _ => []) (fun _ => False) (fun v t w out hp => hp.elim) none v t w out hr br (fun i hi => by rw [hk] at hi; exact absurd hi (Nat.not_lt_zero _)) h hb hB hs hw hlen
  | succ m ih =>
    intro d v t w out hp h hb hB hs hw hlen
    cases d with
    | zero => exact h.elim
    | succ d =>
      obtain ⟨r, br⟩ := hp
      have hr : rstep (some fun k => rgt m k) t = true := r
      refine write_step hT d (fun k => wrt m k) (fun t => rgt m t = true ∧ brief d t) (ih d) _ v t w out hr br (fun i hi => ⟨?_, br.2.2 i hi⟩) h hb hB hs hw hlen
      obtain ⟨h1, h2⟩ := (rstep_ral _ t).1 hr
      by_cases hl : isLst t = true
      · obtain ⟨v, e, _, hv⟩ := h2 hl
        cases e
        exact hv _ (getD_mem _ _ hi)
      · rw [kids_nil h1 hl] at hi
        exact absurd hi (Nat.not_lt_zero _)
end Go.Proofs.YteokhnielbmifaaGreatDoor.Flw
end

section
/- flow.Write, by its contract. -/
namespace Go.Proofs.YteokhnielbmifaaGreatDoor.Flw
open Utf Rws Pln
open Go.RowKit
set_option linter.unusedSimpArgs false
set_option linter.unusedVariables false
set_option maxRecDepth 100000
set_option maxHeartbeats 4000000

theorem Wb.fresh (w : World) : Wb w.heap.size w.heap.size [] (w.alloc (.cells #[.pointer none, .slice none 0 0] 47)) :=
  .inl ⟨Nat.le_refl _, .slice none 0 0, heap_alloc_new w _, by simp [World.ownsRowF, World.ownsRow, Lib.byteCells], by simp [Value.ownBlock], fun _ => rfl⟩
theorem write_no {d : Nat} {v : Value} {t : Tr} {w : World} (hb : brief d t) (h : TrV w d v t) (hT : Tb w) (hr : rgh d t = false) : Calls Tryz.prog 10 #[v] w fun e w' => e = .returned (.tuple #[.string (mk []), .int .i64 1]) ∧ Below w.heap.size w w' := by
  obtain ⟨ad, len, cap, hv⟩ := h.open4
  have HR : Hid (∀ c, Calls Tryz.prog 12 #[v] (w.alloc (.cells c 24)) fun e w' => e = .returned (.bool false) ∧ Hid (Below w.heap.size w w')) := fun c => by
    have b1 := below_alloc w (.cells c 24)
    exact (right_any hb (h.later b1 (Nat.le_refl _)) (hT.later b1)).mono (fun e w' g => ⟨by rw [g.1, hr], b1.trans (g.2.mono b1.size)⟩)
  clear hb h hT hr
  subst hv
  generalize t.kind = k at *
  generalize t.text = x at *
  generalize t.anc = a at *
  go_enter Tryz.func10, Tryz.ntmps10
  go_wp2_with (go_at_call 12; refine (HR.out _).mono ?_; rintro e w1 ⟨rfl, H1⟩)
  exact bodyPost_ret (v := .tuple #[.string (mk []), .int .i64 1]) (by simp [results, Tryz.results10, go_sem]; rfl) rfl ⟨rfl, H1.out⟩
theorem write_yes {d : Nat} {v : Value} {t : Tr} {w : World} (hb : brief d t) (h : TrV w d v t) (hT : Tb w) (hd : 64 < d) (hr : rgh d t = true) (hlen : (wrt 64 t).length ≤ 140737488355328) : Calls Tryz.prog 10 #[v] w fun e w' => e = .returned (.tuple #[.string (mk (wrt 64 t)), .int .i64 0]) ∧ Below w.heap.size w w' := by
  obtain ⟨ad, len, cap, hv⟩ := h.open4
  have hg : rgt 64 t = true := by
    have e := rgh_iff hd t
    rw [hr] at e
    cases h1 : rgt 64 t
    · rw [h1] at e; cases e
    · rfl
  have HR : Hid (Calls Tryz.prog 12 #[v] (w.alloc (.cells #[.int .i64 t.kind, .string (mk t.text), .string (mk t.anc), .slice ad len cap] 24)) fun e w' => e = .returned (.bool true) ∧ Hid (Below w.heap.size w w' ∧ Bx w' w.heap.size #[.int .i64 t.kind, .string (mk t.text), .string (mk t.anc), .slice ad len cap] 24)) := by
    have b1 := below_alloc w (.cells #[.int .i64 t.kind, .string (mk t.text), .string (mk t.anc), .slice ad len cap] 24)
    have n1 := Bx.new w #[.int .i64 t.kind, .string (mk t.text), .string (mk t.anc), .slice ad len cap] 24
    exact (right_any hb (h.later b1 (Nat.le_refl _)) (hT.later b1)).mono (fun e w' g => ⟨by rw [g.1, hr], b1.trans (g.2.mono b1.size), n1.later g.2⟩)
  have HWR : Hid (∀ w1, Below w.heap.size w w1 → Calls Tryz.prog 22 #[.pointer (some ⟨w1.heap.size, 0, none⟩), v] (w1.alloc (.cells #[.pointer none, .slice none 0 0] 47)) fun e w' => e = .returned (.tuple #[]) ∧ Hid (Wb w1.heap.size w1.heap.size (wrt 64 t) w' ∧ Below w.heap.size w w' ∧ w1.heap.size ≤ w'.heap.size)) := fun w1 b1 => by
    have b2 := below_alloc w1 (.cells #[.pointer none, .slice none 0 0] 47)
    have s2 : (w1.alloc (.cells #[.pointer none, .slice none 0 0] 47)).heap.size = w1.heap.size + 1 := World.size_alloc _ _
    exact (write_any hT 64 d v t _ [] ⟨hg, hb⟩ h (b1.trans (b2.mono b1.size)) b1.size (by omega) (Wb.fresh w1) (by simpa using hlen)).mono (fun e w' g => ⟨g.1, g.2.1, (b1.trans (b2.mono b1.size)).trans (g.2.2.1.mono b1.size), by have := g.2.2.1.size; omega⟩)
  have HSG : Hid (∀ B w3, Wb B B (wrt 64 t) w3 → Below w.heap.size w w3 → w.heap.size ≤ B → B ≤ w3.heap.size → Calls Tryz.prog 23 #[.pointer (some ⟨B, 0, none⟩)] w3 fun e w' => e = .returned (.string (mk (wrt 64 t))) ∧ Hid (Below w.heap.size w w')) := fun B w3 hw hb hB hs =>
    (Quo.string_any (wrt 64 t) hw hs).mono (fun e w' g => ⟨g.1, hb.trans (g.2.2.1.mono hB)⟩)
  clear hb h hT hr hg hlen
  subst hv
  generalize wrt 64 t = X at *
  generalize t.kind = k at *
  generalize t.text = x at *
  generalize t.anc = a at *
  go_enter Tryz.func10, Tryz.ntmps10
  go_wp2_with (go_at_call 12; refine HR.out.mono ?_; rintro e w1 ⟨rfl, H1⟩; have e0 : w1.cell? ⟨w.heap.size, 0, none⟩ = some (.int .i64 k) := H1.out.2.cell 0; have e1 : w1.cell? ⟨w.heap.size, 1, none⟩ = some (.string (mk x)) := H1.out.2.cell 1; have e2 : w1.cell? ⟨w.heap.size, 2, none⟩ = some (.string (mk a)) := H1.out.2.cell 2; have e3 : w1.cell? ⟨w.heap.size, 3, none⟩ = some (.slice ad len cap) := H1.out.2.cell 3; have hlt : w.heap.size < w1.heap.size := H1.out.2.lt)
  refine (HWR.out w1 H1.out.1).mono ?_
  rintro e w3 ⟨rfl, H3⟩
  have hB : w.heap.size ≤ w1.heap.size := by omega
  generalize w1.heap.size = K at *
  have HS2 := HSG.out K w3 H3.out.1 H3.out.2.1 hB H3.out.2.2
  go_wp2_with fail
  refine HS2.mono ?_
  rintro e w4 ⟨rfl, H4⟩
  go_wp2
  exact bodyPost_ret (v := .tuple #[.string (mk X), .int .i64 0]) (by simp [results, Tryz.results10, go_sem]) rfl ⟨rfl, H4.out⟩
end Go.Proofs.YteokhnielbmifaaGreatDoor.Flw
end

section
/- alive's text and tree, as plain facts. -/
namespace Go.Proofs.YteokhnielbmifaaGreatDoor.Flw
open Utf Rws Pln
open Go.RowKit
set_option maxRecDepth 100000

/-- alive's text -/
def lvS : Ln := [38, 97, 32, 91, 49, 44, 32, 123, 98, 58, 32, 126, 125, 44, 32, 33, 33, 115, 116, 114, 32, 50, 93]
/-- its tree -/
def lvT : Tr := ⟨5, [], [97], [⟨3, [49], [], []⟩, ⟨6, [], [], [⟨4, [98], [], []⟩, ⟨1, [], [], []⟩]⟩, ⟨4, [50], [], []⟩]⟩
/-- and what is written of it -/
def lvW : Ln := [38, 97, 32, 91, 49, 44, 32, 123, 98, 58, 32, 110, 117, 108, 108, 125, 44, 32, 34, 50, 34, 93]
theorem lv_wrt : wrt 64 lvT = lvW := by kernel_rfl
theorem lv_rgt : rgt 64 lvT = true := by kernel_rfl
theorem lv_whole : whole lvS = (lvT, 0, 0) := by kernel_rfl
end Go.Proofs.YteokhnielbmifaaGreatDoor.Flw
end
