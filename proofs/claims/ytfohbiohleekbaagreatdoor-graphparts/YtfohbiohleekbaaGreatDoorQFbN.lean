/- Several texts as one: FlowScal, FlowScal2. -/
import Derived.Test.YtfohbiohleekbaaGreatDoorQFlowProp
import Derived.Test.YtfohbiohleekbaaGreatDoorQFbI
import Derived.Test.YtfohbiohleekbaaGreatDoorQFbM
section
/- . -/
namespace Go.Proofs.YtfohbiohleekbaaGreatDoor.Flw
open Utf Rws Pln
open Go.RowKit
set_option linter.unusedSimpArgs false
set_option linter.unusedVariables false
set_option maxRecDepth 100000
set_option maxHeartbeats 4000000
variable {b p dp : Nat} {s : Ln} {w w1 w2 : World}
def Tb (w : World) : Prop := Pln.Tabs w ∧ Quo.Tabs w
theorem Tb.later (h : Tb w) (hb : Below w.heap.size w w1) : Tb w1 := ⟨h.1.later hb, h.2.later hb⟩
def TbB (b : Nat) (w : World) : Prop := ∃ w0 : World, Tb w0 ∧ w0.heap.size ≤ b ∧ Below w0.heap.size w0 w
theorem TbB.tb (h : TbB b w) : Tb w := by obtain ⟨w0, h1, h2, h3⟩ := h; exact h1.later h3
theorem TbB.fr (h : TbB b w) (hf : Fr b w w1) : TbB b w1 := by obtain ⟨w0, h1, h2, h3⟩ := h; exact ⟨w0, h1, h2, h3.trans (hf.1.mono h2)⟩
theorem TbB.later (h : TbB b w) (hb : Below w.heap.size w w1) : TbB b w1 := by obtain ⟨w0, h1, h2, h3⟩ := h; exact ⟨w0, h1, h2, h3.trans (hb.mono h3.size)⟩
theorem rdF_place (q : UInt8) : ∀ (f : Nat) (l : Ln) (at_ : Nat) (out : Ln), (Quo.rdF q f l at_ out).2.2.2 ≤ at_ + l.length
 | 0, l, at_, out => by rw [Quo.rdF]; exact Nat.le_refl _
 | f + 1, l, at_, out => by
  rw [Quo.rdF]
  by_cases h1 : (Quo.stp q l).1 = 0
  ·rw [if_pos h1]; exact Nat.zero_le _
  rw [if_neg h1]
  by_cases h2 : (Quo.stp q l).1 = 1
  ·rw [if_pos h2]
   obtain ⟨n, hs, e, k1, k2⟩ := Quo.stp_out h2
   have := rdF_place q f (l.drop (Quo.stp q l).2.2) (at_ + (Quo.stp q l).2.2) (out ++ (Quo.stp q l).2.1)
   rw [List.length_drop] at this
   omega
  rw [if_neg h2]
  split
  ·exact Nat.le_refl _
  ·exact Nat.le_add_right _ _
theorem rd_place (l : Ln) : (Quo.rd l).2.2.2 ≤ l.length := by
 unfold Quo.rd
 by_cases h1 : l = []
 ·rw [if_pos h1]; exact Nat.zero_le _
 rw [if_neg h1]
 by_cases h2 : l.getD 0 0 = 39 ∨ l.getD 0 0 = 34
 ·rw [if_pos h2]
  have := rdF_place (l.getD 0 0) l.length (l.drop 1) 1 []
  have hp := List.length_pos_iff.2 h1
  rw [List.length_drop] at this
  omega
 ·rw [if_neg h2]; exact Nat.zero_le _
theorem rdF_olen (q : UInt8) : ∀ (f : Nat) (l : Ln) (at_ : Nat) (out : Ln), out.length ≤ at_ → (Quo.rdF q f l at_ out).1.length ≤ at_ + l.length
 | 0, l, at_, out, h => by rw [Quo.rdF]; exact Nat.zero_le _
 | f + 1, l, at_, out, h => by
  rw [Quo.rdF]
  by_cases h1 : (Quo.stp q l).1 = 0
  ·rw [if_pos h1]; show out.length ≤ _; omega
  rw [if_neg h1]
  by_cases h2 : (Quo.stp q l).1 = 1
  ·rw [if_pos h2]
   obtain ⟨n, hs, e, k1, k2⟩ := Quo.stp_out h2
   have h3 := Quo.stp_le h2
   have := rdF_olen q f (l.drop (Quo.stp q l).2.2) (at_ + (Quo.stp q l).2.2) (out ++ (Quo.stp q l).2.1) (by rw [List.length_append]; omega)
   rw [List.length_drop] at this
   omega
  rw [if_neg h2]
  split <;> exact Nat.zero_le _
theorem rd_olen (l : Ln) : (Quo.rd l).1.length ≤ l.length := by
 unfold Quo.rd
 by_cases h1 : l = []
 ·rw [if_pos h1]; exact Nat.zero_le _
 rw [if_neg h1]
 by_cases h2 : l.getD 0 0 = 39 ∨ l.getD 0 0 = 34
 ·rw [if_pos h2]
  have := rdF_olen (l.getD 0 0) l.length (l.drop 1) 1 [] (Nat.zero_le _)
  have hp := List.length_pos_iff.2 h1
  rw [List.length_drop] at this
  omega
 ·rw [if_neg h2]; exact Nat.zero_le _
def lfV (k : Int) (x a : Ln) : Value := .agg #[.int .i64 k, .string (mk x), .string (mk a), .slice none 0 0]
def zT : Array Value := #[.int .i64 0, .string ⟨#[]⟩, .string ⟨#[]⟩, .slice none 0 0]
def fill4 (w : World) (K : Nat) (x0 x1 x2 x3 : Value) : World := (((w.setCell ⟨K, 0, none⟩ x0).setCell ⟨K, 1, none⟩ x1).setCell ⟨K, 2, none⟩ x2).setCell ⟨K, 3, none⟩ x3
theorem Bx.fill4 {K : Nat} {cs : Array Value} {t : TypeId} (h : Bx w K cs t) (hz : cs.size = 4) (x0 x1 x2 x3 : Value) : Bx (fill4 w K x0 x1 x2 x3) K #[x0, x1, x2, x3] t := by
 have e : (((cs.setIfInBounds 0 x0).setIfInBounds 1 x1).setIfInBounds 2 x2).setIfInBounds 3 x3 = #[x0, x1, x2, x3] := by
  obtain ⟨l⟩ := cs
  match l, hz with
  | [_, _, _, _], _ => rfl
 exact e ▸ (((h.set 0 x0).set 1 x1).set 2 x2).set 3 x3
theorem below_fill4 {B K : Nat} (h : Below B w w1) (hK : B ≤ K) (x0 x1 x2 x3 : Value) : Below B w (fill4 w1 K x0 x1 x2 x3) :=
 (((h.setCell (p := ⟨K, 0, none⟩) hK _).setCell (p := ⟨K, 1, none⟩) hK _).setCell (p := ⟨K, 2, none⟩) hK _).setCell (p := ⟨K, 3, none⟩) hK _
theorem Fr.fill4 {K : Nat} (h : Fr b w w1) (hK : w.heap.size ≤ K) (hb : b < K) (x0 x1 x2 x3 : Value) : Fr b w (fill4 w1 K x0 x1 x2 x3) := (((h.new hK hb _ _).new hK hb _ _).new hK hb _ _).new hK hb _ _
theorem Rd.fill4 {K : Nat} (h : Rd w b s p dp) (hK : K ≠ b) (x0 x1 x2 x3 : Value) : Rd (fill4 w K x0 x1 x2 x3) b s p dp := (((h.other hK _ _).other hK _ _).other hK _ _).other hK _ _
theorem Bx.fill4o {K K' : Nat} {cs : Array Value} {t : TypeId} (h : Bx w K cs t) (hK : K ≠ K') (x0 x1 x2 x3 : Value) : Bx (Flw.fill4 w K' x0 x1 x2 x3) K cs t := (((h.other hK _ _).other hK _ _).other hK _ _).other hK _ _
theorem plainTree_any (l : Ln) (hl : l.length ≤ 65536) (hT : Tb w) :
  Calls Tryz.prog 110 #[.string (mk l)] w fun e w' => e = .returned (lfV (knd l) (if knd l = 1 then [] else l) []) ∧ Below w.heap.size w w' := by
 have hb0 := below_alloc w (.cells zT 24)
 have HR : Hid (Calls Tryz.prog 114 #[.string (mk l)] (w.alloc (.cells zT 24)) fun e w' => e = .returned (.int .i64 (knd l)) ∧ Bx w' w.heap.size zT 24 ∧ Hid (Below w.heap.size w w')) :=
  (resolve_any l _ (by omega) (hT.later hb0).1).mono (fun e w' h => ⟨h.1, (Bx.new w zT 24).later h.2, hb0.trans (h.2.mono (by simp))⟩)
 have hk := knd_bd l
 generalize knd l = k at *
 clear hT hb0
 obtain ⟨W, hW⟩ : ∃ W, w.alloc (.cells zT 24) = W := ⟨_, rfl⟩
 rw [hW] at HR
 have hW' : w.alloc (.cells #[.int .i64 0, .string ⟨#[]⟩, .string ⟨#[]⟩, .slice none 0 0] 24) = W := hW
 clear hW
 by_cases e1 : k = 1
 ·subst e1
  go_enter Tryz.func110, Tryz.ntmps110
  go_wp2_with fail
  refine HR.out.mono ?_
  rintro e w3 ⟨rfl, hx, hb⟩
  have HF := hx.fill4 rfl (.int .i64 1) (.string ⟨#[]⟩) (.string ⟨#[]⟩) (.slice none 0 0)
  have HBF : Hid (Below w.heap.size w (fill4 w3 w.heap.size (.int .i64 1) (.string ⟨#[]⟩) (.string ⟨#[]⟩) (.slice none 0 0))) := below_fill4 hb.out (Nat.le_refl _) _ _ _ _
  have c0 := hx.cell 0
  have c1 := hx.cell 1
  have c2 := hx.cell 2
  have c3 := hx.cell 3
  have z0 := hx.fz 0
  have z1 := hx.fz 1
  have z2 := hx.fz 2
  have z3 := hx.fz 3
  simp only [zT] at c0 c1 c2 c3
  clear hx
  go_wp2
  change bodyPost _ _ _ _ _ (fill4 w3 w.heap.size (.int .i64 1) (.string ⟨#[]⟩) (.string ⟨#[]⟩) (.slice none 0 0))
  generalize fill4 w3 w.heap.size (.int .i64 1) (.string ⟨#[]⟩) (.string ⟨#[]⟩) (.slice none 0 0) = WF at HF HBF ⊢
  have j0 := HF.cell 0
  have j1 := HF.cell 1
  have j2 := HF.cell 2
  have j3 := HF.cell 3
  refine bodyPost_ret (v := .agg #[.int .i64 1, .string ⟨#[]⟩, .string ⟨#[]⟩, .slice none 0 0]) (by simp [results, Tryz.results110, go_sem, j0, j1, j2, j3]) rfl ?_
  exact ⟨rfl, HBF.out⟩
 ·have hke : (k == 1) = false := by simpa using e1
  go_enter Tryz.func110, Tryz.ntmps110
  go_wp2_with fail
  refine HR.out.mono ?_
  rintro e w3 ⟨rfl, hx, hb⟩
  have HF := hx.fill4 rfl (.int .i64 k) (.string (mk l)) (.string ⟨#[]⟩) (.slice none 0 0)
  have HBF : Hid (Below w.heap.size w (fill4 w3 w.heap.size (.int .i64 k) (.string (mk l)) (.string ⟨#[]⟩) (.slice none 0 0))) := below_fill4 hb.out (Nat.le_refl _) _ _ _ _
  have c0 := hx.cell 0
  have c1 := hx.cell 1
  have c2 := hx.cell 2
  have c3 := hx.cell 3
  have z0 := hx.fz 0
  have z1 := hx.fz 1
  have z2 := hx.fz 2
  have z3 := hx.fz 3
  simp only [zT] at c0 c1 c2 c3
  clear hx
  go_wp2
  change bodyPost _ _ _ _ _ (fill4 w3 w.heap.size (.int .i64 k) (.string (mk l)) (.string ⟨#[]⟩) (.slice none 0 0))
  generalize fill4 w3 w.heap.size (.int .i64 k) (.string (mk l)) (.string ⟨#[]⟩) (.slice none 0 0) = WF at HF HBF ⊢
  have j0 := HF.cell 0
  have j1 := HF.cell 1
  have j2 := HF.cell 2
  have j3 := HF.cell 3
  refine bodyPost_ret (v := .agg #[.int .i64 k, .string (mk l), .string ⟨#[]⟩, .slice none 0 0]) (by simp [results, Tryz.results110, go_sem, j0, j1, j2, j3]) rfl ?_
  exact ⟨rfl, HBF.out⟩
theorem unquoted_any (f : Bool) (h : Rd w b s p dp) (hp : p ≤ s.length) (hs : s.length ≤ 65536) :
  Calls Tryz.prog 109 #[.pointer (some ⟨b, 0, none⟩), .bool f] w fun e w' => NamRes b s dp w (lplain f (s.drop p)) e w' := by
 have hlt := h.lt
 have hb0 := below_alloc w (.cells zF 59)
 have hr0 := h.later hb0
 have hsz := mk_size s
 have hn := nx_le s p
 have hex : (mk s).extract (nx s p) s.length = mk (gaps (s.drop p)) := by rw [mk_ext, drop_nx s hp, List.take_of_length_le (by rw [gaps_nx s hp]; omega)]
 have hgl := gaps_nx s hp
 have hcl := cutT_len (gaps (s.drop p)) f
 have hfl := fin_le (gaps (s.drop p)) f
 obtain ⟨W, hW⟩ : ∃ W, w.alloc (.cells zF 59) = W := ⟨_, rfl⟩
 rw [hW] at hb0 hr0
 have hW' : w.alloc (.cells #[.int .i64 0, .int .i64 0] 59) = W := hW
 have hx0 : Bx W w.heap.size zF 59 := by rw [← hW]; exact Bx.new w zF 59
 clear hW
 have HN : Hid (Calls Tryz.prog 49 #[.pointer (some ⟨b, 0, none⟩)] W fun e w' => e = .returned (.int .i64 (nx s p : Nat)) ∧ w'.cell? ⟨b, 0, none⟩ = some (.string (mk s)) ∧ ∃ n, w' = W.drewN n) := (next_any hr0 hp hs).mono (fun e w' h => ⟨h.1, by obtain ⟨n, rfl⟩ := h.2; exact hr0.c0, h.2⟩)
 have HC : Hid (∀ n, Calls Tryz.prog 119 #[.string (mk (gaps (s.drop p))), .bool f] (W.drewN n) fun e w' => e = .returned (.tuple #[.string (mk (cutT (gaps (s.drop p)) f)), .int .i64 (fin (gaps (s.drop p)) f)]) ∧ Hid (Rd w' b s p dp ∧ Bx w' w.heap.size zF 59 ∧ Below w.heap.size w w')) := fun n =>
  (cut_any _ f _ (by omega)).mono (fun e w' h => ⟨h.1, (hr0.drew n).later h.2, (hx0.drew n).later h.2, (below_drewN hb0 n).trans (h.2.mono (by show w.heap.size ≤ W.heap.size; exact hb0.size))⟩)
 have HI : Hid (∀ w, Calls Tryz.prog 121 #[.string (mk (cutT (gaps (s.drop p)) f)), .bool f] w fun e w' => e = .returned (.bool (isP (cutT (gaps (s.drop p)) f) f)) ∧ Below w.heap.size w w') := fun w => is_any _ f w (by omega)
 have hce : ((mk (cutT (gaps (s.drop p)) f)).toList == []) = (cutT (gaps (s.drop p)) f == []) := by rw [ByteArray.toList_eq, mk_data]
 have hcz := mk_size (cutT (gaps (s.drop p)) f)
 have HL : Hid (lplain f (s.drop p) = if cutT (gaps (s.drop p)) f = [] then .ok ([], s.drop p) else if isP (cutT (gaps (s.drop p)) f) f = false then .error (3, s.length - nx s p) else .ok (cutT (gaps (s.drop p)) f, s.drop (nx s p + (cutT (gaps (s.drop p)) f).length))) := by
  unfold lplain
  rw [gaps_nx s hp, ← List.drop_drop, drop_nx s hp]
  exact rfl
 have HNX : Hid (p ≤ nx s p) := nx_ge s hp
 generalize cutT (gaps (s.drop p)) f = C at *
 generalize isP C f = I at *
 generalize fin (gaps (s.drop p)) f = FN at *
 generalize mk (gaps (s.drop p)) = X at *
 generalize (gaps (s.drop p)).length = G at *
 generalize nx s p = n at *
 clear h hr0 hx0 hb0
 by_cases hC : C = []
 ·subst hC
  have HV : Hid (lplain f (s.drop p) = .ok ([], s.drop p)) := HL.out
  go_enter Tryz.func109, Tryz.ntmps109
  go_wp2_with fail
  refine HN.out.mono ?_
  rintro e w1 ⟨rfl, c0, k, rfl⟩
  go_wp2_with fail
  refine (HC.out k).mono ?_
  rintro e w3 ⟨rfl, hX⟩
  have d0 : w3.cell? ⟨w.heap.size, 0, none⟩ = some (.int .i64 0) := hX.out.2.1.cell 0
  have d1 : w3.cell? ⟨w.heap.size, 1, none⟩ = some (.int .i64 0) := hX.out.2.1.cell 1
  have d2 := hX.out.2.1.fz 0
  have d3 := hX.out.2.1.fz 1
  go_wp2
  refine bodyPost_ret (v := .tuple #[.string ⟨#[]⟩, .agg #[.int .i64 0, .int .i64 0]]) (by simp [results, Tryz.results109, go_sem, d0, d1]) rfl ?_
  rw [HV.out]
  exact ⟨rfl, ⟨p, hp, rfl, hX.out.1.box (by omega) _ _⟩, (Fr.of hX.out.2.2 hlt).box (Nat.le_refl _) hlt _ _⟩
 ·have hCe : (C == []) = false := by simpa using hC
  rw [hCe] at hce
  cases I
  ·have HV : Hid (lplain f (s.drop p) = .error (3, s.length - n)) := by have := HL.out; rw [if_neg hC, if_pos rfl] at this; exact this
   go_enter Tryz.func109, Tryz.ntmps109
   go_wp2_with fail
   refine HN.out.mono ?_
   rintro e w1 ⟨rfl, c0, k, rfl⟩
   go_wp2_with fail
   refine (HC.out k).mono ?_
   rintro e w3 ⟨rfl, hX⟩
   go_wp2_with fail
   refine (HI.out _).mono ?_
   rintro e w4 ⟨rfl, hb4⟩
   have hX4 := hX.out.2.1.later hb4
   have hB4 : Below w.heap.size w w4 := hX.out.2.2.trans (hb4.mono hX.out.2.2.size)
   have d0 : w4.cell? ⟨w.heap.size, 0, none⟩ = some (.int .i64 0) := hX4.cell 0
   have d1 : w4.cell? ⟨w.heap.size, 1, none⟩ = some (.int .i64 0) := hX4.cell 1
   have d2 := hX4.fz 0
   have d3 := hX4.fz 1
   have HB4 : Hid (Below w.heap.size w w4) := hB4
   clear hB4 hb4 hX4
   go_wp2
   refine bodyPost_ret (v := .tuple #[.string ⟨#[]⟩, .agg #[.int .i64 3, .int .i64 (n : Int)]]) (by simp [results, Tryz.results109, go_sem, d0, d1]) rfl ?_
   rw [HV.out]
   exact ⟨by rw [fv_at 3 hn]; rfl, (Fr.of HB4.out hlt).box (Nat.le_refl _) hlt _ _⟩
  ·have HV : Hid (lplain f (s.drop p) = .ok (C, s.drop (n + C.length))) := by have := HL.out; rw [if_neg hC, if_neg (by decide)] at this; exact this
   have hnc : n + C.length ≤ s.length := by omega
   go_enter Tryz.func109, Tryz.ntmps109
   go_wp2_with fail
   refine HN.out.mono ?_
   rintro e w1 ⟨rfl, c0, k, rfl⟩
   go_wp2_with fail
   refine (HC.out k).mono ?_
   rintro e w3 ⟨rfl, hX⟩
   go_wp2_with fail
   refine (HI.out _).mono ?_
   rintro e w4 ⟨rfl, hb4⟩
   have hr4 := hX.out.1.later hb4
   have hX4 := hX.out.2.1.later hb4
   have hB4 : Below w.heap.size w w4 := hX.out.2.2.trans (hb4.mono hX.out.2.2.size)
   have z1 := hr4.fz 1
   have c1 := hr4.c1
   have hR5 := hr4.set1 (n + C.length)
   have hF5 : Fr b w (w4.setCell ⟨b, 1, none⟩ (.int .i64 ((n + C.length : Nat) : Int))) := (Fr.of hB4 hlt).set 1 _
   have hX5 := hX4.other (j := b) (show w.heap.size ≠ b by omega) 1 (.int .i64 ((n + C.length : Nat) : Int))
   obtain ⟨w5, hw5⟩ : ∃ w5, w4.setCell ⟨b, 1, none⟩ (.int .i64 ((n + C.length : Nat) : Int)) = w5 := ⟨_, rfl⟩
   rw [hw5] at hR5 hF5 hX5
   rw [Int.natCast_add] at hw5
   have d0 : w5.cell? ⟨w.heap.size, 0, none⟩ = some (.int .i64 0) := hX5.cell 0
   have d1 : w5.cell? ⟨w.heap.size, 1, none⟩ = some (.int .i64 0) := hX5.cell 1
   have d2 := hX5.fz 0
   have d3 := hX5.fz 1
   have HR5 : Hid (Rd w5 b s (n + C.length) dp) := hR5
   have HF5 : Hid (Fr b w w5) := hF5
   clear hr4 hX4 hB4 hb4 hR5 hF5 hX5 hX HC HI HN
   go_wp2
   refine bodyPost_ret (v := .tuple #[.string (mk C), .agg #[.int .i64 0, .int .i64 0]]) (by simp [results, Tryz.results109, go_sem, d0, d1]) rfl ?_
   rw [HV.out]
   exact ⟨rfl, ⟨n + C.length, hnc, rfl, HR5.out.box (by omega) _ _⟩, HF5.out.box (Nat.le_refl _) hlt _ _⟩
theorem quoted_any (h : Rd w b s p dp) (hp : p ≤ s.length) (hs : s.length ≤ 65536) (hT : TbB b w) :
  Calls Tryz.prog 108 #[.pointer (some ⟨b, 0, none⟩)] w fun e w' => NamRes b s dp w (quoted (gaps (s.drop p))) e w' := by
 have hlt := h.lt
 have hb0 := below_alloc w (.cells zF 59)
 have hr0 := h.later hb0
 have hsz := mk_size s
 have hn := nx_le s p
 have hex : (mk s).extract (nx s p) s.length = mk (gaps (s.drop p)) := by rw [mk_ext, drop_nx s hp, List.take_of_length_le (by rw [gaps_nx s hp]; omega)]
 have hgl := gaps_nx s hp
 obtain ⟨W, hW⟩ : ∃ W, w.alloc (.cells zF 59) = W := ⟨_, rfl⟩
 rw [hW] at hb0 hr0
 have hW' : w.alloc (.cells #[.int .i64 0, .int .i64 0] 59) = W := hW
 have hx0 : Bx W w.heap.size zF 59 := by rw [← hW]; exact Bx.new w zF 59
 clear hW
 have HN : Hid (Calls Tryz.prog 49 #[.pointer (some ⟨b, 0, none⟩)] W fun e w' => e = .returned (.int .i64 (nx s p : Nat)) ∧ w'.cell? ⟨b, 0, none⟩ = some (.string (mk s)) ∧ ∃ n, w' = W.drewN n) := (next_any hr0 hp hs).mono (fun e w' h => ⟨h.1, by obtain ⟨n, rfl⟩ := h.2; exact hr0.c0, h.2⟩)
 have hpl := rd_place (gaps (s.drop p))
 have hme := Quo.rd_means (gaps (s.drop p))
 have HQ : Hid (∀ n, Calls Tryz.prog 120 #[.string (mk (gaps (s.drop p)))] (W.drewN n) fun e w' => e = .returned (.tuple #[.string (mk (Quo.rd (gaps (s.drop p))).1), .int .i64 ((Quo.rd (gaps (s.drop p))).2.1 : Int), .agg #[.int .i64 ((Quo.rd (gaps (s.drop p))).2.2.1 : Int), .int .i64 ((Quo.rd (gaps (s.drop p))).2.2.2 : Int)]]) ∧ Hid (Rd w' b s p dp ∧ Bx w' w.heap.size zF 59 ∧ Below w.heap.size w w')) := fun n =>
  (Quo.read_any _ _ (by omega) ((hT.later hb0).later (below_drewN (Below.refl _ _) n)).tb.2).mono (fun e w' h => ⟨h.1, (hr0.drew n).later h.2, (hx0.drew n).later h.2, (below_drewN hb0 n).trans (h.2.mono (by show w.heap.size ≤ W.heap.size; exact hb0.size))⟩)
 have HL : Hid (quoted (gaps (s.drop p)) = if (Quo.rd (gaps (s.drop p))).2.2.1 ≠ 0 then .error ((Quo.rd (gaps (s.drop p))).2.2.1, s.length - (nx s p + (Quo.rd (gaps (s.drop p))).2.2.2)) else .ok ((Quo.rd (gaps (s.drop p))).1, s.drop (nx s p + (Quo.rd (gaps (s.drop p))).2.1))) := by
  unfold quoted
  rw [gaps_nx s hp, ← List.drop_drop, drop_nx s hp, Nat.sub_sub]
  exact rfl
 rw [hgl] at hpl hme
 generalize Quo.rd (gaps (s.drop p)) = r at hpl hme HQ HL
 obtain ⟨T, L, Y, A⟩ := r
 simp only at hpl hme HQ HL
 generalize mk (gaps (s.drop p)) = X at *
 generalize (gaps (s.drop p)).length = G at *
 generalize nx s p = n at *
 clear h hr0 hx0 hb0 hT
 by_cases hY : Y = 0
 ·subst hY
  have hme := hme rfl
  have HV : Hid (quoted (gaps (s.drop p)) = .ok (T, s.drop (n + L))) := HL.out
  have hnl : n + L ≤ s.length := by omega
  go_enter Tryz.func108, Tryz.ntmps108
  go_wp2_with fail
  refine HN.out.mono ?_
  rintro e w1 ⟨rfl, c0, k, rfl⟩
  go_wp2_with fail
  refine (HQ.out k).mono ?_
  rintro e w3 ⟨rfl, hX⟩
  have hb4 := below_alloc w3 (.cells #[.int .i64 0, .int .i64 (A : Int)] 59)
  have hKF : w.heap.size < w3.heap.size := hX.out.2.1.lt
  have hr4 := hX.out.1.later hb4
  have hX4 := hX.out.2.1.later hb4
  have hB4 := hX.out.2.2.trans (hb4.mono hX.out.2.2.size)
  have hF4 := Bx.new w3 #[.int .i64 0, .int .i64 (A : Int)] 59
  obtain ⟨w4, hw4⟩ : ∃ w4, w3.alloc (.cells #[.int .i64 0, .int .i64 (A : Int)] 59) = w4 := ⟨_, rfl⟩
  rw [hw4] at hr4 hX4 hB4 hF4
  have i0 : w4.cell? ⟨w3.heap.size, 0, none⟩ = some (.int .i64 0) := hF4.cell 0
  have z1 := hr4.fz 1
  have c1 := hr4.c1
  have hR5 := hr4.set1 (n + L)
  have hF5 : Fr b w (w4.setCell ⟨b, 1, none⟩ (.int .i64 ((n + L : Nat) : Int))) := (Fr.of hB4 hlt).set 1 _
  have hX5 := hX4.other (j := b) (show w.heap.size ≠ b by omega) 1 (.int .i64 ((n + L : Nat) : Int))
  obtain ⟨w5, hw5⟩ : ∃ w5, w4.setCell ⟨b, 1, none⟩ (.int .i64 ((n + L : Nat) : Int)) = w5 := ⟨_, rfl⟩
  rw [hw5] at hR5 hF5 hX5
  rw [Int.natCast_add] at hw5
  have d0 : w5.cell? ⟨w.heap.size, 0, none⟩ = some (.int .i64 0) := hX5.cell 0
  have d1 : w5.cell? ⟨w.heap.size, 1, none⟩ = some (.int .i64 0) := hX5.cell 1
  have d2 := hX5.fz 0
  have d3 := hX5.fz 1
  have HR5 : Hid (Rd w5 b s (n + L) dp) := hR5
  have HF5 : Hid (Fr b w w5) := hF5
  clear hr4 hX4 hB4 hb4 hF4 hR5 hF5 hX5 hX HQ HN
  go_wp2
  refine bodyPost_ret (v := .tuple #[.string (mk T), .agg #[.int .i64 0, .int .i64 0]]) (by simp [results, Tryz.results108, go_sem, d0, d1]) rfl ?_
  rw [HV.out]
  exact ⟨rfl, ⟨n + L, hnl, rfl, HR5.out.box (by omega) _ _⟩, HF5.out.box (Nat.le_refl _) hlt _ _⟩
 ·have HV : Hid (quoted (gaps (s.drop p)) = .error (Y, s.length - (n + A))) := by have := HL.out; rw [if_pos hY] at this; exact this
  have hYe : ((Y : Int) != 0) = true := by simpa using hY
  have hYf : ((Y : Int) == 0) = false := by simpa using hY
  have hna : n + A ≤ s.length := by omega
  go_enter Tryz.func108, Tryz.ntmps108
  go_wp2_with fail
  refine HN.out.mono ?_
  rintro e w1 ⟨rfl, c0, k, rfl⟩
  go_wp2_with fail
  refine (HQ.out k).mono ?_
  rintro e w3 ⟨rfl, hX⟩
  have hb4 := below_alloc w3 (.cells #[.int .i64 (Y : Int), .int .i64 (A : Int)] 59)
  have hKF : w.heap.size < w3.heap.size := hX.out.2.1.lt
  have hX4 := hX.out.2.1.later hb4
  have hB4 := hX.out.2.2.trans (hb4.mono hX.out.2.2.size)
  have hF4 := Bx.new w3 #[.int .i64 (Y : Int), .int .i64 (A : Int)] 59
  obtain ⟨w4, hw4⟩ : ∃ w4, w3.alloc (.cells #[.int .i64 (Y : Int), .int .i64 (A : Int)] 59) = w4 := ⟨_, rfl⟩
  rw [hw4] at hX4 hB4 hF4
  have hne1 : w3.heap.size ≠ w.heap.size := by omega
  have hne2 : w.heap.size ≠ w3.heap.size := by omega
  have i0 : w4.cell? ⟨w3.heap.size, 0, none⟩ = some (.int .i64 (Y : Int)) := hF4.cell 0
  have i1 : w4.cell? ⟨w3.heap.size, 1, none⟩ = some (.int .i64 (A : Int)) := hF4.cell 1
  have i2 : w4.frozen? ⟨w3.heap.size, 1, none⟩ = false := hF4.fz 1
  have hF5 := hF4.set 1 (.int .i64 ((A + n : Nat) : Int))
  have hX5 := hX4.other (j := w3.heap.size) (by omega) 1 (.int .i64 ((A + n : Nat) : Int))
  have hB5 : Below w.heap.size w (w4.setCell ⟨w3.heap.size, 1, none⟩ (.int .i64 ((A + n : Nat) : Int))) := hB4.setCell (p := ⟨w3.heap.size, 1, none⟩) (by show w.heap.size ≤ w3.heap.size; omega) _
  obtain ⟨w5, hw5⟩ : ∃ w5, w4.setCell ⟨w3.heap.size, 1, none⟩ (.int .i64 ((A + n : Nat) : Int)) = w5 := ⟨_, rfl⟩
  rw [hw5] at hF5 hX5 hB5
  rw [Int.natCast_add] at hw5
  have l0 : w5.cell? ⟨w3.heap.size, 0, none⟩ = some (.int .i64 (Y : Int)) := hF5.cell 0
  have l1 : w5.cell? ⟨w3.heap.size, 1, none⟩ = some (.int .i64 ((A : Int) + (n : Int))) := by have := hF5.cell 1; rw [Int.natCast_add] at this; exact this
  have d0 : w5.cell? ⟨w.heap.size, 0, none⟩ = some (.int .i64 0) := hX5.cell 0
  have d1 : w5.cell? ⟨w.heap.size, 1, none⟩ = some (.int .i64 0) := hX5.cell 1
  have d2 := hX5.fz 0
  have d3 := hX5.fz 1
  have HB5 : Hid (Below w.heap.size w w5) := hB5
  clear hX4 hB4 hb4 hF4 hF5 hX5 hB5 hX HQ HN
  go_wp2
  go_region
  all_goals
   go_wp2
   refine bodyPost_ret (v := .tuple #[.string ⟨#[]⟩, .agg #[.int .i64 (Y : Int), .int .i64 ((A : Int) + (n : Int))]]) (by simp [results, Tryz.results108, go_sem, d0, d1]) rfl ?_
   rw [HV.out]
   refine ⟨by rw [fv_at Y hna, Int.natCast_add, Int.add_comm]; rfl, ?_⟩
   exact ((Fr.of HB5.out hlt).box (Nat.le_refl _) hlt _ _).drew
end Go.Proofs.YtfohbiohleekbaaGreatDoor.Flw
end

section
/- . -/
namespace Go.Proofs.YtfohbiohleekbaaGreatDoor.Flw
open Utf Rws Pln
open Go.RowKit
set_option linter.unusedSimpArgs false
set_option linter.unusedVariables false
set_option maxRecDepth 100000
set_option maxHeartbeats 4000000
variable {b p dp : Nat} {s : Ln} {w w1 w2 : World}
structure S2 (w0 w : World) (b K0 K1 : Nat) : Prop where
 k0 : Bx w K0 zT 24
 k1 : Bx w K1 zF 59
 fr : Fr b w0 w
 hb : b < w0.heap.size
 h0 : w0.heap.size ≤ K0
 h1 : K0 < K1
variable {K0 K1 : Nat} {w0 : World}
theorem S2.step (h : S2 w0 w b K0 K1) (hf : Fr b w w1) : S2 w0 w1 b K0 K1 := by
 have := h.hb; have := h.h0; have := h.h1
 exact ⟨h.k0.fr hf (by omega), h.k1.fr hf (by omega), h.fr.trans hf, h.hb, h.h0, h.h1⟩
theorem S2.lt (h : S2 w0 w b K0 K1) : b < w.heap.size := by have := h.hb; have := h.fr.size; omega
theorem S2.later (h : S2 w0 w b K0 K1) (hb : Below w.heap.size w w1) : S2 w0 w1 b K0 K1 := h.step (Fr.of hb h.lt)
theorem S2.drew (h : S2 w0 w b K0 K1) (n : Nat) : S2 w0 (w.drewN n) b K0 K1 := h.later (below_drewN (Below.refl _ _) n)
theorem S2.new (w : World) (hb : b < w.heap.size) : S2 w ((w.alloc (.cells zT 24)).alloc (.cells zF 59)) b w.heap.size (w.heap.size + 1) := by
 have b1 := below_alloc w (.cells zT 24)
 have b2 := below_alloc (w.alloc (.cells zT 24)) (.cells zF 59)
 have e1 : (w.alloc (.cells zT 24)).heap.size = w.heap.size + 1 := by simp
 have x1 := Bx.new (w.alloc (.cells zT 24)) zF 59
 rw [e1] at x1
 exact ⟨(Bx.new w zT 24).later b2, x1, Fr.of (b1.trans (b2.mono (by rw [e1]; omega))) hb, hb, Nat.le_refl _, by omega⟩
def S2C (w : World) (K0 K1 : Nat) : Prop := w.cell? ⟨K0, 0, none⟩ = some (.int .i64 0) ∧ w.cell? ⟨K0, 1, none⟩ = some (.string ⟨#[]⟩) ∧ w.cell? ⟨K0, 2, none⟩ = some (.string ⟨#[]⟩) ∧ w.cell? ⟨K0, 3, none⟩ = some (.slice none 0 0) ∧ w.cell? ⟨K1, 0, none⟩ = some (.int .i64 0) ∧ w.cell? ⟨K1, 1, none⟩ = some (.int .i64 0) ∧
 w.frozen? ⟨K0, 0, none⟩ = false ∧ w.frozen? ⟨K0, 1, none⟩ = false ∧ w.frozen? ⟨K0, 2, none⟩ = false ∧ w.frozen? ⟨K0, 3, none⟩ = false ∧ w.frozen? ⟨K1, 0, none⟩ = false ∧ w.frozen? ⟨K1, 1, none⟩ = false
theorem S2.c (h : S2 w0 w b K0 K1) : S2C w K0 K1 := ⟨h.k0.cell 0, h.k0.cell 1, h.k0.cell 2, h.k0.cell 3, h.k1.cell 0, h.k1.cell 1, h.k0.fz 0, h.k0.fz 1, h.k0.fz 2, h.k0.fz 3, h.k1.fz 0, h.k1.fz 1⟩
theorem Rd.drew1 (h : Rd w b s p dp) : Rd w.drew b s p dp := h
theorem Rd.two (h : Rd w b s p dp) : Rd ((w.alloc (.cells zT 24)).alloc (.cells zF 59)) b s p dp := (h.later (below_alloc _ _)).later (below_alloc _ _)
def fill6 (w : World) (K0 K1 : Nat) (x0 x1 x2 x3 y0 y1 : Value) : World := ((fill4 w K0 x0 x1 x2 x3).setCell ⟨K1, 0, none⟩ y0).setCell ⟨K1, 1, none⟩ y1
theorem S2.out (h : S2 w0 w b K0 K1) (x0 x1 x2 x3 y0 y1 : Value) : Fr b w0 (fill6 w K0 K1 x0 x1 x2 x3 y0 y1) ∧ Bx (fill6 w K0 K1 x0 x1 x2 x3 y0 y1) K0 #[x0, x1, x2, x3] 24 ∧ Bx (fill6 w K0 K1 x0 x1 x2 x3 y0 y1) K1 #[y0, y1] 59 := by
 have := h.hb; have := h.h0; have := h.h1
 exact ⟨((h.fr.fill4 h.h0 (by omega) x0 x1 x2 x3).new (by omega) (by omega) _ _).new (by omega) (by omega) _ _, ((h.k0.fill4 rfl x0 x1 x2 x3).other (by omega) _ _).other (by omega) _ _, ((h.k1.fill4o (by omega) x0 x1 x2 x3).set 0 y0).set 1 y1⟩
theorem S2.rd (h : S2 w0 w b K0 K1) (hr : Rd w b s p dp) (x0 x1 x2 x3 y0 y1 : Value) : Rd (fill6 w K0 K1 x0 x1 x2 x3 y0 y1) b s p dp := by
 have := h.hb; have := h.h0; have := h.h1
 exact ((hr.fill4 (by omega) x0 x1 x2 x3).other (by omega) _ _).other (by omega) _ _
def SclRes (b : Nat) (s : Ln) (dp : Nat) (w : World) (r : Ot ((Tr × Ln) × Ln)) (e : Ending) (w' : World) : Prop := match r with
 | .ok x => e = .returned (.tuple #[lfV x.1.1.kind x.1.1.text [], .string (mk x.1.2), f0]) ∧ (∃ q, q ≤ s.length ∧ x.2 = s.drop q ∧ Rd w' b s q dp) ∧ Fr b w w'
 | .error f => ∃ k : Int, (k = 1 ∨ k = 4) ∧ e = .returned (.tuple #[lfV k [] [], .string (mk []), fv s.length f]) ∧ Fr b w w'
theorem scalar_any (f : Bool) (h : Rd w b s p dp) (hp : p ≤ s.length) (hs : s.length ≤ 65536) (hT : TbB b w) :
  Calls Tryz.prog 88 #[.pointer (some ⟨b, 0, none⟩), .bool f] w fun e w' => SclRes b s dp w (lscl f (s.drop p)) e w' := by
 have hS := S2.new w h.lt
 have hr := h.two
 have hT0 := hT.fr hS.fr
 obtain ⟨W, hW⟩ : ∃ W, (w.alloc (.cells zT 24)).alloc (.cells zF 59) = W := ⟨_, rfl⟩
 rw [hW] at hS hr hT0
 have HSE : Hid (∀ (c : UInt8) k, c = 39 ∨ c = 34 → Calls Tryz.prog 81 #[.pointer (some ⟨b, 0, none⟩), .string ⟨#[c]⟩] (W.drewN k) fun e w' => e = .returned (.bool (decide (hd (gaps (s.drop p)) = c))) ∧ ∃ n, w' = (W.drewN k).drewN n) := fun c k hc => by
  have := sees_any [c] (hr.drew k) hp hs (by simp)
  rw [see_hd s p (by rcases hc with rfl | rfl <;> decide)] at this
  exact this
 go_enter Tryz.func88, Tryz.ntmps88
 go_wp2_with fail
 change Calls _ _ _ ((w.alloc (.cells zT 24)).alloc (.cells zF 59)) _
 rw [hW]
 generalize hK1 : w.heap.size + 1 = K1 at hS ⊢
 generalize hK0 : w.heap.size = K0 at hS ⊢
 have HQU : Hid (∀ k, Calls Tryz.prog 108 #[.pointer (some ⟨b, 0, none⟩)] (W.drewN k) fun e w' => NamRes b s dp (W.drewN k) (quoted (gaps (s.drop p))) e w') := fun k => quoted_any (hr.drew k) hp hs (hT0.later (below_drewN (Below.refl _ _) k))
 have HUN : Hid (∀ k, Calls Tryz.prog 109 #[.pointer (some ⟨b, 0, none⟩), .bool f] (W.drewN k) fun e w' => NamRes b s dp (W.drewN k) (lplain f (s.drop p)) e w') := fun k => unquoted_any f (hr.drew k) hp hs
 have HPL : Hid (∀ x, lplain f (s.drop p) = .ok x → x.1.length ≤ (gaps (s.drop p)).length) := fun x hx => by
  unfold lplain at hx
  by_cases c1 : cutT (gaps (s.drop p)) f = []
  ·rw [if_pos c1] at hx; cases hx; exact Nat.zero_le _
  ·rw [if_neg c1] at hx
   obtain ⟨_, hx⟩ := ite_inv hx
   cases hx
   have h2 := cutT_len (gaps (s.drop p)) f
   have h3 := fin_le (gaps (s.drop p)) f
   show (cutT (gaps (s.drop p)) f).length ≤ _
   omega
 clear hK0 hK1 hW h hT
 by_cases c0 : hd (gaps (s.drop p)) = 39 ∨ hd (gaps (s.drop p)) = 34
 ·have HL : Hid (lscl f (s.drop p) = bnd (quoted (gaps (s.drop p))) fun x => .ok ((⟨4, x.1, [], []⟩, x.1), x.2)) := by unfold lscl; rw [if_pos c0]; exact rfl
  refine (HSE.out 39 0 (.inl rfl)).mono ?_
  rintro e w1 ⟨rfl, n1, rfl⟩
  by_cases c1 : hd (gaps (s.drop p)) = 39
  case' pos => rw [decide_eq_true c1]
  case' neg =>
   have c2 := c0.resolve_left c1
   rw [decide_eq_false c1]
   go_wp2_with fail
   refine (HSE.out 34 _ (.inr rfl)).mono ?_
   rintro e w1 ⟨rfl, n2, rfl⟩
   rw [decide_eq_true c2, World.drewN_drewN]
   generalize n1 + n2 = n1
  all_goals
   go_wp2_with fail
   refine (HQU.out _).mono ?_
   intro e w3 hres
   generalize hq : quoted (gaps (s.drop p)) = r at hres HL
   cases r with
   | error F =>
    obtain ⟨rfl, hf3⟩ := hres
    unfold fv
    have HS3 : Hid (S2 w w3 b K0 K1) := (hS.drew _).step hf3
    clear hf3
    go_wp2
    have hKF0 : K0 < w3.heap.size := HS3.out.k0.lt
    have hKF1 : K1 < w3.heap.size := HS3.out.k1.lt
    have hkf1 : w3.heap.size ≠ K0 := by omega
    have hkf2 : K0 ≠ w3.heap.size := by omega
    have hkf3 : w3.heap.size ≠ K1 := by omega
    have hkf4 : K1 ≠ w3.heap.size := by omega
    obtain ⟨w4, hw4⟩ : ∃ w4, w3.alloc (.cells #[.int .i64 (F.1 : Int), .int .i64 ((s.length - F.2 : Nat) : Int)] 59) = w4 := ⟨_, rfl⟩
    have hbw4 : Below w3.heap.size w3 w4 := by rw [← hw4]; exact below_alloc _ _
    have hxw4 : Bx w4 w3.heap.size #[.int .i64 (F.1 : Int), .int .i64 ((s.length - F.2 : Nat) : Int)] 59 := by rw [← hw4]; exact Bx.new _ _ _
    have f0_w4 : w4.cell? ⟨w3.heap.size, 0, none⟩ = some (.int .i64 (F.1 : Int)) := hxw4.cell 0
    have f1_w4 : w4.cell? ⟨w3.heap.size, 1, none⟩ = some (.int .i64 ((s.length - F.2 : Nat) : Int)) := hxw4.cell 1
    rw [hw4]
    clear hw4
    have HS4 : Hid (S2 w w4 b K0 K1) := HS3.out.later hbw4
    clear HS3 hbw4 hxw4
    obtain ⟨X0, X1, X2, X3, Y0, Y1, Z0, Z1, Z2, Z3, V0, V1⟩ := HS4.out.c
    have hd10 : K1 ≠ K0 := by have := HS4.out.h1; omega
    have hd01 : K0 ≠ K1 := by omega
    go_region
    all_goals
     go_wp2
     have hO := HS4.out.out (.int .i64 4) (.string (mk [])) (.string ⟨#[]⟩) (.slice none 0 0) (.int .i64 (F.1 : Int)) (.int .i64 ((s.length - F.2 : Nat) : Int))
     change bodyPost _ _ _ _ _ (fill6 w4 K0 K1 (.int .i64 4) (.string (mk [])) (.string ⟨#[]⟩) (.slice none 0 0) (.int .i64 (F.1 : Int)) (.int .i64 ((s.length - F.2 : Nat) : Int))).drew
     generalize fill6 w4 K0 K1 (.int .i64 4) (.string (mk [])) (.string ⟨#[]⟩) (.slice none 0 0) (.int .i64 (F.1 : Int)) (.int .i64 ((s.length - F.2 : Nat) : Int)) = WF at hO ⊢
     obtain ⟨o2, o3, o4⟩ := hO
     have j0 : WF.drew.cell? ⟨K0, 0, none⟩ = _ := o3.cell 0
     have j1 : WF.drew.cell? ⟨K0, 1, none⟩ = _ := o3.cell 1
     have j2 : WF.drew.cell? ⟨K0, 2, none⟩ = _ := o3.cell 2
     have j3 : WF.drew.cell? ⟨K0, 3, none⟩ = _ := o3.cell 3
     have j4 : WF.drew.cell? ⟨K1, 0, none⟩ = _ := o4.cell 0
     have j5 : WF.drew.cell? ⟨K1, 1, none⟩ = _ := o4.cell 1
     replace o2 := o2.drew
     refine bodyPost_ret (v := .tuple #[.agg #[.int .i64 4, .string (mk []), .string ⟨#[]⟩, .slice none 0 0], .string (mk []), .agg #[.int .i64 (F.1 : Int), .int .i64 ((s.length - F.2 : Nat) : Int)]]) (by simp [results, Tryz.results88, go_sem, j0, j1, j2, j3, j4, j5]) rfl ?_
     rw [HL.out]
     exact ⟨4, .inr rfl, rfl, o2⟩
   | ok x =>
    obtain ⟨rfl, ⟨q, hq2, hx2, hr3⟩, hf3⟩ := hres
    unfold f0
    have HS3 : Hid (S2 w w3 b K0 K1) := (hS.drew _).step hf3
    have HX2 : Hid (x.2 = s.drop q) := hx2
    have HR3 : Hid (Rd w3 b s q dp) := hr3
    clear hf3 hx2 hr3
    go_wp2
    have hKF0 : K0 < w3.heap.size := HS3.out.k0.lt
    have hKF1 : K1 < w3.heap.size := HS3.out.k1.lt
    have hkf1 : w3.heap.size ≠ K0 := by omega
    have hkf2 : K0 ≠ w3.heap.size := by omega
    have hkf3 : w3.heap.size ≠ K1 := by omega
    have hkf4 : K1 ≠ w3.heap.size := by omega
    obtain ⟨w4, hw4⟩ : ∃ w4, w3.alloc (.cells #[.int .i64 0, .int .i64 0] 59) = w4 := ⟨_, rfl⟩
    have hbw4 : Below w3.heap.size w3 w4 := by rw [← hw4]; exact below_alloc _ _
    have hxw4 : Bx w4 w3.heap.size #[.int .i64 0, .int .i64 0] 59 := by rw [← hw4]; exact Bx.new _ _ _
    have f0_w4 : w4.cell? ⟨w3.heap.size, 0, none⟩ = some (.int .i64 0) := hxw4.cell 0
    have f1_w4 : w4.cell? ⟨w3.heap.size, 1, none⟩ = some (.int .i64 0) := hxw4.cell 1
    rw [hw4]
    clear hw4
    have HS4 : Hid (S2 w w4 b K0 K1) := HS3.out.later hbw4
    have HR4 : Hid (Rd w4 b s q dp) := HR3.out.later hbw4
    clear HS3 hbw4 hxw4 HR3
    obtain ⟨X0, X1, X2, X3, Y0, Y1, Z0, Z1, Z2, Z3, V0, V1⟩ := HS4.out.c
    have hd10 : K1 ≠ K0 := by have := HS4.out.h1; omega
    have hd01 : K0 ≠ K1 := by omega
    go_region
    all_goals
     go_wp2
     have hO := HS4.out.out (.int .i64 4) (.string (mk x.1)) (.string ⟨#[]⟩) (.slice none 0 0) (.int .i64 0) (.int .i64 0)
     have hrd := HS4.out.rd HR4.out (.int .i64 4) (.string (mk x.1)) (.string ⟨#[]⟩) (.slice none 0 0) (.int .i64 0) (.int .i64 0)
     change bodyPost _ _ _ _ _ (fill6 w4 K0 K1 (.int .i64 4) (.string (mk x.1)) (.string ⟨#[]⟩) (.slice none 0 0) (.int .i64 0) (.int .i64 0)).drew
     generalize fill6 w4 K0 K1 (.int .i64 4) (.string (mk x.1)) (.string ⟨#[]⟩) (.slice none 0 0) (.int .i64 0) (.int .i64 0) = WF at hO hrd ⊢
     obtain ⟨o2, o3, o4⟩ := hO
     have j0 : WF.drew.cell? ⟨K0, 0, none⟩ = _ := o3.cell 0
     have j1 : WF.drew.cell? ⟨K0, 1, none⟩ = _ := o3.cell 1
     have j2 : WF.drew.cell? ⟨K0, 2, none⟩ = _ := o3.cell 2
     have j3 : WF.drew.cell? ⟨K0, 3, none⟩ = _ := o3.cell 3
     have j4 : WF.drew.cell? ⟨K1, 0, none⟩ = _ := o4.cell 0
     have j5 : WF.drew.cell? ⟨K1, 1, none⟩ = _ := o4.cell 1
     replace hrd := hrd.drew1
     replace o2 := o2.drew
     refine bodyPost_ret (v := .tuple #[.agg #[.int .i64 4, .string (mk x.1), .string ⟨#[]⟩, .slice none 0 0], .string (mk x.1), .agg #[.int .i64 0, .int .i64 0]]) (by simp [results, Tryz.results88, go_sem, j0, j1, j2, j3, j4, j5]) rfl ?_
     rw [HL.out]
     exact ⟨rfl, ⟨q, hq2, HX2.out, hrd⟩, o2⟩
 ·have c1 : ¬hd (gaps (s.drop p)) = 39 := fun h => c0 (.inl h)
  have c2 : ¬hd (gaps (s.drop p)) = 34 := fun h => c0 (.inr h)
  have HL : Hid (lscl f (s.drop p) = bnd (lplain f (s.drop p)) fun x => .ok ((leaf (knd x.1) x.1 [], x.1), x.2)) := by unfold lscl; rw [if_neg (fun h => h.elim c1 c2)]; exact rfl
  refine (HSE.out 39 0 (.inl rfl)).mono ?_
  rintro e w1 ⟨rfl, n1, rfl⟩
  rw [decide_eq_false c1]
  go_wp2_with fail
  refine (HSE.out 34 _ (.inr rfl)).mono ?_
  rintro e w1 ⟨rfl, n2, rfl⟩
  rw [decide_eq_false c2, World.drewN_drewN]
  generalize n1 + n2 = n1
  go_wp2_with fail
  refine (HUN.out _).mono ?_
  intro e w3 hres
  generalize hq : lplain f (s.drop p) = r at hres HL
  cases r with
  | error F =>
   obtain ⟨rfl, hf3⟩ := hres
   unfold fv
   have HS3 : Hid (S2 w w3 b K0 K1) := (hS.drew _).step hf3
   have HTB : Hid (TbB b w3) := (hT0.later (below_drewN (Below.refl _ _) _)).fr hf3
   clear hf3
   go_wp2
   have hKF0 : K0 < w3.heap.size := HS3.out.k0.lt
   have hKF1 : K1 < w3.heap.size := HS3.out.k1.lt
   have hkf1 : w3.heap.size ≠ K0 := by omega
   have hkf2 : K0 ≠ w3.heap.size := by omega
   have hkf3 : w3.heap.size ≠ K1 := by omega
   have hkf4 : K1 ≠ w3.heap.size := by omega
   obtain ⟨w4, hw4⟩ : ∃ w4, w3.alloc (.cells #[.int .i64 (F.1 : Int), .int .i64 ((s.length - F.2 : Nat) : Int)] 59) = w4 := ⟨_, rfl⟩
   have hbw4 : Below w3.heap.size w3 w4 := by rw [← hw4]; exact below_alloc _ _
   have hxw4 : Bx w4 w3.heap.size #[.int .i64 (F.1 : Int), .int .i64 ((s.length - F.2 : Nat) : Int)] 59 := by rw [← hw4]; exact Bx.new _ _ _
   have f0_w4 : w4.cell? ⟨w3.heap.size, 0, none⟩ = some (.int .i64 (F.1 : Int)) := hxw4.cell 0
   have f1_w4 : w4.cell? ⟨w3.heap.size, 1, none⟩ = some (.int .i64 ((s.length - F.2 : Nat) : Int)) := hxw4.cell 1
   rw [hw4]
   clear hw4
   have HPT : Hid (∀ n, Calls Tryz.prog 110 #[.string (mk [])] (w4.drewN n) fun e w' => e = .returned (.agg #[.int .i64 1, .string ⟨#[]⟩, .string ⟨#[]⟩, .slice none 0 0]) ∧ w'.cell? ⟨w3.heap.size, 0, none⟩ = some (.int .i64 (F.1 : Int)) ∧ w'.cell? ⟨w3.heap.size, 1, none⟩ = some (.int .i64 ((s.length - F.2 : Nat) : Int)) ∧ S2C w' K0 K1 ∧ Hid (S2 w w' b K0 K1)) := fun n =>
    (plainTree_any [] (by simp) ((HTB.out.later hbw4).later (below_drewN (Below.refl _ _) n)).tb).mono (fun e w' h => ⟨h.1, ((hxw4.drew n).later h.2).cell 0, ((hxw4.drew n).later h.2).cell 1, (((HS3.out.later hbw4).drew n).later h.2).c, ((HS3.out.later hbw4).drew n).later h.2⟩)
   have hd10 : K1 ≠ K0 := by have := HS3.out.h1; omega
   have hd01 : K0 ≠ K1 := by omega
   clear HS3 hbw4 hxw4
   go_region_with (go_at_call 110; (first | refine (HPT.out 0).mono ?_ | refine (HPT.out 1).mono ?_ | refine (HPT.out 2).mono ?_); rintro e w5 ⟨rfl, i0, i1, ⟨X0, X1, X2, X3, Y0, Y1, Z0, Z1, Z2, Z3, V0, V1⟩, HS5⟩)
   all_goals
    go_wp2
    have hO := HS5.out.out (.int .i64 1) (.string ⟨#[]⟩) (.string ⟨#[]⟩) (.slice none 0 0) (.int .i64 (F.1 : Int)) (.int .i64 ((s.length - F.2 : Nat) : Int))
    change bodyPost _ _ _ _ _ (fill6 w5 K0 K1 (.int .i64 1) (.string ⟨#[]⟩) (.string ⟨#[]⟩) (.slice none 0 0) (.int .i64 (F.1 : Int)) (.int .i64 ((s.length - F.2 : Nat) : Int)))
    generalize fill6 w5 K0 K1 (.int .i64 1) (.string ⟨#[]⟩) (.string ⟨#[]⟩) (.slice none 0 0) (.int .i64 (F.1 : Int)) (.int .i64 ((s.length - F.2 : Nat) : Int)) = WF at hO ⊢
    obtain ⟨o2, o3, o4⟩ := hO
    have j0 : WF.cell? ⟨K0, 0, none⟩ = _ := o3.cell 0
    have j1 : WF.cell? ⟨K0, 1, none⟩ = _ := o3.cell 1
    have j2 : WF.cell? ⟨K0, 2, none⟩ = _ := o3.cell 2
    have j3 : WF.cell? ⟨K0, 3, none⟩ = _ := o3.cell 3
    have j4 : WF.cell? ⟨K1, 0, none⟩ = _ := o4.cell 0
    have j5 : WF.cell? ⟨K1, 1, none⟩ = _ := o4.cell 1
    refine bodyPost_ret (v := .tuple #[.agg #[.int .i64 1, .string ⟨#[]⟩, .string ⟨#[]⟩, .slice none 0 0], .string (mk []), .agg #[.int .i64 (F.1 : Int), .int .i64 ((s.length - F.2 : Nat) : Int)]]) (by simp [results, Tryz.results88, go_sem, j0, j1, j2, j3, j4, j5]) rfl ?_
    rw [HL.out]
    exact ⟨1, .inl rfl, rfl, o2⟩
  | ok x =>
   obtain ⟨rfl, ⟨q, hq2, hx2, hr3⟩, hf3⟩ := hres
   unfold f0
   have HS3 : Hid (S2 w w3 b K0 K1) := (hS.drew _).step hf3
   have HTB : Hid (TbB b w3) := (hT0.later (below_drewN (Below.refl _ _) _)).fr hf3
   have HX2 : Hid (x.2 = s.drop q) := hx2
   have HR3 : Hid (Rd w3 b s q dp) := hr3
   have hxl : x.1.length ≤ 65536 := by
    have h1 := HPL.out x hq
    have h2 := gaps_nx s hp
    omega
   clear hf3 hx2 hr3
   go_wp2
   have hKF0 : K0 < w3.heap.size := HS3.out.k0.lt
   have hKF1 : K1 < w3.heap.size := HS3.out.k1.lt
   have hkf1 : w3.heap.size ≠ K0 := by omega
   have hkf2 : K0 ≠ w3.heap.size := by omega
   have hkf3 : w3.heap.size ≠ K1 := by omega
   have hkf4 : K1 ≠ w3.heap.size := by omega
   obtain ⟨w4, hw4⟩ : ∃ w4, w3.alloc (.cells #[.int .i64 0, .int .i64 0] 59) = w4 := ⟨_, rfl⟩
   have hbw4 : Below w3.heap.size w3 w4 := by rw [← hw4]; exact below_alloc _ _
   have hxw4 : Bx w4 w3.heap.size #[.int .i64 0, .int .i64 0] 59 := by rw [← hw4]; exact Bx.new _ _ _
   have f0_w4 : w4.cell? ⟨w3.heap.size, 0, none⟩ = some (.int .i64 0) := hxw4.cell 0
   have f1_w4 : w4.cell? ⟨w3.heap.size, 1, none⟩ = some (.int .i64 0) := hxw4.cell 1
   rw [hw4]
   clear hw4
   have HPT : Hid (∀ n, Calls Tryz.prog 110 #[.string (mk x.1)] (w4.drewN n) fun e w' => e = .returned (.agg #[.int .i64 (knd x.1), .string (mk (if knd x.1 = 1 then [] else x.1)), .string (mk []), .slice none 0 0]) ∧ w'.cell? ⟨w3.heap.size, 0, none⟩ = some (.int .i64 0) ∧ w'.cell? ⟨w3.heap.size, 1, none⟩ = some (.int .i64 0) ∧ S2C w' K0 K1 ∧ Hid (S2 w w' b K0 K1) ∧ Hid (Rd w' b s q dp)) := fun n =>
    (plainTree_any x.1 hxl ((HTB.out.later hbw4).later (below_drewN (Below.refl _ _) n)).tb).mono (fun e w' h => ⟨h.1, ((hxw4.drew n).later h.2).cell 0, ((hxw4.drew n).later h.2).cell 1, (((HS3.out.later hbw4).drew n).later h.2).c, ((HS3.out.later hbw4).drew n).later h.2, ((HR3.out.later hbw4).drew n).later h.2⟩)
   have HLF : Hid (leaf (knd x.1) x.1 [] = ⟨knd x.1, if knd x.1 = 1 then [] else x.1, [], []⟩) := rfl
   generalize (if knd x.1 = 1 then [] else x.1) = tx at *
   generalize hkx : knd x.1 = kx at HPT HLF
   have HKX : Hid (knd x.1 = kx) := hkx
   clear hkx
   have hd10 : K1 ≠ K0 := by have := HS3.out.h1; omega
   have hd01 : K0 ≠ K1 := by omega
   clear HS3 hbw4 hxw4 HR3
   go_region_with (go_at_call 110; (first | refine (HPT.out 0).mono ?_ | refine (HPT.out 1).mono ?_ | refine (HPT.out 2).mono ?_); rintro e w5 ⟨rfl, i0, i1, ⟨X0, X1, X2, X3, Y0, Y1, Z0, Z1, Z2, Z3, V0, V1⟩, HS5, HR5⟩)
   all_goals
    go_wp2
    have hO := HS5.out.out (.int .i64 kx) (.string (mk tx)) (.string (mk [])) (.slice none 0 0) (.int .i64 0) (.int .i64 0)
    have hrd := HS5.out.rd HR5.out (.int .i64 kx) (.string (mk tx)) (.string (mk [])) (.slice none 0 0) (.int .i64 0) (.int .i64 0)
    change bodyPost _ _ _ _ _ (fill6 w5 K0 K1 (.int .i64 kx) (.string (mk tx)) (.string (mk [])) (.slice none 0 0) (.int .i64 0) (.int .i64 0))
    generalize fill6 w5 K0 K1 (.int .i64 kx) (.string (mk tx)) (.string (mk [])) (.slice none 0 0) (.int .i64 0) (.int .i64 0) = WF at hO hrd ⊢
    obtain ⟨o2, o3, o4⟩ := hO
    have j0 : WF.cell? ⟨K0, 0, none⟩ = _ := o3.cell 0
    have j1 : WF.cell? ⟨K0, 1, none⟩ = _ := o3.cell 1
    have j2 : WF.cell? ⟨K0, 2, none⟩ = _ := o3.cell 2
    have j3 : WF.cell? ⟨K0, 3, none⟩ = _ := o3.cell 3
    have j4 : WF.cell? ⟨K1, 0, none⟩ = _ := o4.cell 0
    have j5 : WF.cell? ⟨K1, 1, none⟩ = _ := o4.cell 1
    refine bodyPost_ret (v := .tuple #[.agg #[.int .i64 kx, .string (mk tx), .string (mk []), .slice none 0 0], .string (mk x.1), .agg #[.int .i64 0, .int .i64 0]]) (by simp [results, Tryz.results88, go_sem, j0, j1, j2, j3, j4, j5]) rfl ?_
    rw [HL.out, bnd_ok]
    rw [HKX.out, HLF.out]
    exact ⟨rfl, ⟨q, hq2, HX2.out, hrd⟩, o2⟩
end Go.Proofs.YtfohbiohleekbaaGreatDoor.Flw
end
