/- Several texts as one: FlowOn, FlowOn2. -/
import Derived.Test.YtfohbiohleekbaaGreatDoorQFbN
import Derived.BigQuiet
import Derived.Deep.QuietTactic
section
/- . -/
namespace Go.Proofs.YtfohbiohleekbaaGreatDoor.Flw
open Utf Rws Pln
open Go.RowKit
set_option linter.unusedSimpArgs false
set_option linter.unusedVariables false
set_option maxRecDepth 100000
set_option maxHeartbeats 4000000
variable {b p dp : Nat} {s : Ln} {w w1 w2 : World}
structure QW (W : World) where
 w : World
 h : Below W.heap.size W w
theorem wp_region_class {P : Program} {id : Nat} {Q : Exit → Act → World → Prop} {a : Act} {w : World} {l : List Oper} (hm : P.follows .mixedOrders = true) (hB : Region.lexB .any l.toArray = true)
  (h : wpQuiet P l.toArray (fun w' => ∃ q : QW w, w' = q.w) (fun a' => ∀ w', (∃ q : QW w, w' = q.w) → Q .normal a' w') l a) : (Code.region id l.toArray true).wp P Q a w :=
 wp_region_quiet (C := fun w' => ∃ q : QW w, w' = q.w) hm hB ⟨⟨w.drew, (Below.refl _ w).drew⟩, rfl⟩ (by simpa using h)
theorem calls_class {P : Program} {f : FuncId} {args : Array Value} {W : World} {v : Value} (q : QW W) (h : Calls P f args q.w fun e w' => e = .returned v ∧ Below q.w.heap.size q.w w') : Calls P f args q.w fun e w' => e = .returned v ∧ ∃ q' : QW W, w' = q'.w :=
 h.mono fun _ w' ⟨he, hb⟩ => ⟨he, ⟨w', q.h.trans (hb.mono q.h.size)⟩, rfl⟩
theorem isList_any (k : Int) (x a : ByteArray) (ad : Option Addr) (len cap : Nat) (w : World) :
  Calls Tryz.prog 71 #[.agg #[.int .i64 k, .string x, .string a, .slice ad len cap]] w fun e w' => e = .returned (.bool (decide (k = 5) || decide (k = 6))) ∧ Below w.heap.size w w' := by
 by_cases h5 : k = 5
 ·subst h5
  go_enter Tryz.func71, Tryz.ntmps71
  go_wp2
  go_ret
  exact ⟨rfl, below_alloc _ _⟩
 by_cases h6 : k = 6
 ·subst h6
  go_enter Tryz.func71, Tryz.ntmps71
  go_wp2
  go_ret
  exact ⟨rfl, below_alloc _ _⟩
 ·have e5 : (k == 5) = false := by simpa using h5
  have e6 : (k == 6) = false := by simpa using h6
  go_enter Tryz.func71, Tryz.ntmps71
  go_wp2
  go_ret
  exact ⟨by simp [h5, h6], below_alloc _ _⟩
theorem takesColon_eq (s : Ln) (p : Nat) : (decide (fin (gaps (s.drop p)) true = 0) && see s p [58]) = colon (gaps (s.drop p)) := by
 rw [see_hd s p (by decide)]
 generalize gaps (s.drop p) = g
 cases g with
 | nil => rfl
 | cons c r =>
  unfold colon
  show _ = (c == 58 && _)
  by_cases h : c = 58
  ·subst h
   have hen : en (58 :: r) true 0 = (decide ((58 :: r : Ln).length ≤ 1) || hd ((58 :: r : Ln).drop 1) == 32 || fl (hd ((58 :: r : Ln).drop 1))) := by
    cases r with
    | nil => rfl
    | cons d r =>
     unfold en
     simp [hd]
   have hf : decide (fin (58 :: r) true = 0) = en (58 :: r) true 0 := by
    cases h1 : en (58 :: r) true 0 with
    | true =>
     rw [decide_eq_true]
     exact fin_uniq _ _ 0 (Nat.zero_le _) (fun j hj => absurd hj (Nat.not_lt_zero j)) (.inr h1)
    | false =>
     rw [decide_eq_false]
     intro e
     have := fin_at (58 :: r) true (by rw [e]; simp)
     rw [e, h1] at this
     cases this
   rw [hf, hen]
   simp [hd]
  ·have h1 : (c == 58) = false := by simpa using h
   have h2 : decide (hd (c :: r) = 58) = false := by rw [decide_eq_false]; exact h
   rw [h1, h2]
   simp
def ColRes (b : Nat) (s : Ln) (p dp : Nat) (w : World) (c : Bool) (e : Ending) (w' : World) : Prop := e = .returned (.bool c) ∧ Fr b w w' ∧ Rd w' b s (if c = true then nx s p + 1 else p) dp
theorem takesColon_any (h : Rd w b s p dp) (hp : p ≤ s.length) (hs : s.length ≤ 65536) :
  Calls Tryz.prog 107 #[.pointer (some ⟨b, 0, none⟩)] w fun e w' => ColRes b s p dp w (colon (gaps (s.drop p))) e w' := by
 have hlt := h.lt
 have hsz := mk_size s
 have hn := nx_le s p
 have hex : (mk s).extract (nx s p) s.length = mk (gaps (s.drop p)) := by rw [mk_ext, drop_nx s hp, List.take_of_length_le (by rw [gaps_nx s hp]; omega)]
 have hgl := gaps_nx s hp
 have c0 := h.c0
 have HC := takesColon_eq s p
 have HN : Hid (∀ q : QW w, Calls Tryz.prog 49 #[.pointer (some ⟨b, 0, none⟩)] q.w fun e w' => e = .returned (.int .i64 (nx s p : Nat)) ∧ Below q.w.heap.size q.w w') := fun q => (next_any (h.later q.h) hp hs).mono (fun e w' h' => ⟨h'.1, by obtain ⟨n, rfl⟩ := h'.2; exact below_drewN (Below.refl _ _) n⟩)
 have HCU : Hid (∀ q : QW w, Calls Tryz.prog 119 #[.string (mk (gaps (s.drop p))), .bool true] q.w fun e w' => e = .returned (.tuple #[.string (mk (cutT (gaps (s.drop p)) true)), .int .i64 (fin (gaps (s.drop p)) true)]) ∧ Below q.w.heap.size q.w w') := fun q => cut_any _ true _ (by omega)
 have x0 : ∀ q : QW w, q.w.cell? ⟨b, 0, none⟩ = some (.string (mk s)) := fun q => (h.later q.h).c0
 have HQ : Hid (∀ q : QW w, Rd q.w b s p dp ∧ Fr b w q.w) := fun q => ⟨h.later q.h, Fr.of q.h hlt⟩
 have HTY : Hid (∀ q : QW w, see s p [58] = true → Calls Tryz.prog 64 #[.pointer (some ⟨b, 0, none⟩), .string ⟨#[58]⟩] q.w fun e w' => e = .returned (.bool true) ∧ Hid (Rd w' b s (nx s p + 1) dp ∧ Fr b w w')) := fun q hc => (takes_yes [58] (h.later q.h) hp hs (by decide) hc).mono (fun e w' h' => ⟨h'.1, h'.2.1, (Fr.of q.h hlt).trans h'.2.2⟩)
 have HTN : Hid (∀ q : QW w, see s p [58] = false → Calls Tryz.prog 64 #[.pointer (some ⟨b, 0, none⟩), .string ⟨#[58]⟩] q.w fun e w' => e = .returned (.bool false) ∧ Hid (Rd w' b s p dp ∧ Fr b w w')) := fun q hc => (takes_no [58] (h.later q.h) hp hs (by decide) hc).mono (fun e w' h' => ⟨h'.1, by obtain ⟨n, rfl⟩ := h'.2; exact ⟨(h.later q.h).drew n, Fr.of (below_drewN q.h n) hlt⟩⟩)
 have hNE : Nonempty (QW w) := ⟨⟨w, Below.refl _ _⟩⟩
 have HCO : Hid ((decide (fin (gaps (s.drop p)) true = 0) && see s p [58]) = colon (gaps (s.drop p))) := HC
 clear HC c0 h
 generalize colon (gaps (s.drop p)) = CL at *
 generalize fin (gaps (s.drop p)) true = FN at *
 generalize cutT (gaps (s.drop p)) true = CT at *
 generalize see s p [58] = SE at *
 generalize mk (gaps (s.drop p)) = X at *
 go_enter Tryz.func107, Tryz.ntmps107
 go_wp2_with fail
 refine wp_region_class (by kernel_rfl) (by kernel_rfl) ?_
 repeat (go_big_quiet_step (first
  | (go_at_call 49; refine calls_class _ (HN.out _))
  | (go_at_call 119; refine calls_class _ (HCU.out _))))
 refine wpQuiet_nil ?_
 intro _ hw'
 obtain ⟨q, hw''⟩ := hw'
 subst hw''
 clear x0 HN HCU
 by_cases e0 : FN = 0
 ·subst e0
  cases SE
  ·have hCL : CL = false := HCO.out.symm
   subst hCL
   go_wp2_with (go_at_call 64; refine (HTN.out q rfl).mono ?_; rintro e w5 ⟨rfl, h5⟩)
   go_ret
   exact ⟨rfl, h5.out.2, h5.out.1⟩
  ·have hCL : CL = true := HCO.out.symm
   subst hCL
   go_wp2_with (go_at_call 64; refine (HTY.out q rfl).mono ?_; rintro e w5 ⟨rfl, h5⟩)
   go_ret
   exact ⟨rfl, h5.out.2, h5.out.1⟩
 ·have hCL : CL = false := by have := HCO.out; rw [decide_eq_false e0] at this; exact this.symm
  subst hCL
  have hfe : ((FN : Int) == 0) = false := by rw [beq_eq_false_iff_ne]; omega
  go_wp2
  go_ret
  exact ⟨rfl, (HQ.out q).2, (HQ.out q).1⟩
def toldV (k : Int) (x a : ByteArray) (sl : Value) (l : Ln) (g : Int) : Value :=
 if k = 5 ∨ k = 6 then .agg #[.int .i64 k, .string x, .string a, sl] else if g = 4 then lfV 4 l [] else lfV (knd l) (if knd l = 1 then [] else l) []
theorem retold_any (k : Int) (x a : ByteArray) (ad : Option Addr) (len cap : Nat) (l : Ln) (g : Int) (hl : l.length ≤ 65536) (hT : Tb w) :
  Calls Tryz.prog 89 #[.agg #[.int .i64 k, .string x, .string a, .slice ad len cap], .string (mk l), .int .i64 g] w fun e w' => e = .returned (toldV k x a (.slice ad len cap) l g) ∧ Below w.heap.size w w' := by
 have b1 := below_alloc w (.cells #[.int .i64 k, .string x, .string a, .slice ad len cap] 24)
 have b2 := below_alloc (w.alloc (.cells #[.int .i64 k, .string x, .string a, .slice ad len cap] 24)) (.cells zT 24)
 have e1 : (w.alloc (.cells #[.int .i64 k, .string x, .string a, .slice ad len cap] 24)).heap.size = w.heap.size + 1 := by simp
 have x1 := Bx.new (w.alloc (.cells #[.int .i64 k, .string x, .string a, .slice ad len cap] 24)) zT 24
 rw [e1] at x1
 have x0 := (Bx.new w #[.int .i64 k, .string x, .string a, .slice ad len cap] 24).later b2
 have hB := b1.trans (b2.mono (by rw [e1]; omega))
 obtain ⟨W, hW⟩ : ∃ W, (w.alloc (.cells #[.int .i64 k, .string x, .string a, .slice ad len cap] 24)).alloc (.cells zT 24) = W := ⟨_, rfl⟩
 rw [hW] at x0 x1 hB
 have HIL : Hid (Calls Tryz.prog 71 #[.agg #[.int .i64 k, .string x, .string a, .slice ad len cap]] W fun e w' => e = .returned (.bool (decide (k = 5) || decide (k = 6))) ∧ Hid (Bx w' w.heap.size #[.int .i64 k, .string x, .string a, .slice ad len cap] 24 ∧ Bx w' (w.heap.size + 1) zT 24 ∧ Below w.heap.size w w')) := (isList_any k x a ad len cap W).mono (fun e w' h => ⟨h.1, x0.later h.2, x1.later h.2, hB.trans (h.2.mono hB.size)⟩)
 go_enter Tryz.func89, Tryz.ntmps89
 go_wp2_with fail
 change Calls _ _ _ ((w.alloc (.cells #[.int .i64 k, .string x, .string a, .slice ad len cap] 24)).alloc (.cells zT 24)) _
 rw [hW]
 have hK1w : w.heap.size ≤ w.heap.size + 1 := by omega
 clear b1 b2 e1 x0 x1 hB hW
 by_cases h5 : k = 5 ∨ k = 6
 ·have HV : Hid (toldV k x a (.slice ad len cap) l g = .agg #[.int .i64 k, .string x, .string a, .slice ad len cap]) := by unfold toldV; rw [if_pos h5]; exact rfl
  have hbl : (decide (k = 5) || decide (k = 6)) = true := by rcases h5 with h5 | h5 <;> simp [h5]
  rw [hbl] at HIL
  refine HIL.out.mono ?_
  rintro e w3 ⟨rfl, h3⟩
  generalize hK1 : w.heap.size + 1 = K1 at h3 hK1w ⊢
  generalize hK0 : w.heap.size = K0 at h3 ⊢
  have c0 : w3.cell? ⟨K0, 0, none⟩ = some (.int .i64 k) := h3.out.1.cell 0
  have c1 : w3.cell? ⟨K0, 1, none⟩ = some (.string x) := h3.out.1.cell 1
  have c2 : w3.cell? ⟨K0, 2, none⟩ = some (.string a) := h3.out.1.cell 2
  have c3 : w3.cell? ⟨K0, 3, none⟩ = some (.slice ad len cap) := h3.out.1.cell 3
  have H1 : Hid (Bx w3 K1 zT 24) := h3.out.2.1
  have HB3 : Hid (Below w.heap.size w w3) := by rw [hK0]; exact h3.out.2.2
  clear h3
  replace hK1w : Hid (w.heap.size ≤ K1) := hK1w
  clear hK0 hK1
  have X0 : w3.cell? ⟨K1, 0, none⟩ = some (.int .i64 0) := H1.out.cell 0
  have X1 : w3.cell? ⟨K1, 1, none⟩ = some (.string ⟨#[]⟩) := H1.out.cell 1
  have X2 : w3.cell? ⟨K1, 2, none⟩ = some (.string ⟨#[]⟩) := H1.out.cell 2
  have X3 : w3.cell? ⟨K1, 3, none⟩ = some (.slice none 0 0) := H1.out.cell 3
  have Z0 := H1.out.fz 0
  have Z1 := H1.out.fz 1
  have Z2 := H1.out.fz 2
  have Z3 := H1.out.fz 3
  go_wp2
  replace hK1w := hK1w.out
  have hO := H1.out.fill4 rfl (.int .i64 k) (.string x) (.string a) (.slice ad len cap)
  have hOB := below_fill4 HB3.out hK1w (.int .i64 k) (.string x) (.string a) (.slice ad len cap)
  change bodyPost _ _ _ _ _ (fill4 w3 K1 (.int .i64 k) (.string x) (.string a) (.slice ad len cap))
  generalize fill4 w3 K1 (.int .i64 k) (.string x) (.string a) (.slice ad len cap) = WF at hO hOB ⊢
  have j0 := hO.cell 0
  have j1 := hO.cell 1
  have j2 := hO.cell 2
  have j3 := hO.cell 3
  refine bodyPost_ret (v := .agg #[.int .i64 k, .string x, .string a, .slice ad len cap]) (by simp [results, Tryz.results89, go_sem, j0, j1, j2, j3]) rfl ?_
  exact ⟨by rw [HV.out], hOB⟩
 ·have hbl : (decide (k = 5) || decide (k = 6)) = false := by simpa [not_or] using h5
  rw [hbl] at HIL
  by_cases h4 : g = 4
  ·have HV : Hid (toldV k x a (.slice ad len cap) l g = lfV 4 l []) := by unfold toldV; rw [if_neg h5, if_pos h4]; exact rfl
   subst h4
   refine HIL.out.mono ?_
   rintro e w3 ⟨rfl, h3⟩
   generalize hK1 : w.heap.size + 1 = K1 at h3 hK1w ⊢
   generalize hK0 : w.heap.size = K0 at h3 ⊢
   have H1 : Hid (Bx w3 K1 zT 24) := h3.out.2.1
   have HB3 : Hid (Below w.heap.size w w3) := by rw [hK0]; exact h3.out.2.2
   clear h3
   replace hK1w : Hid (w.heap.size ≤ K1) := hK1w
   clear hK0 hK1
   have X0 : w3.cell? ⟨K1, 0, none⟩ = some (.int .i64 0) := H1.out.cell 0
   have X1 : w3.cell? ⟨K1, 1, none⟩ = some (.string ⟨#[]⟩) := H1.out.cell 1
   have X2 : w3.cell? ⟨K1, 2, none⟩ = some (.string ⟨#[]⟩) := H1.out.cell 2
   have X3 : w3.cell? ⟨K1, 3, none⟩ = some (.slice none 0 0) := H1.out.cell 3
   have Z0 := H1.out.fz 0
   have Z1 := H1.out.fz 1
   have Z2 := H1.out.fz 2
   have Z3 := H1.out.fz 3
   go_wp2
   replace hK1w := hK1w.out
   have hO := H1.out.fill4 rfl (.int .i64 4) (.string (mk l)) (.string ⟨#[]⟩) (.slice none 0 0)
   have hOB := below_fill4 HB3.out hK1w (.int .i64 4) (.string (mk l)) (.string ⟨#[]⟩) (.slice none 0 0)
   change bodyPost _ _ _ _ _ (fill4 w3 K1 (.int .i64 4) (.string (mk l)) (.string ⟨#[]⟩) (.slice none 0 0))
   generalize fill4 w3 K1 (.int .i64 4) (.string (mk l)) (.string ⟨#[]⟩) (.slice none 0 0) = WF at hO hOB ⊢
   have j0 := hO.cell 0
   have j1 := hO.cell 1
   have j2 := hO.cell 2
   have j3 := hO.cell 3
   refine bodyPost_ret (v := .agg #[.int .i64 4, .string (mk l), .string ⟨#[]⟩, .slice none 0 0]) (by simp [results, Tryz.results89, go_sem, j0, j1, j2, j3]) rfl ?_
   exact ⟨by rw [HV.out]; rfl, hOB⟩
  ·have HV : Hid (toldV k x a (.slice ad len cap) l g = lfV (knd l) (if knd l = 1 then [] else l) []) := by unfold toldV; rw [if_neg h5, if_neg h4]; exact rfl
   have hge : (g == 4) = false := by simpa using h4
   refine HIL.out.mono ?_
   rintro e w3 ⟨rfl, h3⟩
   have HPT : Hid (Calls Tryz.prog 110 #[.string (mk l)] w3 fun e w' => e = .returned (.agg #[.int .i64 (knd l), .string (mk (if knd l = 1 then [] else l)), .string (mk []), .slice none 0 0]) ∧ Hid (Bx w' (w.heap.size + 1) zT 24 ∧ Below w.heap.size w w')) := (plainTree_any l hl (hT.later h3.out.2.2)).mono (fun e w' h => ⟨h.1, h3.out.2.1.later h.2, h3.out.2.2.trans (h.2.mono h3.out.2.2.size)⟩)
   clear h3
   generalize (if knd l = 1 then [] else l) = tx at *
   generalize knd l = kx at *
   go_wp2_with fail
   refine HPT.out.mono ?_
   rintro e w4 ⟨rfl, h4'⟩
   generalize hK1 : w.heap.size + 1 = K1 at h4' hK1w ⊢
   have H1 : Hid (Bx w4 K1 zT 24) := h4'.out.1
   have HB3 : Hid (Below w.heap.size w w4) := h4'.out.2
   clear h4'
   replace hK1w : Hid (w.heap.size ≤ K1) := hK1w
   clear hK1
   have X0 : w4.cell? ⟨K1, 0, none⟩ = some (.int .i64 0) := H1.out.cell 0
   have X1 : w4.cell? ⟨K1, 1, none⟩ = some (.string ⟨#[]⟩) := H1.out.cell 1
   have X2 : w4.cell? ⟨K1, 2, none⟩ = some (.string ⟨#[]⟩) := H1.out.cell 2
   have X3 : w4.cell? ⟨K1, 3, none⟩ = some (.slice none 0 0) := H1.out.cell 3
   have Z0 := H1.out.fz 0
   have Z1 := H1.out.fz 1
   have Z2 := H1.out.fz 2
   have Z3 := H1.out.fz 3
   go_wp2
   replace hK1w := hK1w.out
   have hO := H1.out.fill4 rfl (.int .i64 kx) (.string (mk tx)) (.string (mk [])) (.slice none 0 0)
   have hOB := below_fill4 HB3.out hK1w (.int .i64 kx) (.string (mk tx)) (.string (mk [])) (.slice none 0 0)
   change bodyPost _ _ _ _ _ (fill4 w4 K1 (.int .i64 kx) (.string (mk tx)) (.string (mk [])) (.slice none 0 0))
   generalize fill4 w4 K1 (.int .i64 kx) (.string (mk tx)) (.string (mk [])) (.slice none 0 0) = WF at hO hOB ⊢
   have j0 := hO.cell 0
   have j1 := hO.cell 1
   have j2 := hO.cell 2
   have j3 := hO.cell 3
   refine bodyPost_ret (v := .agg #[.int .i64 kx, .string (mk tx), .string (mk []), .slice none 0 0]) (by simp [results, Tryz.results89, go_sem, j0, j1, j2, j3]) rfl ?_
   exact ⟨by rw [HV.out]; rfl, hOB⟩
def okV (k : Value) (x a sl : Value) : Value := .tuple #[.agg #[k, x, a, sl], f0]
def erV (T : Nat) : Value := .tuple #[.agg zT, .agg #[.int .i64 12, .int .i64 (T : Int)]]
end Go.Proofs.YtfohbiohleekbaaGreatDoor.Flw
end

section
/- . -/
namespace Go.Proofs.YtfohbiohleekbaaGreatDoor.Flw
open Utf Rws Pln
open Go.RowKit
set_option linter.unusedSimpArgs false
set_option linter.unusedVariables false
set_option maxRecDepth 100000
set_option maxHeartbeats 4000000
variable {b p dp : Nat} {s : Ln} {w w1 w2 : World}
structure S4 (w0 w : World) (K0 K1 K2 K3 : Nat) (pc tc : Array Value) : Prop where
 k0 : Bx w K0 pc 120
 k1 : Bx w K1 tc 24
 k2 : Bx w K2 zT 24
 k3 : Bx w K3 zF 59
 bl : Below w0.heap.size w0 w
 h0 : w0.heap.size ≤ K0
 h1 : K0 < K1
 h2 : K1 < K2
 h3 : K2 < K3
variable {K0 K1 K2 K3 : Nat} {pc tc : Array Value} {w0 : World}
theorem S4.later (h : S4 w0 w K0 K1 K2 K3 pc tc) (hb : Below w.heap.size w w1) : S4 w0 w1 K0 K1 K2 K3 pc tc := ⟨h.k0.later hb, h.k1.later hb, h.k2.later hb, h.k3.later hb, h.bl.trans (hb.mono h.bl.size), h.h0, h.h1, h.h2, h.h3⟩
theorem S4.setT (h : S4 w0 w K0 K1 K2 K3 pc tc) (hz : tc.size = 4) (x0 x1 x2 x3 : Value) : S4 w0 (fill4 w K1 x0 x1 x2 x3) K0 K1 K2 K3 pc #[x0, x1, x2, x3] := by
 have := h.h0; have := h.h1; have := h.h2; have := h.h3
 exact ⟨h.k0.fill4o (by omega) _ _ _ _, h.k1.fill4 hz _ _ _ _, h.k2.fill4o (by omega) _ _ _ _, h.k3.fill4o (by omega) _ _ _ _, below_fill4 h.bl (by omega) _ _ _ _, h.h0, h.h1, h.h2, h.h3⟩
theorem S4.setA (h : S4 w0 w K0 K1 K2 K3 pc tc) (x : Value) : S4 w0 (w.setCell ⟨K1, 2, none⟩ x) K0 K1 K2 K3 pc (tc.setIfInBounds 2 x) := by
 have := h.h0; have := h.h1; have := h.h2; have := h.h3
 exact ⟨h.k0.other (by omega) _ _, h.k1.set 2 x, h.k2.other (by omega) _ _, h.k3.other (by omega) _ _, h.bl.setCell (p := ⟨K1, 2, none⟩) (by show w0.heap.size ≤ K1; omega) _, h.h0, h.h1, h.h2, h.h3⟩
theorem S4.out (h : S4 w0 w K0 K1 K2 K3 pc tc) (x0 x1 x2 x3 y0 y1 : Value) : Below w0.heap.size w0 (fill6 w K2 K3 x0 x1 x2 x3 y0 y1) ∧ Bx (fill6 w K2 K3 x0 x1 x2 x3 y0 y1) K2 #[x0, x1, x2, x3] 24 ∧ Bx (fill6 w K2 K3 x0 x1 x2 x3 y0 y1) K3 #[y0, y1] 59 := by
 have := h.h0; have := h.h1; have := h.h2; have := h.h3
 exact ⟨((below_fill4 h.bl (show w0.heap.size ≤ K2 by omega) x0 x1 x2 x3).setCell (p := ⟨K3, 0, none⟩) (by show w0.heap.size ≤ K3; omega) _).setCell (p := ⟨K3, 1, none⟩) (by show w0.heap.size ≤ K3; omega) _, ((h.k2.fill4 rfl x0 x1 x2 x3).other (by omega) _ _).other (by omega) _ _, ((h.k3.fill4o (by omega) x0 x1 x2 x3).set 0 y0).set 1 y1⟩
theorem S4.new (w : World) (pc tc : Array Value) : S4 w ((((w.alloc (.cells pc 120)).alloc (.cells tc 24)).alloc (.cells zT 24)).alloc (.cells zF 59)) w.heap.size (w.heap.size + 1) (w.heap.size + 1 + 1) (w.heap.size + 1 + 1 + 1) pc tc := by
 have b1 := below_alloc w (.cells pc 120)
 have b2 := below_alloc (w.alloc (.cells pc 120)) (.cells tc 24)
 have b3 := below_alloc ((w.alloc (.cells pc 120)).alloc (.cells tc 24)) (.cells zT 24)
 have b4 := below_alloc (((w.alloc (.cells pc 120)).alloc (.cells tc 24)).alloc (.cells zT 24)) (.cells zF 59)
 have e1 : (w.alloc (.cells pc 120)).heap.size = w.heap.size + 1 := by simp
 have e2 : ((w.alloc (.cells pc 120)).alloc (.cells tc 24)).heap.size = w.heap.size + 1 + 1 := by simp
 have e3 : (((w.alloc (.cells pc 120)).alloc (.cells tc 24)).alloc (.cells zT 24)).heap.size = w.heap.size + 1 + 1 + 1 := by simp
 have x1 := ((Bx.new (w.alloc (.cells pc 120)) tc 24).later b3).later b4
 have x2 := (Bx.new ((w.alloc (.cells pc 120)).alloc (.cells tc 24)) zT 24).later b4
 have x3 := Bx.new (((w.alloc (.cells pc 120)).alloc (.cells tc 24)).alloc (.cells zT 24)) zF 59
 rw [e1] at x1
 rw [e2] at x2
 rw [e3] at x3
 exact ⟨(((Bx.new w pc 120).later b2).later b3).later b4, x1, x2, x3, b1.trans ((b2.mono (by omega)).trans ((b3.mono (by omega)).trans (b4.mono (by omega)))), Nat.le_refl _, by omega, by omega, by omega⟩
def onV (a : Ln) (tg : Int) (T : Nat) (k : Int) (x : ByteArray) (sl : Value) (k' : Int) (x' : ByteArray) (sl' : Value) : Value :=
 if tg = 0 then okV (.int .i64 k) (.string x) (.string (mk a)) sl else if k' = tg then okV (.int .i64 k') (.string x') (.string (mk a)) sl' else erV T
theorem on_any (a : Ln) (tg : Int) (T : Nat) (k : Int) (x c : ByteArray) (ad : Option Addr) (len cap : Nat) (l : Ln) (k' : Int) (x' c' : ByteArray) (ad' : Option Addr) (len' cap' : Nat) (hl : l.length ≤ 65536) (htg : 0 ≤ tg ∧ tg ≤ 6) (hT : Tb w)
  (hR : toldV k x c (.slice ad len cap) l tg = .agg #[.int .i64 k', .string x', .string c', .slice ad' len' cap']) :
  Calls Tryz.prog 68 #[.agg #[.string (mk a), .int .i64 tg, .int .i64 (T : Int)], .agg #[.int .i64 k, .string x, .string c, .slice ad len cap], .string (mk l)] w fun e w' => e = .returned (onV a tg T k x (.slice ad len cap) k' x' (.slice ad' len' cap')) ∧ Below w.heap.size w w' := by
 have hS := S4.new w #[.string (mk a), .int .i64 tg, .int .i64 (T : Int)] #[.int .i64 k, .string x, .string c, .slice ad len cap]
 obtain ⟨W, hW⟩ : ∃ W, (((w.alloc (.cells #[.string (mk a), .int .i64 tg, .int .i64 (T : Int)] 120)).alloc (.cells #[.int .i64 k, .string x, .string c, .slice ad len cap] 24)).alloc (.cells zT 24)).alloc (.cells zF 59) = W := ⟨_, rfl⟩
 rw [hW] at hS
 go_enter Tryz.func68, Tryz.ntmps68
 go_upto_region 1 with fail
 change Code.wp _ _ _ _ ((((w.alloc (.cells #[.string (mk a), .int .i64 tg, .int .i64 (T : Int)] 120)).alloc (.cells #[.int .i64 k, .string x, .string c, .slice ad len cap] 24)).alloc (.cells zT 24)).alloc (.cells zF 59))
 rw [hW]
 clear hW
 generalize hK3 : w.heap.size + 1 + 1 + 1 = K3 at hS ⊢
 generalize hK2 : w.heap.size + 1 + 1 = K2 at hS ⊢
 generalize hK1 : w.heap.size + 1 = K1 at hS ⊢
 generalize hK0 : w.heap.size = K0 at hS ⊢
 clear hK1 hK2 hK3
 have HS : Hid (S4 w W K0 K1 K2 K3 #[.string (mk a), .int .i64 tg, .int .i64 (T : Int)] #[.int .i64 k, .string x, .string c, .slice ad len cap]) := hS
 have hn1 : K1 ≠ K0 := by have := hS.h1; omega
 have hn2 : K0 ≠ K1 := by omega
 have hn3 : K2 ≠ K1 := by have := hS.h2; omega
 have hn4 : K1 ≠ K2 := by omega
 have hn5 : K3 ≠ K2 := by have := hS.h3; omega
 have hn6 : K2 ≠ K3 := by omega
 have hn7 : K3 ≠ K1 := by have := hS.h2; have := hS.h3; omega
 have hn8 : K1 ≠ K3 := by omega
 have hn9 : K2 ≠ K0 := by have := hS.h1; have := hS.h2; omega
 have hn10 : K0 ≠ K2 := by omega
 have hn11 : K3 ≠ K0 := by have := hS.h1; have := hS.h2; have := hS.h3; omega
 have hn12 : K0 ≠ K3 := by omega
 clear hS hK0
 have p0 : W.cell? ⟨K0, 0, none⟩ = some (.string (mk a)) := HS.out.k0.cell 0
 have p1 : W.cell? ⟨K0, 1, none⟩ = some (.int .i64 tg) := HS.out.k0.cell 1
 have p2 : W.cell? ⟨K0, 2, none⟩ = some (.int .i64 (T : Int)) := HS.out.k0.cell 2
 have t0 : W.cell? ⟨K1, 0, none⟩ = some (.int .i64 k) := HS.out.k1.cell 0
 have u0 : W.frozen? ⟨K1, 0, none⟩ = false := HS.out.k1.fz 0
 have t1 : W.cell? ⟨K1, 1, none⟩ = some (.string x) := HS.out.k1.cell 1
 have u1 : W.frozen? ⟨K1, 1, none⟩ = false := HS.out.k1.fz 1
 have t2 : W.cell? ⟨K1, 2, none⟩ = some (.string c) := HS.out.k1.cell 2
 have u2 : W.frozen? ⟨K1, 2, none⟩ = false := HS.out.k1.fz 2
 have t3 : W.cell? ⟨K1, 3, none⟩ = some (.slice ad len cap) := HS.out.k1.cell 3
 have u3 : W.frozen? ⟨K1, 3, none⟩ = false := HS.out.k1.fz 3
 by_cases h0 : tg = 0
 ·have HV : Hid (onV a tg T k x (.slice ad len cap) k' x' (.slice ad' len' cap') = okV (.int .i64 k) (.string x) (.string (mk a)) (.slice ad len cap)) := by unfold onV; rw [if_pos h0]; exact rfl
  subst h0
  clear hR
  obtain ⟨w5, hw5⟩ : ∃ w5, W.setCell ⟨K1, 2, none⟩ (.string (mk a)) = w5 := ⟨_, rfl⟩
  have HS5 : Hid (S4 w w5 K0 K1 K2 K3 #[.string (mk a), .int .i64 0, .int .i64 (T : Int)] #[.int .i64 k, .string x, .string (mk a), .slice ad len cap]) := by rw [← hw5]; exact HS.out.setA _
  have t0 : w5.cell? ⟨K1, 0, none⟩ = some (.int .i64 k) := HS5.out.k1.cell 0
  have u0 : w5.frozen? ⟨K1, 0, none⟩ = false := HS5.out.k1.fz 0
  have t1 : w5.cell? ⟨K1, 1, none⟩ = some (.string x) := HS5.out.k1.cell 1
  have u1 : w5.frozen? ⟨K1, 1, none⟩ = false := HS5.out.k1.fz 1
  have t2 : w5.cell? ⟨K1, 2, none⟩ = some (.string (mk a)) := HS5.out.k1.cell 2
  have u2 : w5.frozen? ⟨K1, 2, none⟩ = false := HS5.out.k1.fz 2
  have t3 : w5.cell? ⟨K1, 3, none⟩ = some (.slice ad len cap) := HS5.out.k1.cell 3
  have u3 : w5.frozen? ⟨K1, 3, none⟩ = false := HS5.out.k1.fz 3
  have X0 : w5.cell? ⟨K2, 0, none⟩ = some (.int .i64 0) := HS5.out.k2.cell 0
  have Z0 : w5.frozen? ⟨K2, 0, none⟩ = false := HS5.out.k2.fz 0
  have X1 : w5.cell? ⟨K2, 1, none⟩ = some (.string ⟨#[]⟩) := HS5.out.k2.cell 1
  have Z1 : w5.frozen? ⟨K2, 1, none⟩ = false := HS5.out.k2.fz 1
  have X2 : w5.cell? ⟨K2, 2, none⟩ = some (.string ⟨#[]⟩) := HS5.out.k2.cell 2
  have Z2 : w5.frozen? ⟨K2, 2, none⟩ = false := HS5.out.k2.fz 2
  have X3 : w5.cell? ⟨K2, 3, none⟩ = some (.slice none 0 0) := HS5.out.k2.cell 3
  have Z3 : w5.frozen? ⟨K2, 3, none⟩ = false := HS5.out.k2.fz 3
  have Y0 : w5.cell? ⟨K3, 0, none⟩ = some (.int .i64 0) := HS5.out.k3.cell 0
  have V0 : w5.frozen? ⟨K3, 0, none⟩ = false := HS5.out.k3.fz 0
  have Y1 : w5.cell? ⟨K3, 1, none⟩ = some (.int .i64 0) := HS5.out.k3.cell 1
  have V1 : w5.frozen? ⟨K3, 1, none⟩ = false := HS5.out.k3.fz 1
  clear HS
  go_wp2
  have hO := HS5.out.out (.int .i64 k) (.string x) (.string (mk a)) (.slice ad len cap) (.int .i64 0) (.int .i64 0)
  change bodyPost _ _ _ _ _ (fill6 w5 K2 K3 (.int .i64 k) (.string x) (.string (mk a)) (.slice ad len cap) (.int .i64 0) (.int .i64 0))
  generalize fill6 w5 K2 K3 (.int .i64 k) (.string x) (.string (mk a)) (.slice ad len cap) (.int .i64 0) (.int .i64 0) = WF at hO ⊢
  obtain ⟨o2, o3, o4⟩ := hO
  have j0 : WF.cell? ⟨K2, 0, none⟩ = _ := o3.cell 0
  have j1 : WF.cell? ⟨K2, 1, none⟩ = _ := o3.cell 1
  have j2 : WF.cell? ⟨K2, 2, none⟩ = _ := o3.cell 2
  have j3 : WF.cell? ⟨K2, 3, none⟩ = _ := o3.cell 3
  have j4 : WF.cell? ⟨K3, 0, none⟩ = _ := o4.cell 0
  have j5 : WF.cell? ⟨K3, 1, none⟩ = _ := o4.cell 1
  refine bodyPost_ret (v := .tuple #[.agg #[.int .i64 k, .string x, .string (mk a), .slice ad len cap], .agg #[.int .i64 0, .int .i64 0]]) (by simp [results, Tryz.results68, go_sem, j0, j1, j2, j3, j4, j5]) rfl ?_
  exact ⟨by rw [HV.out]; rfl, o2⟩
 ·have hte : (tg != 0) = true := by simpa using h0
  have HRT : Hid (Calls Tryz.prog 89 #[.agg #[.int .i64 k, .string x, .string c, .slice ad len cap], .string (mk l), .int .i64 tg] W fun e w' => e = .returned (.agg #[.int .i64 k', .string x', .string c', .slice ad' len' cap']) ∧ Hid (S4 w w' K0 K1 K2 K3 #[.string (mk a), .int .i64 tg, .int .i64 (T : Int)] #[.int .i64 k, .string x, .string c, .slice ad len cap])) := by
   have := retold_any k x c ad len cap l tg hl (hT.later HS.out.bl)
   rw [hR] at this
   exact this.mono (fun e w' h => ⟨h.1, HS.out.later h.2⟩)
  clear HS hR
  go_wp2_with fail
  refine HRT.out.mono ?_
  rintro e w3 ⟨rfl, HS3⟩
  clear HRT p0 p1 p2 t0 t1 t2 t3 u0 u1 u2 u3
  have p0 : w3.cell? ⟨K0, 0, none⟩ = some (.string (mk a)) := HS3.out.k0.cell 0
  have p1 : w3.cell? ⟨K0, 1, none⟩ = some (.int .i64 tg) := HS3.out.k0.cell 1
  have p2 : w3.cell? ⟨K0, 2, none⟩ = some (.int .i64 (T : Int)) := HS3.out.k0.cell 2
  have t0 : w3.cell? ⟨K1, 0, none⟩ = some (.int .i64 k) := HS3.out.k1.cell 0
  have u0 : w3.frozen? ⟨K1, 0, none⟩ = false := HS3.out.k1.fz 0
  have t1 : w3.cell? ⟨K1, 1, none⟩ = some (.string x) := HS3.out.k1.cell 1
  have u1 : w3.frozen? ⟨K1, 1, none⟩ = false := HS3.out.k1.fz 1
  have t2 : w3.cell? ⟨K1, 2, none⟩ = some (.string c) := HS3.out.k1.cell 2
  have u2 : w3.frozen? ⟨K1, 2, none⟩ = false := HS3.out.k1.fz 2
  have t3 : w3.cell? ⟨K1, 3, none⟩ = some (.slice ad len cap) := HS3.out.k1.cell 3
  have u3 : w3.frozen? ⟨K1, 3, none⟩ = false := HS3.out.k1.fz 3
  obtain ⟨w4, hw4⟩ : ∃ w4, (((w3.setCell ⟨K1, 0, none⟩ (.int .i64 k')).setCell ⟨K1, 1, none⟩ (.string x')).setCell ⟨K1, 2, none⟩ (.string c')).setCell ⟨K1, 3, none⟩ (.slice ad' len' cap') = w4 := ⟨_, rfl⟩
  have HS4 : Hid (S4 w w4 K0 K1 K2 K3 #[.string (mk a), .int .i64 tg, .int .i64 (T : Int)] #[.int .i64 k', .string x', .string c', .slice ad' len' cap']) := by rw [← hw4]; exact HS3.out.setT rfl _ _ _ _
  clear HS3
  have q0 : w4.cell? ⟨K0, 0, none⟩ = some (.string (mk a)) := HS4.out.k0.cell 0
  have q1 : w4.cell? ⟨K0, 1, none⟩ = some (.int .i64 tg) := HS4.out.k0.cell 1
  have q2 : w4.cell? ⟨K0, 2, none⟩ = some (.int .i64 (T : Int)) := HS4.out.k0.cell 2
  have m0 : w4.cell? ⟨K1, 0, none⟩ = some (.int .i64 k') := HS4.out.k1.cell 0
  have v0 : w4.frozen? ⟨K1, 0, none⟩ = false := HS4.out.k1.fz 0
  have m1 : w4.cell? ⟨K1, 1, none⟩ = some (.string x') := HS4.out.k1.cell 1
  have v1 : w4.frozen? ⟨K1, 1, none⟩ = false := HS4.out.k1.fz 1
  have m2 : w4.cell? ⟨K1, 2, none⟩ = some (.string c') := HS4.out.k1.cell 2
  have v2 : w4.frozen? ⟨K1, 2, none⟩ = false := HS4.out.k1.fz 2
  have m3 : w4.cell? ⟨K1, 3, none⟩ = some (.slice ad' len' cap') := HS4.out.k1.cell 3
  have v3 : w4.frozen? ⟨K1, 3, none⟩ = false := HS4.out.k1.fz 3
  by_cases hk : k' = tg
  ·have HV : Hid (onV a tg T k x (.slice ad len cap) k' x' (.slice ad' len' cap') = okV (.int .i64 k') (.string x') (.string (mk a)) (.slice ad' len' cap')) := by unfold onV; rw [if_neg h0, if_pos hk]; exact rfl
   have hke : (k' != tg) = false := by simpa using hk
   have hke2 : (k' == tg) = true := by simpa using hk
   clear hk
   obtain ⟨w5, hw5⟩ : ∃ w5, w4.setCell ⟨K1, 2, none⟩ (.string (mk a)) = w5 := ⟨_, rfl⟩
   have HS5 : Hid (S4 w w5 K0 K1 K2 K3 #[.string (mk a), .int .i64 tg, .int .i64 (T : Int)] #[.int .i64 k', .string x', .string (mk a), .slice ad' len' cap']) := by rw [← hw5]; exact HS4.out.setA _
   have t0 : w5.cell? ⟨K1, 0, none⟩ = some (.int .i64 k') := HS5.out.k1.cell 0
   have u0 : w5.frozen? ⟨K1, 0, none⟩ = false := HS5.out.k1.fz 0
   have t1 : w5.cell? ⟨K1, 1, none⟩ = some (.string x') := HS5.out.k1.cell 1
   have u1 : w5.frozen? ⟨K1, 1, none⟩ = false := HS5.out.k1.fz 1
   have t2 : w5.cell? ⟨K1, 2, none⟩ = some (.string (mk a)) := HS5.out.k1.cell 2
   have u2 : w5.frozen? ⟨K1, 2, none⟩ = false := HS5.out.k1.fz 2
   have t3 : w5.cell? ⟨K1, 3, none⟩ = some (.slice ad' len' cap') := HS5.out.k1.cell 3
   have u3 : w5.frozen? ⟨K1, 3, none⟩ = false := HS5.out.k1.fz 3
   have X0 : w5.cell? ⟨K2, 0, none⟩ = some (.int .i64 0) := HS5.out.k2.cell 0
   have Z0 : w5.frozen? ⟨K2, 0, none⟩ = false := HS5.out.k2.fz 0
   have X1 : w5.cell? ⟨K2, 1, none⟩ = some (.string ⟨#[]⟩) := HS5.out.k2.cell 1
   have Z1 : w5.frozen? ⟨K2, 1, none⟩ = false := HS5.out.k2.fz 1
   have X2 : w5.cell? ⟨K2, 2, none⟩ = some (.string ⟨#[]⟩) := HS5.out.k2.cell 2
   have Z2 : w5.frozen? ⟨K2, 2, none⟩ = false := HS5.out.k2.fz 2
   have X3 : w5.cell? ⟨K2, 3, none⟩ = some (.slice none 0 0) := HS5.out.k2.cell 3
   have Z3 : w5.frozen? ⟨K2, 3, none⟩ = false := HS5.out.k2.fz 3
   have Y0 : w5.cell? ⟨K3, 0, none⟩ = some (.int .i64 0) := HS5.out.k3.cell 0
   have V0 : w5.frozen? ⟨K3, 0, none⟩ = false := HS5.out.k3.fz 0
   have Y1 : w5.cell? ⟨K3, 1, none⟩ = some (.int .i64 0) := HS5.out.k3.cell 1
   have V1 : w5.frozen? ⟨K3, 1, none⟩ = false := HS5.out.k3.fz 1
   clear HS4
   go_wp2
   have hO := HS5.out.out (.int .i64 k') (.string x') (.string (mk a)) (.slice ad' len' cap') (.int .i64 0) (.int .i64 0)
   change bodyPost _ _ _ _ _ (fill6 w5 K2 K3 (.int .i64 k') (.string x') (.string (mk a)) (.slice ad' len' cap') (.int .i64 0) (.int .i64 0))
   generalize fill6 w5 K2 K3 (.int .i64 k') (.string x') (.string (mk a)) (.slice ad' len' cap') (.int .i64 0) (.int .i64 0) = WF at hO ⊢
   obtain ⟨o2, o3, o4⟩ := hO
   have j0 : WF.cell? ⟨K2, 0, none⟩ = _ := o3.cell 0
   have j1 : WF.cell? ⟨K2, 1, none⟩ = _ := o3.cell 1
   have j2 : WF.cell? ⟨K2, 2, none⟩ = _ := o3.cell 2
   have j3 : WF.cell? ⟨K2, 3, none⟩ = _ := o3.cell 3
   have j4 : WF.cell? ⟨K3, 0, none⟩ = _ := o4.cell 0
   have j5 : WF.cell? ⟨K3, 1, none⟩ = _ := o4.cell 1
   refine bodyPost_ret (v := .tuple #[.agg #[.int .i64 k', .string x', .string (mk a), .slice ad' len' cap'], .agg #[.int .i64 0, .int .i64 0]]) (by simp [results, Tryz.results68, go_sem, j0, j1, j2, j3, j4, j5]) rfl ?_
   exact ⟨by rw [HV.out]; rfl, o2⟩
  ·have HV : Hid (onV a tg T k x (.slice ad len cap) k' x' (.slice ad' len' cap') = erV T) := by unfold onV; rw [if_neg h0, if_neg hk]; exact rfl
   have hke : (k' != tg) = true := by simpa using hk
   have hke2 : (k' == tg) = false := by simpa using hk
   have X0 : w4.cell? ⟨K2, 0, none⟩ = some (.int .i64 0) := HS4.out.k2.cell 0
   have Z0 : w4.frozen? ⟨K2, 0, none⟩ = false := HS4.out.k2.fz 0
   have X1 : w4.cell? ⟨K2, 1, none⟩ = some (.string ⟨#[]⟩) := HS4.out.k2.cell 1
   have Z1 : w4.frozen? ⟨K2, 1, none⟩ = false := HS4.out.k2.fz 1
   have X2 : w4.cell? ⟨K2, 2, none⟩ = some (.string ⟨#[]⟩) := HS4.out.k2.cell 2
   have Z2 : w4.frozen? ⟨K2, 2, none⟩ = false := HS4.out.k2.fz 2
   have X3 : w4.cell? ⟨K2, 3, none⟩ = some (.slice none 0 0) := HS4.out.k2.cell 3
   have Z3 : w4.frozen? ⟨K2, 3, none⟩ = false := HS4.out.k2.fz 3
   have Y0 : w4.cell? ⟨K3, 0, none⟩ = some (.int .i64 0) := HS4.out.k3.cell 0
   have V0 : w4.frozen? ⟨K3, 0, none⟩ = false := HS4.out.k3.fz 0
   have Y1 : w4.cell? ⟨K3, 1, none⟩ = some (.int .i64 0) := HS4.out.k3.cell 1
   have V1 : w4.frozen? ⟨K3, 1, none⟩ = false := HS4.out.k3.fz 1
   go_wp2
   go_region
   all_goals
    go_wp2
    have hO := HS4.out.out (.int .i64 0) (.string ⟨#[]⟩) (.string ⟨#[]⟩) (.slice none 0 0) (.int .i64 12) (.int .i64 (T : Int))
    change bodyPost _ _ _ _ _ (fill6 w4 K2 K3 (.int .i64 0) (.string ⟨#[]⟩) (.string ⟨#[]⟩) (.slice none 0 0) (.int .i64 12) (.int .i64 (T : Int))).drew
    generalize fill6 w4 K2 K3 (.int .i64 0) (.string ⟨#[]⟩) (.string ⟨#[]⟩) (.slice none 0 0) (.int .i64 12) (.int .i64 (T : Int)) = WF at hO ⊢
    obtain ⟨o2, o3, o4⟩ := hO
    have j0 : WF.drew.cell? ⟨K2, 0, none⟩ = _ := o3.cell 0
    have j1 : WF.drew.cell? ⟨K2, 1, none⟩ = _ := o3.cell 1
    have j2 : WF.drew.cell? ⟨K2, 2, none⟩ = _ := o3.cell 2
    have j3 : WF.drew.cell? ⟨K2, 3, none⟩ = _ := o3.cell 3
    have j4 : WF.drew.cell? ⟨K3, 0, none⟩ = _ := o4.cell 0
    have j5 : WF.drew.cell? ⟨K3, 1, none⟩ = _ := o4.cell 1
    replace o2 := o2.drew
    refine bodyPost_ret (v := .tuple #[.agg #[.int .i64 0, .string ⟨#[]⟩, .string ⟨#[]⟩, .slice none 0 0], .agg #[.int .i64 12, .int .i64 (T : Int)]]) (by simp [results, Tryz.results68, go_sem, j0, j1, j2, j3, j4, j5]) rfl ?_
    exact ⟨by rw [HV.out]; rfl, o2⟩
end Go.Proofs.YtfohbiohleekbaaGreatDoor.Flw
end
