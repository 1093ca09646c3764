/- Several texts as one: FlowAllow, FlowRgt, FlowRgtP. -/
import Derived.Test.YtaphijgbebhdlaaGreatDoorV06FlowRight
import Derived.Test.YtaphijgbebhdlaaGreatDoorV07FlowTreY
import Derived.Test.YtaphijgbebhdlaaGreatDoorV05FlowCore
import Derived.Test.YtaphijgbebhdlaaGreatDoorV08FlowModel2
section
/- (*judge).allows, by its contract. -/
namespace Go.Proofs.YtaphijgbebhdlaaGreatDoor.Flw
open Utf Rws Pln
open Go.RowKit
set_option linter.unusedSimpArgs false
set_option linter.unusedVariables false
set_option maxRecDepth 100000
set_option maxHeartbeats 4000000

/-- the kids, from the i-th on: each may be, and a key where one must stand; how many trees there are then -/
def alk (f : Tr → Nat → Option Nat) (map : Bool) : Nat → List Tr → Nat → Option Nat
  | _, [], n => some n
  | i, t :: ts, n => if (map && decide (i % 2 = 0)) = true ∧ kyl t.kind t.anc = false then none else match f t n with | none => none | some n' => alk f map (i + 1) ts n'
/-- may a tree be, that lies within so many, behind n trees? then how many there are with it -/
def alw : Nat → Nat → Tr → Nat → Option Nat
  | 0, _, _, _ => none
  | d + 1, deep, t, n =>
    if n + 1 > 4096 ∨ (if isLst t = true then deep + 1 else deep) > 64 ∨ ral t.kind t.text t.anc t.kids.length = false then none
    else alk (fun k m => alw d (if isLst t = true then deep + 1 else deep) k m) (decide (t.kind = 6)) 0 t.kids (n + 1)
/-- short texts all through -/
def bri (B : Nat) : Nat → Tr → Prop
  | 0, _ => False
  | d + 1, t => t.text.length ≤ B ∧ t.anc.length ≤ B ∧ ∀ i, i < t.kids.length → bri B d (t.kids.getD i tr0)
theorem bri.mono {B B' : Nat} (hB : B ≤ B') : ∀ {d : Nat} {t : Tr}, bri B d t → bri B' d t
  | 0, _, h => h
  | d + 1, t, h => ⟨Nat.le_trans h.1 hB, Nat.le_trans h.2.1 hB, fun i hi => bri.mono hB (h.2.2 i hi)⟩
theorem bri.more {B : Nat} : ∀ {d d' : Nat} {t : Tr}, bri B d t → d ≤ d' → bri B d' t
  | 0, _, _, h, _ => h.elim
  | d + 1, d', t, h, hd => by
    obtain ⟨e, rfl⟩ : ∃ e, d' = e + 1 := ⟨d' - 1, by omega⟩
    exact ⟨h.1, h.2.1, fun i hi => bri.more (h.2.2 i hi) (by omega)⟩
abbrev brief : Nat → Tr → Prop := bri 65536
/-- the judge in block L has counted n trees; a tree's box beside it -/
structure Jg (W w : World) (L KB n : Nat) (tc : Array Value) : Prop where
  j : Bx w L #[.int .i64 (n : Int)] 99
  t : Bx w KB tc 29
  bl : Below W.heap.size W w
  hl : W.heap.size ≤ L
  hk : L < KB
theorem Jg.fr {W w w1 : World} {L KB n m : Nat} {tc : Array Value} (h : Jg W w L KB n tc) (hf : Fr L w w1) (hj : Bx w1 L #[.int .i64 (m : Int)] 99) : Jg W w1 L KB m tc :=
  ⟨hj, h.t.fr hf h.hk, h.bl.trans (hf.1.mono h.hl), h.hl, h.hk⟩
theorem Jg.later {W w w1 : World} {L KB n : Nat} {tc : Array Value} (h : Jg W w L KB n tc) (hb : Below w.heap.size w w1) : Jg W w1 L KB n tc :=
  ⟨h.j.later hb, h.t.later hb, h.bl.trans (hb.mono h.bl.size), h.hl, h.hk⟩
theorem alk_at (f : Tr → Nat → Option Nat) (mp : Bool) (j : Nat) (ks : List Tr) (m : Nat) (h : j < ks.length) : alk f mp j (ks.drop j) m = if (mp && decide (j % 2 = 0)) = true ∧ kyl (ks.getD j tr0).kind (ks.getD j tr0).anc = false then none else match f (ks.getD j tr0) m with | none => none | some n' => alk f mp (j + 1) (ks.drop (j + 1)) n' := by
  rw [List.drop_eq_getElem_cons h, List.getD_eq_getElem?_getD, List.getElem?_eq_getElem h]
  rfl
theorem TrV.four {w : World} {d : Nat} {c0 c1 c2 c3 : Value} {t : Tr} (h : TrV w d (.agg #[c0, c1, c2, c3]) t) : ∃ (ad : Option Addr) (len cap : Nat), c0 = .int .i64 t.kind ∧ c1 = .string (mk t.text) ∧ c2 = .string (mk t.anc) ∧ c3 = .slice ad len cap := by
  cases d with
  | zero => exact h.elim
  | succ d =>
    obtain ⟨ad, len, cap, e, _⟩ := h
    simp only [Value.agg.injEq, Array.mk.injEq, List.cons.injEq, and_true] at e
    exact ⟨ad, len, cap, e.1, e.2.1, e.2.2.1, e.2.2.2⟩
/-- and a kid's box -/
structure Jk (W w wr : World) (L KB KK n : Nat) (tc kc : Array Value) : Prop where
  g : Jg W wr L KB n tc
  f : Fr L w wr
  k : Bx wr KK kc 29
theorem Jk.later {W w w1 w2 : World} {L KB KK n : Nat} {tc kc : Array Value} (h : Jk W w w1 L KB KK n tc kc) (hb : Below w1.heap.size w1 w2) : Jk W w w2 L KB KK n tc kc :=
  ⟨h.g.later hb, h.f.trans (Fr.of hb h.g.j.lt), h.k.later hb⟩
/-- what allows does with a kid -/
def AlOk (W : World) (L d dd : Nat) (f : Tr → Nat → Option Nat) (P : Tr → Prop) : Prop := ∀ (v : Value) (t : Tr) (w : World) (n : Nat), P t → TrV W d v t → Below W.heap.size W w → n ≤ 4096 → Bx w L #[.int .i64 (n : Int)] 99 →
  Calls Tryz.prog 39 #[.pointer (some ⟨L, 0, none⟩), v, .int .i64 (dd : Int)] w fun e w' => ∃ q : Bool, e = .returned (.bool q) ∧ q = (f t n).isSome ∧ Fr L w w' ∧ ∀ n', f t n = some n' → n' ≤ 4096 ∧ Bx w' L #[.int .i64 (n' : Int)] 99
theorem allows_core (k : Int) (x a : Ln) (ad : Option Addr) (len cap : Nat) (W w : World) (L deep n d : Nat) (ks : List Tr) (hl : len ≤ 9223372036854775807) (hx : x.length ≤ 2147483648) (ha : a.length ≤ 2147483648)
    (HK : Hid (KAt W d ad len ks)) (HBW : Hid (Below W.heap.size W w)) (HTW : Hid (Tb W)) (hd : deep ≤ 64) (hn : n ≤ 4096) (hWL : W.heap.size ≤ L) (hJ : Bx w L #[.int .i64 (n : Int)] 99)
    (f : Tr → Nat → Option Nat) (dd : Nat) (hdd : dd = if isLst ⟨k, x, a, ks⟩ = true then deep + 1 else deep) (P : Tr → Prop) (hP : ∀ i, i < ks.length → P (ks.getD i tr0))
    (HI : Hid (dd ≤ 64 → AlOk W L d dd f P))
    (R : Bool → World → Prop) (hF : Hid (∀ w', (n + 1 > 4096 ∨ dd > 64 ∨ ral k x a len = false ∨ alk f (decide (k = 6)) 0 ks (n + 1) = none) → Fr L w w' → R false w'))
    (hT : Hid (∀ w' n', n + 1 ≤ 4096 → dd ≤ 64 → ral k x a len = true → alk f (decide (k = 6)) 0 ks (n + 1) = some n' → n' ≤ 4096 → Fr L w w' → Bx w' L #[.int .i64 (n' : Int)] 99 → R true w')) :
    Calls Tryz.prog 39 #[.pointer (some ⟨L, 0, none⟩), tv k x a ad len cap, .int .i64 (deep : Int)] w fun e w' => ∃ q : Bool, e = .returned (.bool q) ∧ R q w' := by
  have hLw := hJ.lt
  have hcl : w.cell? ⟨L, 0, none⟩ = some (.int .i64 (n : Int)) := hJ.cell 0
  have hfr := hJ.fz 0
  have hs1 : (w.setCell ⟨L, 0, none⟩ (.int .i64 ((n + 1 : Nat) : Int))).heap.size = w.heap.size := World.size_setCell _ _ _
  have hJ1 : Jg W ((w.setCell ⟨L, 0, none⟩ (.int .i64 ((n + 1 : Nat) : Int))).alloc (.cells #[.int .i64 k, .string (mk x), .string (mk a), .slice ad len cap] 29)) L w.heap.size (n + 1) #[.int .i64 k, .string (mk x), .string (mk a), .slice ad len cap] := by
    have hb := below_alloc (w.setCell ⟨L, 0, none⟩ (.int .i64 ((n + 1 : Nat) : Int))) (.cells #[.int .i64 k, .string (mk x), .string (mk a), .slice ad len cap] 29)
    have hx2 := Bx.new (w.setCell ⟨L, 0, none⟩ (.int .i64 ((n + 1 : Nat) : Int))) #[.int .i64 k, .string (mk x), .string (mk a), .slice ad len cap] 29
    rw [hs1] at hx2
    exact ⟨(hJ.set 0 (.int .i64 ((n + 1 : Nat) : Int))).later hb, hx2, (HBW.out.setCell (p := ⟨L, 0, none⟩) hWL _).trans (hb.mono (by rw [hs1]; exact HBW.out.size)), hWL, hLw⟩
  have hF1 : Fr L w ((w.setCell ⟨L, 0, none⟩ (.int .i64 ((n + 1 : Nat) : Int))).alloc (.cells #[.int .i64 k, .string (mk x), .string (mk a), .slice ad len cap] 29)) := (Fr.refl.set 0 _).trans (Fr.of (below_alloc _ _) (by rw [hs1]; exact hLw))
  go_enter Tryz.func39, Tryz.ntmps39
  go_wp2_with fail
  rw [show ((n : Int) + 1) = ((n + 1 : Nat) : Int) by omega]
  generalize ((w.setCell ⟨L, 0, none⟩ (.int .i64 ((n + 1 : Nat) : Int))).alloc (.cells #[.int .i64 k, .string (mk x), .string (mk a), .slice ad len cap] 29)) = w1 at hJ1 hF1 ⊢
  generalize hKB : w.heap.size = KB at hJ1 ⊢
  have HIL : Hid (Calls Tryz.prog 60 #[.agg #[.int .i64 k, .string (mk x), .string (mk a), .slice ad len cap]] w1 fun e w' => e = .returned (.bool (isLst ⟨k, x, a, ks⟩)) ∧ Hid (Jg W w' L KB (n + 1) #[.int .i64 k, .string (mk x), .string (mk a), .slice ad len cap] ∧ Fr L w w')) :=
    (isList_any k (mk x) (mk a) ad len cap w1).mono (fun e w' h => ⟨h.1, hJ1.later h.2, hF1.trans (Fr.of h.2 hJ1.j.lt)⟩)
  clear hKB hJ1 hF1 hcl hfr hs1 hJ HBW hLw
  refine HIL.out.mono ?_
  rintro e w2 ⟨rfl, H2⟩
  clear HIL
  cases hLL : isLst ⟨k, x, a, ks⟩
  case' false =>
    rw [hLL, if_neg (by decide)] at hdd
    subst hdd
    go_upto_region 4 with fail
  case' true =>
    rw [hLL, if_pos rfl] at hdd
    go_upto_region 4 with fail
    rw [show ((deep : Int) + 1) = (dd : Int) by omega]
    clear hdd
  all_goals
    by_cases h1 : 4096 < n + 1
    · have g0 : w2.cell? ⟨L, 0, none⟩ = some (.int .i64 ((n + 1 : Nat) : Int)) := H2.out.1.j.cell 0
      have h1' : (4096 : Int) < (n : Int) + 1 := by omega
      go_wp2
      go_ret
      first | exact ⟨false, rfl, hF.out _ (.inl (by omega)) H2.out.2⟩ | exact .inl ⟨rfl, hF.out _ (.inl (by omega)) H2.out.2⟩
    have g0 : w2.cell? ⟨L, 0, none⟩ = some (.int .i64 ((n + 1 : Nat) : Int)) := H2.out.1.j.cell 0
    have h1' : ¬ (4096 : Int) < (n : Int) + 1 := by omega
    by_cases h2 : 64 < dd
    · have h2' : (64 : Int) < (dd : Int) := by omega
      first
      | (exfalso; omega)
      | (go_wp2; go_ret; first | exact ⟨false, rfl, hF.out _ (.inr (.inl (by omega))) H2.out.2⟩ | exact .inl ⟨rfl, hF.out _ (.inr (.inl (by omega))) H2.out.2⟩)
    have h2' : ¬ (64 : Int) < (dd : Int) := by omega
    have g1 : w2.cell? ⟨KB, 0, none⟩ = some (.int .i64 k) := H2.out.1.t.cell 0
    have g2 : w2.cell? ⟨KB, 1, none⟩ = some (.string (mk x)) := H2.out.1.t.cell 1
    have g3 : w2.cell? ⟨KB, 2, none⟩ = some (.string (mk a)) := H2.out.1.t.cell 2
    have g4 : w2.cell? ⟨KB, 3, none⟩ = some (.slice ad len cap) := H2.out.1.t.cell 3
    have HRA : Hid (Calls Tryz.prog 61 #[.agg #[.int .i64 k, .string (mk x), .string (mk a), .slice ad len cap]] w2 fun e w' => e = .returned (.bool (ral k x a len)) ∧ Hid (Jg W w' L KB (n + 1) #[.int .i64 k, .string (mk x), .string (mk a), .slice ad len cap] ∧ Fr L w w')) :=
      (rightAlone_any hx ha hl (HTW.out.later H2.out.1.bl)).mono (fun e w' h => ⟨h.1, H2.out.1.later h.2, H2.out.2.trans (Fr.of h.2 H2.out.1.j.lt)⟩)
    obtain ⟨mp, HM⟩ : ∃ mp, Hid (mp = decide (k = 6)) := ⟨_, rfl⟩
    rw [← HM.out] at hF hT
    cases hra : ral k x a len
    · rw [hra] at HRA
      go_wp2_with (go_at_call 61; refine HRA.out.mono ?_; rintro e w3 ⟨rfl, H3⟩)
      go_ret
      first | exact ⟨false, rfl, hF.out _ (.inr (.inr (.inl hra))) H3.out.2⟩ | exact .inl ⟨rfl, hF.out _ (.inr (.inr (.inl hra))) H3.out.2⟩
    · rw [hra] at HRA
      go_wp2_with (go_at_call 61; refine HRA.out.mono ?_; rintro e w3 ⟨rfl, H3⟩; have e3 : w3.cell? ⟨KB, 3, none⟩ = some (.slice ad len cap) := H3.out.1.t.cell 3)
      have HA0 : Hid (alk f mp 0 ks (n + 1) = alk f mp 0 (ks.drop 0) (n + 1)) := rfl
      clear HRA g0 g1 g2 g3 g4 H2 e3
      go_loopw [37] (fun i wr => ∃ j m : Nat, j ≤ len ∧ i = .int .i64 j ∧ m ≤ 4096 ∧ Hid (Jg W wr L KB m #[.int .i64 k, .string (mk x), .string (mk a), .slice ad len cap] ∧ Fr L w wr) ∧ Hid (alk f mp 0 ks (n + 1) = alk f mp j (ks.drop j) m)) (fun i _ => len - (intOf i).toNat)
      case atStart => exact ⟨0, n + 1, Nat.zero_le _, rfl, by omega, H3, HA0⟩
      case round =>
        obtain ⟨j, m, hj, rfl, hm, HJ, HA⟩ := hrel
        clear H3 HA0
        by_cases hlt : j < len
        · have hlk : j < ks.length := by have := HK.out.1; omega
          obtain ⟨b, off, rfl, hb, hcell⟩ := HK.out.2 (by omega)
          obtain ⟨c0, c1, c2, c3, x0, x1, x2, x3, hx'⟩ := hcell j hlt
          replace x0 := (HJ.out.1.bl.cell (p := ⟨b, off + j * 4, none⟩) hb).trans x0
          replace x1 := (HJ.out.1.bl.cell (p := ⟨b, off + j * 4 + 1, none⟩) hb).trans x1
          replace x2 := (HJ.out.1.bl.cell (p := ⟨b, off + j * 4 + 2, none⟩) hb).trans x2
          replace x3 := (HJ.out.1.bl.cell (p := ⟨b, off + j * 4 + 3, none⟩) hb).trans x3
          have HV : Hid (TrV W d (.agg #[c0, c1, c2, c3]) (ks.getD j tr0)) := hx'
          obtain ⟨ad', len', cap', rfl, rfl, rfl, rfl⟩ := hx'.four
          clear hcell hx'
          have HPk : Hid (P (ks.getD j tr0)) := hP j hlk
          have HAT : Hid (alk f mp 0 ks (n + 1) = if (mp && decide (j % 2 = 0)) = true ∧ kyl (ks.getD j tr0).kind (ks.getD j tr0).anc = false then none else match f (ks.getD j tr0) m with | none => none | some n' => alk f mp (j + 1) (ks.drop (j + 1)) n') := HA.out.trans (alk_at f mp j ks m hlk)
          clear HA
          generalize ks.getD j tr0 = t' at x0 x1 x2 x3 HV HPk HAT
          obtain ⟨k', y', a', ks'⟩ := t'
          simp only at x0 x1 x2 x3 HV HAT
          have H4 : Hid (Jk W w (wr.alloc (.cells #[.int .i64 k', .string (mk y'), .string (mk a'), .slice ad' len' cap'] 29)) L KB wr.heap.size m #[.int .i64 k, .string (mk x), .string (mk a), .slice (some ⟨b, off, none⟩) len cap] #[.int .i64 k', .string (mk y'), .string (mk a'), .slice ad' len' cap']) := ⟨HJ.out.1.later (below_alloc _ _), HJ.out.2.trans (Fr.of (below_alloc _ _) HJ.out.1.j.lt), Bx.new _ _ _⟩
          go_upto_region 9 with fail
          generalize wr.alloc (.cells #[.int .i64 k', .string (mk y'), .string (mk a'), .slice ad' len' cap'] 29) = w4 at H4 ⊢
          generalize wr.heap.size = KK at H4 ⊢
          obtain ⟨q1, HQ1⟩ : ∃ q1, Hid (q1 = (mp && decide (j % 2 = 0))) := ⟨_, rfl⟩
          obtain ⟨q2, HQ2⟩ : ∃ q2, Hid (q2 = kyl k' a') := ⟨_, rfl⟩
          rw [← HQ1.out, ← HQ2.out] at HAT
          have HKP : Hid (∀ w', Hid (Jk W w w' L KB KK m #[.int .i64 k, .string (mk x), .string (mk a), .slice (some ⟨b, off, none⟩) len cap] #[.int .i64 k', .string (mk y'), .string (mk a'), .slice ad' len' cap']) → Calls Tryz.prog 62 #[.agg #[.int .i64 k, .string (mk x), .string (mk a), .slice (some ⟨b, off, none⟩) len cap], .int .i64 (j : Int)] w' fun e w'' => e = .returned (.bool q1) ∧ Hid (Jk W w w'' L KB KK m #[.int .i64 k, .string (mk x), .string (mk a), .slice (some ⟨b, off, none⟩) len cap] #[.int .i64 k', .string (mk y'), .string (mk a'), .slice ad' len' cap'])) := fun w' h => (isKeyPlace_any j (by omega)).mono (fun e w'' g => ⟨by rw [g.1, HQ1.out, HM.out], h.out.later g.2⟩)
          have HKY : Hid (∀ w', Hid (Jk W w w' L KB KK m #[.int .i64 k, .string (mk x), .string (mk a), .slice (some ⟨b, off, none⟩) len cap] #[.int .i64 k', .string (mk y'), .string (mk a'), .slice ad' len' cap']) → Calls Tryz.prog 63 #[.agg #[.int .i64 k', .string (mk y'), .string (mk a'), .slice ad' len' cap']] w' fun e w'' => e = .returned (.bool q2) ∧ Hid (Jk W w w'' L KB KK m #[.int .i64 k, .string (mk x), .string (mk a), .slice (some ⟨b, off, none⟩) len cap] #[.int .i64 k', .string (mk y'), .string (mk a'), .slice ad' len' cap'])) := fun w' h => isKey_any.mono (fun e w'' g => ⟨by rw [g.1, HQ2.out], h.out.later g.2⟩)
          have HAL : Hid (∀ w', Hid (Jk W w w' L KB KK m #[.int .i64 k, .string (mk x), .string (mk a), .slice (some ⟨b, off, none⟩) len cap] #[.int .i64 k', .string (mk y'), .string (mk a'), .slice ad' len' cap']) → Calls Tryz.prog 39 #[.pointer (some ⟨L, 0, none⟩), .agg #[.int .i64 k', .string (mk y'), .string (mk a'), .slice ad' len' cap'], .int .i64 (dd : Int)] w' fun e w'' => ∃ q : Bool, e = .returned (.bool q) ∧ Hid (q = (f ⟨k', y', a', ks'⟩ m).isSome ∧ Fr L w w'' ∧ ∀ n', f ⟨k', y', a', ks'⟩ m = some n' → n' ≤ 4096 ∧ Jg W w'' L KB n' #[.int .i64 k, .string (mk x), .string (mk a), .slice (some ⟨b, off, none⟩) len cap])) :=
            fun w' h => (HI.out (by omega) _ _ _ m HPk.out HV.out h.out.g.bl hm h.out.g.j).mono (fun e w'' ⟨q, g1, g2, g3, g4⟩ => ⟨q, g1, g2, h.out.f.trans g3, fun n' hn' => ⟨(g4 n' hn').1, h.out.g.fr g3 (g4 n' hn').2⟩⟩)
          have u0 : w4.cell? ⟨KB, 0, none⟩ = some (.int .i64 k) := H4.out.g.t.cell 0
          have u1 : w4.cell? ⟨KB, 1, none⟩ = some (.string (mk x)) := H4.out.g.t.cell 1
          have u2 : w4.cell? ⟨KB, 2, none⟩ = some (.string (mk a)) := H4.out.g.t.cell 2
          have u3 : w4.cell? ⟨KB, 3, none⟩ = some (.slice (some ⟨b, off, none⟩) len cap) := H4.out.g.t.cell 3
          clear HQ1 HQ2 HV HPk HJ x0 x1 x2 x3 HI
          cases q1
          · go_wp2_with (first | (go_at_call 62; refine (HKP.out _ H4).mono ?_; rintro e w5 ⟨rfl, H5⟩; have v0 : w5.cell? ⟨KK, 0, none⟩ = some (.int .i64 k') := H5.out.k.cell 0; have v1 : w5.cell? ⟨KK, 1, none⟩ = some (.string (mk y')) := H5.out.k.cell 1; have v2 : w5.cell? ⟨KK, 2, none⟩ = some (.string (mk a')) := H5.out.k.cell 2; have v3 : w5.cell? ⟨KK, 3, none⟩ = some (.slice ad' len' cap') := H5.out.k.cell 3) | (go_at_call 39; refine (HAL.out _ H5).mono ?_; rintro e w7 ⟨q, rfl, H7⟩; cases q))
            · have HN : f ⟨k', y', a', ks'⟩ m = none := by
                have := H7.out.1
                cases hf : f ⟨k', y', a', ks'⟩ m with
                | none => rfl
                | some v => rw [hf] at this; cases this
              have HE : alk f mp 0 ks (n + 1) = none := by rw [HAT.out, if_neg (fun h => Bool.noConfusion h.1), HN]
              go_ret
              first | exact ⟨false, rfl, hF.out _ (.inr (.inr (.inr (HE)))) H7.out.2.1⟩ | exact .inl ⟨rfl, hF.out _ (.inr (.inr (.inr (HE)))) H7.out.2.1⟩
            · obtain ⟨n', HN⟩ : ∃ n', Hid (f ⟨k', y', a', ks'⟩ m = some n') := by
                have := H7.out.1
                cases hf : f ⟨k', y', a', ks'⟩ m with
                | none => rw [hf] at this; cases this
                | some v => exact ⟨v, rfl⟩
              have HE : Hid (alk f mp 0 ks (n + 1) = alk f mp (j + 1) (ks.drop (j + 1)) n') := by show _ = _; rw [HAT.out, if_neg (fun h => Bool.noConfusion h.1), HN.out]
              go_roundw
              case rel => exact ⟨j + 1, n', by omega, by go_num, (H7.out.2.2 n' HN.out).1, ⟨(H7.out.2.2 n' HN.out).2, H7.out.2.1⟩, HE⟩
              case measure => simp [intOf]; omega
          · cases q2
            · go_wp2_with (first | (go_at_call 62; refine (HKP.out _ H4).mono ?_; rintro e w5 ⟨rfl, H5⟩; have v0 : w5.cell? ⟨KK, 0, none⟩ = some (.int .i64 k') := H5.out.k.cell 0; have v1 : w5.cell? ⟨KK, 1, none⟩ = some (.string (mk y')) := H5.out.k.cell 1; have v2 : w5.cell? ⟨KK, 2, none⟩ = some (.string (mk a')) := H5.out.k.cell 2; have v3 : w5.cell? ⟨KK, 3, none⟩ = some (.slice ad' len' cap') := H5.out.k.cell 3) | (go_at_call 63; refine (HKY.out _ H5).mono ?_; rintro e w6 ⟨rfl, H6⟩; have z0 : w6.cell? ⟨KK, 0, none⟩ = some (.int .i64 k') := H6.out.k.cell 0; have z1 : w6.cell? ⟨KK, 1, none⟩ = some (.string (mk y')) := H6.out.k.cell 1; have z2 : w6.cell? ⟨KK, 2, none⟩ = some (.string (mk a')) := H6.out.k.cell 2; have z3 : w6.cell? ⟨KK, 3, none⟩ = some (.slice ad' len' cap') := H6.out.k.cell 3))
              have HE : alk f mp 0 ks (n + 1) = none := HAT.out.trans (if_pos (by simp))
              go_ret
              first | exact ⟨false, rfl, hF.out _ (.inr (.inr (.inr (HE)))) H6.out.f⟩ | exact .inl ⟨rfl, hF.out _ (.inr (.inr (.inr (HE)))) H6.out.f⟩
            · go_wp2_with (first | (go_at_call 62; refine (HKP.out _ H4).mono ?_; rintro e w5 ⟨rfl, H5⟩; have v0 : w5.cell? ⟨KK, 0, none⟩ = some (.int .i64 k') := H5.out.k.cell 0; have v1 : w5.cell? ⟨KK, 1, none⟩ = some (.string (mk y')) := H5.out.k.cell 1; have v2 : w5.cell? ⟨KK, 2, none⟩ = some (.string (mk a')) := H5.out.k.cell 2; have v3 : w5.cell? ⟨KK, 3, none⟩ = some (.slice ad' len' cap') := H5.out.k.cell 3) | (go_at_call 63; refine (HKY.out _ H5).mono ?_; rintro e w6 ⟨rfl, H6⟩; have z0 : w6.cell? ⟨KK, 0, none⟩ = some (.int .i64 k') := H6.out.k.cell 0; have z1 : w6.cell? ⟨KK, 1, none⟩ = some (.string (mk y')) := H6.out.k.cell 1; have z2 : w6.cell? ⟨KK, 2, none⟩ = some (.string (mk a')) := H6.out.k.cell 2; have z3 : w6.cell? ⟨KK, 3, none⟩ = some (.slice ad' len' cap') := H6.out.k.cell 3) | (go_at_call 39; refine (HAL.out _ H6).mono ?_; rintro e w7 ⟨q, rfl, H7⟩; cases q))
              · have HN : f ⟨k', y', a', ks'⟩ m = none := by
                  have := H7.out.1
                  cases hf : f ⟨k', y', a', ks'⟩ m with
                  | none => rfl
                  | some v => rw [hf] at this; cases this
                have HE : alk f mp 0 ks (n + 1) = none := by rw [HAT.out, if_neg (fun h => Bool.noConfusion h.2), HN]
                go_ret
                first | exact ⟨false, rfl, hF.out _ (.inr (.inr (.inr (HE)))) H7.out.2.1⟩ | exact .inl ⟨rfl, hF.out _ (.inr (.inr (.inr (HE)))) H7.out.2.1⟩
              · obtain ⟨n', HN⟩ : ∃ n', Hid (f ⟨k', y', a', ks'⟩ m = some n') := by
                  have := H7.out.1
                  cases hf : f ⟨k', y', a', ks'⟩ m with
                  | none => rw [hf] at this; cases this
                  | some v => exact ⟨v, rfl⟩
                have HE : Hid (alk f mp 0 ks (n + 1) = alk f mp (j + 1) (ks.drop (j + 1)) n') := by show _ = _; rw [HAT.out, if_neg (fun h => Bool.noConfusion h.2), HN.out]
                go_roundw
                case rel => exact ⟨j + 1, n', by omega, by go_num, (H7.out.2.2 n' HN.out).1, ⟨(H7.out.2.2 n' HN.out).2, H7.out.2.1⟩, HE⟩
                case measure => simp [intOf]; omega
        · have HLE : Hid (len = ks.length) := HK.out.1
          have e : j = len := by omega
          subst e
          have HE : Hid (alk f mp 0 ks (n + 1) = some m) := by show _ = _; rw [HA.out, HLE.out, List.drop_length]; rfl
          go_wp2
          go_ret
          have G : R true wr := hT.out wr m (by omega) (by omega) (by first | rfl | exact hra) HE.out hm HJ.out.2 HJ.out.1.j
          first | exact ⟨true, rfl, G⟩ | exact .inr ⟨rfl, G⟩
theorem allows_any : ∀ (d : Nat) (v : Value) (t : Tr) (W w : World) (L deep n : Nat), bri 2147483648 d t → TrV W d v t → Below W.heap.size W w → Tb W → deep ≤ 64 → n ≤ 4096 → W.heap.size ≤ L → Bx w L #[.int .i64 (n : Int)] 99 →
    Calls Tryz.prog 39 #[.pointer (some ⟨L, 0, none⟩), v, .int .i64 (deep : Int)] w fun e w' => ∃ q : Bool, e = .returned (.bool q) ∧ q = (alw d deep t n).isSome ∧ Fr L w w' ∧ ∀ n', alw d deep t n = some n' → n' ≤ 4096 ∧ Bx w' L #[.int .i64 (n' : Int)] 99
  | 0, v, t, W, w, L, deep, n, hb, h, _, _, _, _, _, _ => h.elim
  | d + 1, v, t, W, w, L, deep, n, hbr, h, hb, hT, hd, hn, hWL, hJ => by
    obtain ⟨ad, len, cap, rfl, hl, hcp, hm, hz, hk⟩ := h
    obtain ⟨k, x, a, ks⟩ := t
    simp only at hl hz hk hbr
    obtain ⟨b1, b2, b3⟩ := hbr
    have m1 : maxLen = 9223372036854775807 := rfl
    refine allows_core k x a ad len cap W w L deep n d ks (by omega) b1 b2 ⟨hl, hk⟩ hb hT hd hn hWL hJ (fun k' m => alw d (if isLst ⟨k, x, a, ks⟩ = true then deep + 1 else deep) k' m) _ rfl (bri 2147483648 d) b3
      (fun hdd v t w n hp ht hb hn hj => allows_any d v t W w L _ n hp ht hb hT hdd hn hWL hj)
      (fun q w' => q = (alw (d + 1) deep ⟨k, x, a, ks⟩ n).isSome ∧ Fr L w w' ∧ ∀ n', alw (d + 1) deep ⟨k, x, a, ks⟩ n = some n' → n' ≤ 4096 ∧ Bx w' L #[.int .i64 (n' : Int)] 99) ?_ ?_
    · intro w' hc hf
      have e : alw (d + 1) deep ⟨k, x, a, ks⟩ n = none := by
        unfold alw
        rw [← hl]
        rcases hc with hc | hc | hc | hc
        · exact if_pos (.inl hc)
        · exact if_pos (.inr (.inl hc))
        · exact if_pos (.inr (.inr hc))
        · by_cases hq : n + 1 > 4096 ∨ (if isLst ⟨k, x, a, ks⟩ = true then deep + 1 else deep) > 64 ∨ ral k x a len = false
          · exact if_pos hq
          · exact (if_neg hq).trans hc
      rw [e]
      exact ⟨rfl, hf, fun n' h => nomatch h⟩
    · intro w' n' h1 h2 h3 h4 h5 hf hj
      have e : alw (d + 1) deep ⟨k, x, a, ks⟩ n = some n' := by
        unfold alw
        rw [← hl, if_neg (by rw [h3]; intro h; rcases h with h | h | h <;> first | omega | exact Bool.noConfusion h)]
        exact h4
      rw [e]
      exact ⟨rfl, hf, fun m hm => by cases hm; exact ⟨h5, hj⟩⟩
end Go.Proofs.YtaphijgbebhdlaaGreatDoor.Flw
end

section
/- flow.Right, by its contract. -/
namespace Go.Proofs.YtaphijgbebhdlaaGreatDoor.Flw
open Utf Rws Pln
open Go.RowKit
set_option linter.unusedSimpArgs false
set_option linter.unusedVariables false
set_option maxRecDepth 100000
set_option maxHeartbeats 4000000

/-- may a tree be? -/
def rgh (d : Nat) (t : Tr) : Bool := (alw d 0 t 0).isSome
theorem TrV.open4 {w : World} {d : Nat} {v : Value} {t : Tr} (h : TrV w d v t) : ∃ (ad : Option Addr) (len cap : Nat), v = tv t.kind t.text t.anc ad len cap := by
  cases d with
  | zero => exact h.elim
  | succ d =>
    obtain ⟨ad, len, cap, e, _⟩ := h
    exact ⟨ad, len, cap, e⟩
theorem right_big {d : Nat} {v : Value} {t : Tr} {w : World} (hb : bri 2147483648 d t) (h : TrV w d v t) (hT : Tb w) : Calls Tryz.prog 24 #[v] w fun e w' => e = .returned (.bool (rgh d t)) ∧ Below w.heap.size w w' := by
  obtain ⟨ad, len, cap, hv⟩ := h.open4
  have HC : Hid (∀ c, Calls Tryz.prog 39 #[.pointer (some ⟨w.heap.size + 1, 0, none⟩), v, .int .i64 0] ((w.alloc (.cells c 29)).alloc (.cells #[.int .i64 0] 99)) fun e w' => e = .returned (.bool (rgh d t)) ∧ Hid (Below w.heap.size w w')) := fun c => by
    have b1 := below_alloc w (.cells c 29)
    have s1 : (w.alloc (.cells c 29)).heap.size = w.heap.size + 1 := World.size_alloc _ _
    have b2 := below_alloc (w.alloc (.cells c 29)) (.cells #[.int .i64 0] 99)
    have b3 := b1.trans (b2.mono (by omega))
    have n1 := Bx.new (w.alloc (.cells c 29)) #[.int .i64 0] 99
    rw [s1] at n1
    exact (allows_any d v t w _ (w.heap.size + 1) 0 0 hb h b3 hT (by omega) (by omega) (by omega) n1).mono (fun e w' ⟨q, h1, h2, h3, h4⟩ => ⟨by rw [h1, h2]; rfl, b3.trans (h3.1.mono (by omega))⟩)
  generalize rgh d t = q at HC ⊢
  clear hb h hT
  subst hv
  generalize t.kind = k at *
  generalize t.text = x at *
  generalize t.anc = a at *
  go_enter Tryz.func24, Tryz.ntmps24
  go_wp2_with (go_at_call 39; refine (HC.out _).mono ?_; rintro e w1 ⟨rfl, H1⟩)
  go_ret
  exact ⟨rfl, H1.out⟩
theorem right_any {d : Nat} {v : Value} {t : Tr} {w : World} (hb : brief d t) (h : TrV w d v t) (hT : Tb w) : Calls Tryz.prog 24 #[v] w fun e w' => e = .returned (.bool (rgh d t)) ∧ Below w.heap.size w w' := right_big (bri.mono (by decide) hb) h hT
end Go.Proofs.YtaphijgbebhdlaaGreatDoor.Flw
end

section
/- what allows tells is what the model says: rgt and cntT. -/
namespace Go.Proofs.YtaphijgbebhdlaaGreatDoor.Flw
open Utf Rws Pln
open Go.RowKit
set_option linter.unusedSimpArgs false
set_option linter.unusedVariables false

theorem knd_2 (s : Ln) : (decide (knd s = 2)) = (s == [116, 114, 117, 101] || s == [102, 97, 108, 115, 101]) := by
  unfold knd
  split
  · rename_i h
    simp only [Bool.or_eq_true, beq_iff_eq] at h
    rcases h with (h | h) | h <;> subst h <;> decide
  · split
    · rename_i h; rw [h]; rfl
    · rename_i h
      rw [Bool.not_eq_true] at h
      rw [h]
      split <;> rfl
theorem rtx_txt (k : Int) (s : Ln) : rtx k s = (decide (1 ≤ k) && decide (k ≤ 7) && txt k s) := by
  unfold rtx txt
  by_cases h1 : k = 1 ∨ k = 5 ∨ k = 6 ∨ k = 7
  · rw [if_pos h1]
    rcases h1 with rfl | rfl | rfl | rfl <;> simp
  rw [if_neg h1]
  by_cases h2 : k = 2
  · subst h2; rw [if_pos (.inl rfl), if_pos rfl, knd_2]; rfl
  by_cases h3 : k = 3
  · subst h3; rw [if_pos (.inr rfl), if_neg h2, if_pos rfl]; rfl
  by_cases h4 : k = 4
  · subst h4; rw [if_neg (by omega), if_pos rfl, if_neg h2, if_neg h3, if_pos rfl]; rfl
  rw [if_neg (by omega), if_neg h4]
  by_cases h5 : 1 ≤ k
  · rw [decide_eq_false (show ¬ k ≤ 7 by omega), Bool.and_false, Bool.false_and]
  · rw [decide_eq_false h5, Bool.false_and, Bool.false_and]
theorem ran_eq (k : Int) (a : Ln) : ran k a = ((a == [] && !decide (k = 7)) || isName a) := by
  unfold ran
  by_cases h : a = []
  · subst h; rw [if_pos rfl]; simp [isName]
  · rw [if_neg h]; simp [h]
theorem rstep_ral (inner : Option (Tr → Bool)) (t : Tr) : rstep inner t = true ↔ ral t.kind t.text t.anc t.kids.length = true ∧ (isLst t = true → ∃ v, inner = some v ∧ (t.kind = 6 → keysOk 0 t.kids = true) ∧ ∀ k ∈ t.kids, v k = true) := by
  constructor
  · intro h
    obtain ⟨h1, h2, h3, h4, h5, h6⟩ := rstep_inv h
    constructor
    · unfold ral
      rw [rtx_txt, ran_eq, decide_eq_true h1, decide_eq_true h2, h4]
      have e1 : ((t.anc == [] && !decide (t.kind = 7)) || isName t.anc) = true := by
        rcases h3 with ⟨e, f⟩ | e
        · rw [e]; simp [f]
        · rw [e, Bool.or_true]
      have e2 : rct t.kind t.kids.length = true := by
        unfold rct
        by_cases c5 : t.kind = 5
        · rw [if_pos c5]
        by_cases c6 : t.kind = 6
        · rw [if_neg c5, if_pos c6]
          obtain ⟨v, _, hm, _⟩ := h6 (.inr c6)
          simpa using (hm c6).1
        · rw [if_neg c5, if_neg c6, h5 ⟨c5, c6⟩]; rfl
      rw [e1, e2]; rfl
    · intro hl
      unfold isLst at hl
      simp only [Bool.or_eq_true, decide_eq_true_eq] at hl
      obtain ⟨v, e, hm, hk⟩ := h6 hl
      exact ⟨v, e, fun c => (hm c).2, hk⟩
  · rintro ⟨h1, h2⟩
    unfold ral at h1
    rw [rtx_txt, ran_eq] at h1
    simp only [Bool.and_eq_true, decide_eq_true_eq] at h1
    obtain ⟨⟨⟨⟨a1, a2⟩, a3⟩, a4⟩, a5⟩ := h1
    unfold rstep
    rw [decide_eq_true a1, decide_eq_true a2, a3, a4]
    unfold rct at a5
    unfold isLst at h2
    by_cases c : t.kind ≠ 5 ∧ t.kind ≠ 6
    · rw [if_neg c.1, if_neg c.2] at a5
      rw [if_pos c]
      have : t.kids = [] := by simpa using a5
      rw [this]; rfl
    · rw [if_neg c]
      obtain ⟨v, e, hm, hk⟩ := h2 (by simp only [Bool.or_eq_true, decide_eq_true_eq]; omega)
      subst e
      have hall : t.kids.all v = true := List.all_eq_true.2 hk
      simp only [hall, Bool.true_and, Bool.and_true]
      by_cases c6 : t.kind = 6
      · rw [if_neg (by omega), if_pos c6] at a5
        have a6 : t.kids.length % 2 = 0 := by simpa using a5
        rw [hm c6, a6]; simp
      · simp [c6]
theorem alk_sound {f : Tr → Nat → Option Nat} {mp : Bool} {c : Tr → Nat} {v : Tr → Bool} : ∀ (ks : List Tr) (i n n' : Nat), (∀ k ∈ ks, ∀ m m', f k m = some m' → v k = true ∧ m' = m + c k ∧ m' ≤ 4096) → n ≤ 4096 → alk f mp i ks n = some n' →
    (mp = true → keysOk i ks = true) ∧ (∀ k ∈ ks, v k = true) ∧ n' = n + (ks.map c).sum ∧ n' ≤ 4096
  | [], i, n, n', _, hn, h => by
    cases h
    exact ⟨fun _ => rfl, fun k h => (nomatch h), by simp, hn⟩
  | k :: ks, i, n, n', hf, hn, h => by
    unfold alk at h
    by_cases hc : (mp && decide (i % 2 = 0)) = true ∧ kyl k.kind k.anc = false
    · rw [if_pos hc] at h; cases h
    rw [if_neg hc] at h
    cases e : f k n with
    | none => rw [e] at h; cases h
    | some m =>
      rw [e] at h
      obtain ⟨v1, v2, v3⟩ := hf k (List.mem_cons_self ..) n m e
      obtain ⟨w1, w2, w3, w4⟩ := alk_sound ks (i + 1) m n' (fun k' hk => hf k' (List.mem_cons_of_mem _ hk)) v3 h
      refine ⟨fun hm => ?_, ?_, ?_, w4⟩
      · unfold keysOk
        rw [w1 hm, Bool.and_true]
        by_cases h2 : i % 2 = 0
        · have : isKey k = true := by
            cases h3 : isKey k
            · exact absurd ⟨by rw [hm, decide_eq_true h2]; rfl, h3⟩ hc
            · rfl
          rw [this, Bool.or_true]
        · simp [h2]
      · intro k' hk
        rcases List.mem_cons.1 hk with e | hk
        · subst e; exact v1
        · exact w2 k' hk
      · rw [w3, v2, List.map_cons, List.sum_cons]; omega
theorem alk_full {f : Tr → Nat → Option Nat} {mp : Bool} {c : Tr → Nat} : ∀ (ks : List Tr) (i n : Nat), (∀ k ∈ ks, ∀ m, m + c k ≤ 4096 → f k m = some (m + c k)) → (mp = true → keysOk i ks = true) → n + (ks.map c).sum ≤ 4096 → alk f mp i ks n = some (n + (ks.map c).sum)
  | [], i, n, _, _, _ => by simp [alk]
  | k :: ks, i, n, hf, hk, hn => by
    rw [List.map_cons, List.sum_cons] at hn ⊢
    have hc : ¬ ((mp && decide (i % 2 = 0)) = true ∧ kyl k.kind k.anc = false) := by
      rintro ⟨h1, h2⟩
      simp only [Bool.and_eq_true, decide_eq_true_eq] at h1
      have := hk h1.1
      unfold keysOk at this
      rw [show isKey k = false from h2] at this
      simp [h1.2] at this
    unfold alk
    rw [if_neg hc, hf k (List.mem_cons_self ..) n (by omega)]
    have := alk_full (f := f) (mp := mp) (c := c) ks (i + 1) (n + c k) (fun k' hk => hf k' (List.mem_cons_of_mem _ hk)) (fun hm => by have := hk hm; unfold keysOk at this; simp only [Bool.and_eq_true] at this; exact this.2) (by omega)
    show alk f mp (i + 1) ks (n + c k) = _
    rw [this]
    congr 1
    omega
theorem kids_nil {t : Tr} (h : ral t.kind t.text t.anc t.kids.length = true) (hl : ¬ isLst t = true) : t.kids = [] := by
  unfold ral rct at h
  unfold isLst at hl
  simp only [Bool.or_eq_true, decide_eq_true_eq, not_or] at hl
  rw [if_neg hl.1, if_neg hl.2] at h
  simp only [Bool.and_eq_true, decide_eq_true_eq] at h
  exact List.length_eq_zero_iff.1 h.2
theorem cnt_one (m : Nat) (t : Tr) (h : t.kids = []) : cntT m t = 1 := by
  cases m with
  | zero => rfl
  | succ m => unfold cntT; rw [h]; rfl
theorem alw_sound : ∀ (m : Nat) (t : Tr) (deep n d n' : Nat), deep + m = 64 → alw d deep t n = some n' → rgt m t = true ∧ n' = n + cntT m t ∧ n' ≤ 4096 := by
  intro m
  induction m with
  | zero =>
    intro t deep n d n' hd h
    cases d with
    | zero => cases h
    | succ d =>
      unfold alw at h
      by_cases hc : n + 1 > 4096 ∨ (if isLst t = true then deep + 1 else deep) > 64 ∨ ral t.kind t.text t.anc t.kids.length = false
      · rw [if_pos hc] at h; cases h
      rw [if_neg hc] at h
      simp only [not_or, Bool.not_eq_false] at hc
      have hl : ¬ isLst t = true := fun e => by rw [if_pos e] at hc; omega
      have hk := kids_nil hc.2.2 hl
      rw [hk] at h
      cases h
      exact ⟨(rstep_ral none t).2 ⟨hc.2.2, fun e => absurd e hl⟩, by rw [cnt_one _ _ hk], by omega⟩
  | succ m ih =>
    intro t deep n d n' hd h
    cases d with
    | zero => cases h
    | succ d =>
      unfold alw at h
      by_cases hc : n + 1 > 4096 ∨ (if isLst t = true then deep + 1 else deep) > 64 ∨ ral t.kind t.text t.anc t.kids.length = false
      · rw [if_pos hc] at h; cases h
      rw [if_neg hc] at h
      simp only [not_or, Bool.not_eq_false] at hc
      by_cases hl : isLst t = true
      · rw [if_pos hl] at h
        obtain ⟨a1, a2, a3, a4⟩ := alk_sound (c := fun k => cntT m k) (v := fun k => rgt m k) t.kids 0 (n + 1) n' (fun k hk x x' hx => ih k (deep + 1) x d x' (by omega) hx) (by omega) h
        refine ⟨(rstep_ral _ t).2 ⟨hc.2.2, fun _ => ⟨_, rfl, fun c => a1 (decide_eq_true c), a2⟩⟩, ?_, a4⟩
        rw [a3]; show _ = n + (1 + _); omega
      · have hk := kids_nil hc.2.2 hl
        rw [hk] at h
        cases h
        exact ⟨(rstep_ral _ t).2 ⟨hc.2.2, fun e => absurd e hl⟩, by rw [cnt_one _ _ hk], by omega⟩
theorem alw_full : ∀ (m : Nat) (t : Tr) (deep n d : Nat), deep + m = 64 → rgt m t = true → n + cntT m t ≤ 4096 → m < d → alw d deep t n = some (n + cntT m t) := by
  intro m
  induction m with
  | zero =>
    intro t deep n d hd h hn hm
    obtain ⟨d, rfl⟩ : ∃ e, d = e + 1 := ⟨d - 1, by omega⟩
    obtain ⟨h1, h2⟩ := (rstep_ral none t).1 h
    have hl : ¬ isLst t = true := fun e => by obtain ⟨v, e, _⟩ := h2 e; cases e
    have hk := kids_nil h1 hl
    rw [cnt_one _ _ hk] at hn ⊢
    unfold alw
    rw [if_neg (by rw [if_neg hl, h1]; intro h; rcases h with h | h | h <;> first | omega | exact Bool.noConfusion h), hk]
    rfl
  | succ m ih =>
    intro t deep n d hd h hn hm
    obtain ⟨d, rfl⟩ : ∃ e, d = e + 1 := ⟨d - 1, by omega⟩
    obtain ⟨h1, h2⟩ := (rstep_ral _ t).1 h
    by_cases hl : isLst t = true
    · obtain ⟨v, e, hm6, hv⟩ := h2 hl
      cases e
      have e1 : cntT (m + 1) t = 1 + (t.kids.map fun k => cntT m k).sum := rfl
      rw [e1] at hn ⊢
      unfold alw
      rw [if_neg (by rw [if_pos hl, h1]; intro h; rcases h with h | h | h <;> first | omega | exact Bool.noConfusion h), if_pos hl]
      have := alk_full (f := fun k x => alw d (deep + 1) k x) (mp := decide (t.kind = 6)) (c := fun k => cntT m k) t.kids 0 (n + 1) (fun k hk x hx => ih k (deep + 1) x d (by omega) (hv k hk) hx (by omega)) (fun c => hm6 (of_decide_eq_true c)) (by omega)
      rw [this]
      congr 1
      omega
    · have hk := kids_nil h1 hl
      rw [cnt_one _ _ hk] at hn ⊢
      unfold alw
      rw [if_neg (by rw [if_neg hl, h1]; intro h; rcases h with h | h | h <;> first | omega | exact Bool.noConfusion h), hk]
      rfl
theorem rgh_iff {d : Nat} (hd : 64 < d) (t : Tr) : rgh d t = (rgt 64 t && decide (cntT 64 t ≤ 4096)) := by
  unfold rgh
  cases e : alw d 0 t 0 with
  | some n =>
    obtain ⟨h1, h2, h3⟩ := alw_sound 64 t 0 0 d n (by omega) e
    rw [h1, decide_eq_true (by omega)]; rfl
  | none =>
    cases h1 : rgt 64 t
    · rfl
    by_cases h2 : cntT 64 t ≤ 4096
    · rw [alw_full 64 t 0 0 d (by omega) h1 (by omega) hd] at e; cases e
    · rw [decide_eq_false h2]; rfl
end Go.Proofs.YtaphijgbebhdlaaGreatDoor.Flw
end
