/- Graphs in memory, and package graph's smallest functions, by their contracts. -/
import Derived.Test.YtkggdjghjdakoaaGreatDoorFlowRgt
import Derived.Test.YtkggdjghjdakoaaGreatDoorGraphPlain2
namespace Go.Proofs.YtkggdjghjdakoaaGreatDoor.Grp
open Utf Rws Pln Flw
open Go.RowKit
set_option linter.unusedSimpArgs false
set_option linter.unusedVariables false
set_option maxRecDepth 100000
set_option maxHeartbeats 4000000
variable {w : World}

structure Nd where
  kind : Int
  text : Ln
  kids : List Int
structure Gr where
  nodes : List Nd
  root : Int
def nd0 : Nd := ⟨0, [], []⟩
abbrev i64 (a : Int) : Prop := -9223372036854775808 ≤ a ∧ a ≤ 9223372036854775807
abbrev gv (ad : Option Addr) (len cap : Nat) (r : Int) : Value := .agg #[.slice ad len cap, .int .i64 r]
abbrev nv (k : Int) (x : Ln) (ad : Option Addr) (len cap : Nat) : Value := .agg #[.int .i64 k, .string (mk x), .slice ad len cap]
/-- ints in memory -/
def IAt (w : World) (ad : Option Addr) (len : Nat) (l : List Int) : Prop :=
  len = l.length ∧ (0 < len → ∃ b off, ad = some ⟨b, off, none⟩ ∧ b < w.heap.size ∧ ∀ i, i < len → i64 (l.getD i 0) ∧ w.cell? ⟨b, off + i, none⟩ = some (.int .i64 (l.getD i 0)))
theorem IAt.later {w w' : World} {B : Nat} (hb : Below B w w') (hB : w.heap.size ≤ B) {ad : Option Addr} {len : Nat} {l : List Int} (h : IAt w ad len l) : IAt w' ad len l := by
  refine ⟨h.1, fun hp => ?_⟩
  obtain ⟨b, off, ha, hlt, hc⟩ := h.2 hp
  exact ⟨b, off, ha, Nat.lt_of_lt_of_le hlt hb.size, fun i hi => ⟨(hc i hi).1, (hb.cell (p := ⟨b, off + i, none⟩) (Nat.lt_of_lt_of_le hlt hB)).trans (hc i hi).2⟩⟩
/-- a node's value -/
def NdV (w : World) (v : Value) (n : Nd) : Prop := ∃ ad len cap, v = nv n.kind n.text ad len cap ∧ len ≤ cap ∧ cap ≤ maxLen ∧ i64 n.kind ∧ n.text.length ≤ 9223372036854775807 ∧ IAt w ad len n.kids
theorem NdV.later {w w' : World} {B : Nat} (hb : Below B w w') (hB : w.heap.size ≤ B) {v : Value} {n : Nd} (h : NdV w v n) : NdV w' v n := by
  obtain ⟨ad, len, cap, e, h1, h2, h3, h4, h5⟩ := h
  exact ⟨ad, len, cap, e, h1, h2, h3, h4, h5.later hb hB⟩
theorem NdV.three {w : World} {c0 c1 c2 : Value} {n : Nd} (h : NdV w (.agg #[c0, c1, c2]) n) : ∃ (ad : Option Addr) (len cap : Nat), c0 = .int .i64 n.kind ∧ c1 = .string (mk n.text) ∧ c2 = .slice ad len cap := by
  obtain ⟨ad, len, cap, e, _⟩ := h
  simp only [Value.agg.injEq, Array.mk.injEq, List.cons.injEq, and_true] at e
  exact ⟨ad, len, cap, e.1, e.2.1, e.2.2⟩
/-- nodes in memory -/
def NAt (w : World) (ad : Option Addr) (len : Nat) (ns : List Nd) : Prop :=
  len = ns.length ∧ (0 < len → ∃ b off, ad = some ⟨b, off, none⟩ ∧ b < w.heap.size ∧ ∀ i, i < len → ∃ kad klen kcap, klen ≤ kcap ∧ kcap ≤ maxLen ∧ i64 (ns.getD i nd0).kind ∧ (ns.getD i nd0).text.length ≤ 9223372036854775807 ∧ IAt w kad klen (ns.getD i nd0).kids ∧
    w.cell? ⟨b, off + i * 3, none⟩ = some (.int .i64 (ns.getD i nd0).kind) ∧ w.cell? ⟨b, off + i * 3 + 1, none⟩ = some (.string (mk (ns.getD i nd0).text)) ∧ w.cell? ⟨b, off + i * 3 + 2, none⟩ = some (.slice kad klen kcap))
theorem NAt.later {w w' : World} {B : Nat} (hb : Below B w w') (hB : w.heap.size ≤ B) {ad : Option Addr} {len : Nat} {l : List Nd} (h : NAt w ad len l) : NAt w' ad len l := by
  refine ⟨h.1, fun hp => ?_⟩
  obtain ⟨b, off, ha, hlt, hc⟩ := h.2 hp
  have hl := Nat.lt_of_lt_of_le hlt hB
  refine ⟨b, off, ha, Nat.lt_of_lt_of_le hlt hb.size, fun i hi => ?_⟩
  obtain ⟨kad, klen, kcap, h1, h2, h3, h4, h5, h6, h7, h8⟩ := hc i hi
  exact ⟨kad, klen, kcap, h1, h2, h3, h4, h5.later hb hB, (hb.cell (p := ⟨b, off + i * 3, none⟩) hl).trans h6, (hb.cell (p := ⟨b, off + i * 3 + 1, none⟩) hl).trans h7, (hb.cell (p := ⟨b, off + i * 3 + 2, none⟩) hl).trans h8⟩
/-- a graph's value -/
def GrV (w : World) (v : Value) (g : Gr) : Prop := ∃ ad len cap, v = gv ad len cap g.root ∧ len ≤ cap ∧ cap ≤ maxLen ∧ i64 g.root ∧ NAt w ad len g.nodes
theorem GrV.later {w w' : World} {B : Nat} (hb : Below B w w') (hB : w.heap.size ≤ B) {v : Value} {g : Gr} (h : GrV w v g) : GrV w' v g := by
  obtain ⟨ad, len, cap, e, h1, h2, h3, h4⟩ := h
  exact ⟨ad, len, cap, e, h1, h2, h3, h4.later hb hB⟩

def isP (n : Nat) (a : Int) : Bool := decide (0 ≤ a) && decide (a < (n : Int))
theorem isPlace_any {ad : Option Addr} {len cap : Nat} {r a : Int} (hl : len ≤ 9223372036854775807) : Calls Tryz.prog 17 #[gv ad len cap r, .int .i64 a] w fun e w' => e = .returned (.bool (isP len a)) ∧ Below w.heap.size w w' := by
  have HV : Hid (isP len a = (decide (0 ≤ a) && decide (a < (len : Int)))) := rfl
  generalize isP len a = R at *
  by_cases h0 : 0 ≤ a
  · by_cases h1 : a < (len : Int)
    · go_enter Tryz.func17, Tryz.ntmps17
      go_wp2
      go_ret
      exact ⟨by rw [HV.out, decide_eq_true h0, decide_eq_true h1]; rfl, below_alloc _ _⟩
    · go_enter Tryz.func17, Tryz.ntmps17
      go_wp2
      go_ret
      exact ⟨by rw [HV.out, decide_eq_true h0, decide_eq_false (show ¬ a < (len : Int) by omega)]; rfl, below_alloc _ _⟩
  · go_enter Tryz.func17, Tryz.ntmps17
    go_wp2
    go_ret
    exact ⟨by rw [HV.out, decide_eq_false (show ¬ 0 ≤ a by omega)]; rfl, below_alloc _ _⟩
def sca (k : Int) : Bool := decide (1 ≤ k) && decide (k ≤ 4)
theorem isScalar_any {ad : Option Addr} {len cap : Nat} {k : Int} {x : Ln} : Calls Tryz.prog 33 #[nv k x ad len cap] w fun e w' => e = .returned (.bool (sca k)) ∧ Below w.heap.size w w' := by
  by_cases h : 1 ≤ k ∧ k ≤ 4
  · have HV : Hid (sca k = true) := by unfold sca; rw [decide_eq_true h.1, decide_eq_true h.2]; exact rfl
    have hk : k = 1 ∨ k = 2 ∨ k = 3 ∨ k = 4 := by omega
    clear h
    rcases hk with rfl | rfl | rfl | rfl <;>
    · go_enter Tryz.func33, Tryz.ntmps33
      go_wp2
      go_ret
      exact ⟨by rw [HV.out]; rfl, below_alloc _ _⟩
  · have HV : Hid (sca k = false) := by
      unfold sca
      by_cases h1 : 1 ≤ k
      · rw [decide_eq_false (show ¬ k ≤ 4 from fun h4 => h ⟨h1, h4⟩)]; simp [Hid]
      · rw [decide_eq_false h1]; exact rfl
    have e1 : (k == 1) = false := by simp; omega
    have e2 : (k == 2) = false := by simp; omega
    have e3 : (k == 3) = false := by simp; omega
    have e4 : (k == 4) = false := by simp; omega
    generalize sca k = R at *
    clear h
    go_enter Tryz.func33, Tryz.ntmps33
    go_wp2
    go_ret
    exact ⟨by rw [HV.out]; rfl, below_alloc _ _⟩
def kyP (k : Int) (i : Nat) : Bool := decide (k = 6) && decide (i % 2 = 0)
theorem kyPlace_any {k : Int} (i : Nat) (hi : i ≤ 9223372036854775807) : Calls Tryz.prog 34 #[.int .i64 k, .int .i64 (i : Int)] w fun e w' => e = .returned (.bool (kyP k i)) ∧ w = w' := by
  have HV : Hid (kyP k i = (decide (k = 6) && decide (i % 2 = 0))) := rfl
  generalize kyP k i = R at *
  by_cases h6 : k = 6
  · subst h6
    go_enter Tryz.func34, Tryz.ntmps34
    go_wp2
    go_ret
    refine ⟨?_, rfl⟩
    refine congrArg (fun q => Ending.returned (.bool q)) ?_
    rw [HV.out, Bool.eq_iff_iff]
    simp
    omega
  · have e6 : (k == 6) = false := by simpa using h6
    go_enter Tryz.func34, Tryz.ntmps34
    go_wp2
    go_ret
    exact ⟨by rw [HV.out, decide_eq_false h6]; rfl, rfl⟩
/-- may a node be alone? -/
def rAl (k : Int) (x : Ln) : Bool := rgh 1 ⟨k, x, [], []⟩
theorem leafV {k : Int} {x : Ln} (hk : i64 k) (hx : x.length ≤ 9223372036854775807) : TrV w 1 (.agg #[.int .i64 k, .string (mk x), .string ⟨#[]⟩, .slice none 0 0]) ⟨k, x, [], []⟩ :=
  ⟨none, 0, 0, rfl, rfl, Nat.le_refl _, Nat.zero_le _, ⟨hk.1, hk.2, hx, Nat.zero_le _⟩, fun h => absurd h (Nat.lt_irrefl _)⟩
theorem alone_any {ad : Option Addr} {len cap : Nat} {k : Int} {x : Ln} (hk : i64 k) (hx : x.length ≤ 2147483648) (hT : Tb w) : Calls Tryz.prog 18 #[nv k x ad len cap] w fun e w' => e = .returned (.bool (rAl k x)) ∧ Below w.heap.size w w' := by
  have b1 := below_alloc w (.cells #[.int .i64 k, .string (mk x), .slice ad len cap] 38)
  have HC : Hid (Calls Tryz.prog 32 #[.agg #[.int .i64 k, .string (mk x), .string ⟨#[]⟩, .slice none 0 0]] (w.alloc (.cells #[.int .i64 k, .string (mk x), .slice ad len cap] 38)) fun e w' => e = .returned (.bool (rAl k x)) ∧ Hid (Below w.heap.size w w')) :=
    (right_big (d := 1) (t := ⟨k, x, [], []⟩) ⟨hx, Nat.zero_le _, fun i hi => absurd hi (Nat.not_lt_zero _)⟩ (leafV hk (by omega)) (hT.later b1)).mono (fun e w' h => ⟨h.1, b1.trans (h.2.mono b1.size)⟩)
  generalize rAl k x = R at *
  clear hT b1
  go_enter Tryz.func18, Tryz.ntmps18
  go_wp2_with (go_at_call 32; refine HC.out.mono ?_; rintro e w1 ⟨rfl, H1⟩)
  go_ret
  exact ⟨rfl, H1.out⟩
end Go.Proofs.YtkggdjghjdakoaaGreatDoor.Grp
