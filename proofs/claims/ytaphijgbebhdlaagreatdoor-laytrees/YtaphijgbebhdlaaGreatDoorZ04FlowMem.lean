/- Several texts as one: FlowMem, FlowRnameP. -/
import Derived.Test.YtaphijgbebhdlaaGreatDoorRows
import Derived.Test.YtaphijgbebhdlaaGreatDoorZ01RowsPlain
import Derived.WalkKit
import Derived.WalkSpells
import Derived.WalkLawsBesides
import Derived.BigQuiet
import Derived.Deep.QuietTactic
import Derived.Laws.BitsAllLaws
section
/- A tree in memory. -/
namespace Go.Proofs.YtaphijgbebhdlaaGreatDoor.Flw
open Utf Rws Pln
open Go.RowKit
set_option linter.unusedSimpArgs false
set_option linter.unusedVariables false
set_option maxRecDepth 100000

/-- a tree's value, d within one another at the most -/
def TrV (w : World) : Nat → Value → Tr → Prop
  | 0, _, _ => False
  | d + 1, v, t => ∃ ad len cap, v = .agg #[.int .i64 t.kind, .string (mk t.text), .string (mk t.anc), .slice ad len cap] ∧ len = t.kids.length ∧ len ≤ cap ∧ cap ≤ maxLen ∧ (-9223372036854775808 ≤ t.kind ∧ t.kind ≤ 9223372036854775807 ∧ t.text.length ≤ 9223372036854775807 ∧ t.anc.length ≤ 9223372036854775807) ∧
      (0 < len → ∃ b off, ad = some ⟨b, off, none⟩ ∧ b < w.heap.size ∧ ∀ i, i < len → ∃ c0 c1 c2 c3, w.cell? ⟨b, off + i * 4, none⟩ = some c0 ∧ w.cell? ⟨b, off + i * 4 + 1, none⟩ = some c1 ∧
        w.cell? ⟨b, off + i * 4 + 2, none⟩ = some c2 ∧ w.cell? ⟨b, off + i * 4 + 3, none⟩ = some c3 ∧ TrV w d (.agg #[c0, c1, c2, c3]) (t.kids.getD i tr0))
theorem TrV.later {w w' : World} {B : Nat} (hb : Below B w w') (hB : w.heap.size ≤ B) : ∀ {d : Nat} {v : Value} {t : Tr}, TrV w d v t → TrV w' d v t
  | 0, v, t, h => h
  | d + 1, v, t, h => by
    obtain ⟨ad, len, cap, rfl, hl, hc, hm, hz, hk⟩ := h
    refine ⟨ad, len, cap, rfl, hl, hc, hm, hz, fun hp => ?_⟩
    obtain ⟨b, off, ha, hlt, hcell⟩ := hk hp
    have hbB : b < B := Nat.lt_of_lt_of_le hlt hB
    refine ⟨b, off, ha, Nat.lt_of_lt_of_le hlt hb.size, fun i hi => ?_⟩
    obtain ⟨c0, c1, c2, c3, h0, h1, h2, h3, ht⟩ := hcell i hi
    exact ⟨c0, c1, c2, c3, (hb.cell (p := ⟨b, off + i * 4, none⟩) hbB).trans h0, (hb.cell (p := ⟨b, off + i * 4 + 1, none⟩) hbB).trans h1, (hb.cell (p := ⟨b, off + i * 4 + 2, none⟩) hbB).trans h2,
      (hb.cell (p := ⟨b, off + i * 4 + 3, none⟩) hbB).trans h3, TrV.later hb hB ht⟩
theorem TrV.more {w : World} : ∀ {d d' : Nat} {v : Value} {t : Tr}, TrV w d v t → d ≤ d' → TrV w d' v t
  | 0, d', v, t, h, hd => h.elim
  | d + 1, d', v, t, h, hd => by
    obtain ⟨e, rfl⟩ : ∃ e, d' = e + 1 := ⟨d' - 1, by omega⟩
    obtain ⟨ad, len, cap, rfl, hl, hc, hm, hz, hk⟩ := h
    refine ⟨ad, len, cap, rfl, hl, hc, hm, hz, fun hp => ?_⟩
    obtain ⟨b, off, ha, hlt, hcell⟩ := hk hp
    refine ⟨b, off, ha, hlt, fun i hi => ?_⟩
    obtain ⟨c0, c1, c2, c3, h0, h1, h2, h3, ht⟩ := hcell i hi
    exact ⟨c0, c1, c2, c3, h0, h1, h2, h3, TrV.more ht (by omega)⟩
theorem beq_mk (a b : Ln) : ((mk a).toList == (mk b).toList) = (a == b) := by
  rw [ByteArray.toList_eq, ByteArray.toList_eq, mk_data, mk_data]
/-- the kids of a tree in memory -/
def KAt (w : World) (d : Nat) (ad : Option Addr) (len : Nat) (ks : List Tr) : Prop :=
  len = ks.length ∧ (0 < len → ∃ b off, ad = some ⟨b, off, none⟩ ∧ b < w.heap.size ∧ ∀ i, i < len → ∃ c0 c1 c2 c3, w.cell? ⟨b, off + i * 4, none⟩ = some c0 ∧ w.cell? ⟨b, off + i * 4 + 1, none⟩ = some c1 ∧
        w.cell? ⟨b, off + i * 4 + 2, none⟩ = some c2 ∧ w.cell? ⟨b, off + i * 4 + 3, none⟩ = some c3 ∧ TrV w d (.agg #[c0, c1, c2, c3]) (ks.getD i tr0))
theorem TrV.cells {w : World} {d : Nat} {c0 c1 c2 c3 : Value} {t : Tr} (h : TrV w d (.agg #[c0, c1, c2, c3]) t) : ∃ (k : Int) (s a : ByteArray) (ad : Option Addr) (len cap : Nat), c0 = .int .i64 k ∧ c1 = .string s ∧ c2 = .string a ∧ c3 = .slice ad len cap := by
  cases d with
  | zero => exact h.elim
  | succ d =>
    obtain ⟨ad, len, cap, e, _⟩ := h
    simp only [Value.agg.injEq, Array.mk.injEq, List.cons.injEq, and_true] at e
    exact ⟨_, _, _, ad, len, cap, e.1, e.2.1, e.2.2.1, e.2.2.2⟩
end Go.Proofs.YtaphijgbebhdlaaGreatDoor.Flw
end

section
/- Letters of names: plain facts. -/
namespace Go.Proofs.YtaphijgbebhdlaaGreatDoor.Flw
open Utf Rws Pln
open Go.RowKit
set_option linter.unusedSimpArgs false
set_option linter.unusedVariables false
set_option maxRecDepth 100000

theorem letter_num {c : UInt8} {x : Nat} (hx : x = c.toNat) : letter c = (decide (97 ≤ x ∧ x ≤ 122) || decide (65 ≤ x ∧ x ≤ 90) || decide (48 ≤ x ∧ x ≤ 57) || decide (x = 45) || decide (x = 95)) := by
  subst hx
  unfold letter
  have e1 : (c == 45) = decide (c.toNat = 45) := by
    rw [Bool.eq_iff_iff, beq_iff_eq, decide_eq_true_eq]
    exact ⟨fun h => by rw [h]; rfl, fun h => UInt8.toNat_inj.1 h⟩
  have e2 : (c == 95) = decide (c.toNat = 95) := by
    rw [Bool.eq_iff_iff, beq_iff_eq, decide_eq_true_eq]
    exact ⟨fun h => by rw [h]; rfl, fun h => UInt8.toNat_inj.1 h⟩
  rw [e1, e2]
  simp only [Bool.decide_and]
theorem all_take (l : Ln) (n : Nat) (h : n < l.length) : (l.take (n + 1)).all letter = ((l.take n).all letter && letter (l.getD n 0)) := by
  rw [List.take_add_one, List.getElem?_eq_getElem h, List.getD_eq_getElem?_getD, List.getElem?_eq_getElem h, List.all_append]
  simp
theorem all_hit (l : Ln) (n : Nat) (h : n < l.length) (hn : letter (l.getD n 0) = false) : isName l = false := by
  unfold isName
  have : l.all letter = false := by
    rw [List.all_eq_false]
    refine ⟨l[n], List.getElem_mem h, ?_⟩
    rw [List.getD_eq_getElem?_getD, List.getElem?_eq_getElem h] at hn
    simpa using hn
  rw [this]
  rfl
theorem getD_mk (l : Ln) (n : Nat) (h : n < (mk l).size) : (mk l)[n]'h = l.getD n 0 := by
  have h' : n < l.length := by rw [mk_size] at h; exact h
  rw [List.getD_eq_getElem?_getD, List.getElem?_eq_getElem h']
  rfl
end Go.Proofs.YtaphijgbebhdlaaGreatDoor.Flw
end
