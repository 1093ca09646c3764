/- Several texts as one: FlowCore, UtfConv, UtfEnc, UtfDec. -/
import Derived.Test.YtaphijgbebhdlaaGreatDoorV01RowsPlain
import Derived.Test.YtaphijgbebhdlaaGreatDoorV02UtfLeaf
import Derived.Test.YtaphijgbebhdlaaGreatDoorV04PlainEndY
import Derived.Deep.RegionWith
import Derived.Deep.Cut
import Derived.BigRegion
import Derived.BigQuiet
import Derived.Deep.QuietTactic
import Derived.Lib.SmallJoins
import Derived.Laws.BytesArg
import Derived.Test.YtaphijgbebhdlaaGreatDoorV00UtfPlain
section
/- Boxes in memory, regions that read and call, flow.Name and isList: what the readers of one line are not needed for. -/
namespace Go.Proofs.YtaphijgbebhdlaaGreatDoor.Flw
open Utf Rws Pln
open Go.RowKit
set_option linter.unusedSimpArgs false
set_option linter.unusedVariables false
set_option maxRecDepth 100000
set_option maxHeartbeats 4000000

def isLst (t : Tr) : Bool := decide (t.kind = 5) || decide (t.kind = 6)
def Fr (b : Nat) (w w' : World) : Prop := Below b w w' ∧ ∀ j, b < j → j < w.heap.size → w'.heap[j]? = w.heap[j]?
variable {b p dp : Nat} {s : Ln} {w w1 w2 : World}
theorem Fr.refl : Fr b w w := ⟨Below.refl _ _, fun _ _ _ => rfl⟩
theorem Fr.trans (h : Fr b w w1) (k : Fr b w1 w2) : Fr b w w2 := ⟨h.1.trans k.1, fun j h1 h2 => (k.2 j h1 (Nat.lt_of_lt_of_le h2 h.1.size)).trans (h.2 j h1 h2)⟩
theorem Fr.of (h : Below w.heap.size w w1) (hb : b < w.heap.size) : Fr b w w1 := ⟨h.mono (Nat.le_of_lt hb), fun j _ h2 => h.block j h2⟩
theorem Fr.set (h : Fr b w w1) (i : Nat) (x : Value) : Fr b w (w1.setCell ⟨b, i, none⟩ x) :=
  ⟨h.1.setCell (p := ⟨b, i, none⟩) (Nat.le_refl _) _, fun j h1 h2 => (Below.heap_setCell _ _ _ _ (fun e => by simp only at e; omega)).trans (h.2 j h1 h2)⟩
theorem Fr.drew (h : Fr b w w1) : Fr b w w1.drew := ⟨h.1.drew, h.2⟩
theorem Fr.size (h : Fr b w w1) : w.heap.size ≤ w1.heap.size := h.1.size
theorem Fr.new (h : Fr b w w1) {k : Nat} (hk : w.heap.size ≤ k) (hb : b < k) (i : Nat) (x : Value) : Fr b w (w1.setCell ⟨k, i, none⟩ x) :=
  ⟨h.1.setCell (p := ⟨k, i, none⟩) (Nat.le_of_lt hb) _, fun j h1 h2 => (Below.heap_setCell _ _ _ _ (fun e => by simp only at e; omega)).trans (h.2 j h1 h2)⟩
theorem Fr.box (h : Fr b w w1) {k : Nat} (hk : w.heap.size ≤ k) (hb : b < k) (x y : Value) : Fr b w ((w1.setCell ⟨k, 0, none⟩ x).setCell ⟨k, 1, none⟩ y) := (h.new hk hb 0 x).new hk hb 1 y
theorem below_alloc (w : World) (o : Obj) : Below w.heap.size w (w.alloc o) := (Below.refl _ _).alloc (Nat.le_refl _) _
def Bx (w : World) (k : Nat) (cs : Array Value) (t : TypeId) : Prop := w.heap[k]? = some (.cells cs t (0, 0))
theorem Bx.cell {k : Nat} {cs : Array Value} {t : TypeId} (h : Bx w k cs t) (i : Nat) : w.cell? ⟨k, i, none⟩ = cs[i]? := Lib.cell_of_heap h i
theorem Bx.c2 {k : Nat} {a0 a1 : Value} {t : TypeId} (h : Bx w k #[a0, a1] t) : w.cell? ⟨k, 0, none⟩ = some a0 ∧ w.cell? ⟨k, 1, none⟩ = some a1 := ⟨h.cell 0, h.cell 1⟩
theorem Bx.c3 {k : Nat} {a0 a1 a2 : Value} {t : TypeId} (h : Bx w k #[a0, a1, a2] t) : w.cell? ⟨k, 0, none⟩ = some a0 ∧ w.cell? ⟨k, 1, none⟩ = some a1 ∧ w.cell? ⟨k, 2, none⟩ = some a2 := ⟨h.cell 0, h.cell 1, h.cell 2⟩
theorem Bx.c4 {k : Nat} {a0 a1 a2 a3 : Value} {t : TypeId} (h : Bx w k #[a0, a1, a2, a3] t) : w.cell? ⟨k, 0, none⟩ = some a0 ∧ w.cell? ⟨k, 1, none⟩ = some a1 ∧ w.cell? ⟨k, 2, none⟩ = some a2 ∧ w.cell? ⟨k, 3, none⟩ = some a3 := ⟨h.cell 0, h.cell 1, h.cell 2, h.cell 3⟩
theorem Bx.c5 {k : Nat} {a0 a1 a2 a3 a4 : Value} {t : TypeId} (h : Bx w k #[a0, a1, a2, a3, a4] t) : w.cell? ⟨k, 0, none⟩ = some a0 ∧ w.cell? ⟨k, 1, none⟩ = some a1 ∧ w.cell? ⟨k, 2, none⟩ = some a2 ∧ w.cell? ⟨k, 3, none⟩ = some a3 ∧ w.cell? ⟨k, 4, none⟩ = some a4 := ⟨h.cell 0, h.cell 1, h.cell 2, h.cell 3, h.cell 4⟩
theorem Bx.fz {k : Nat} {cs : Array Value} {t : TypeId} (h : Bx w k cs t) (i : Nat) : w.frozen? ⟨k, i, none⟩ = false := Lib.frozen_of_heap h i
theorem Bx.lt {k : Nat} {cs : Array Value} {t : TypeId} (h : Bx w k cs t) : k < w.heap.size := (Array.getElem?_eq_some_iff.1 h).1
theorem Bx.fr {k : Nat} {cs : Array Value} {t : TypeId} (h : Bx w k cs t) (f : Fr b w w1) (hb : b < k) : Bx w1 k cs t := (f.2 k hb h.lt).trans h
theorem Bx.later {k : Nat} {cs : Array Value} {t : TypeId} (h : Bx w k cs t) (f : Below w.heap.size w w1) : Bx w1 k cs t := (f.block k h.lt).trans h
theorem Bx.set {k : Nat} {cs : Array Value} {t : TypeId} (h : Bx w k cs t) (i : Nat) (x : Value) : Bx (w.setCell ⟨k, i, none⟩ x) k (cs.setIfInBounds i x) t := by
  unfold Bx at *
  rw [setCell_eq_setRow w k i _ _ (0, 0) _ h, setRow_heap w k _ _ _ _ h]
theorem Bx.other {k : Nat} {cs : Array Value} {t : TypeId} (h : Bx w k cs t) {j : Nat} (hj : k ≠ j) (i : Nat) (x : Value) : Bx (w.setCell ⟨j, i, none⟩ x) k cs t := (Below.heap_setCell _ _ _ _ hj).trans h
theorem Bx.new (w : World) (cs : Array Value) (t : TypeId) : Bx (w.alloc (.cells cs t)) w.heap.size cs t := heap_alloc_new w _
theorem Bx.drew {k : Nat} {cs : Array Value} {t : TypeId} (h : Bx w k cs t) (n : Nat) : Bx (w.drewN n) k cs t := h
/-- what the listed variables hold -/
def Tb (w : World) : Prop := Pln.Tabs w ∧ True
theorem Tb.later (h : Tb w) (hb : Below w.heap.size w w1) : Tb w1 := ⟨h.1.later hb, trivial⟩
structure QW (W : World) where
  w : World
  h : Below W.heap.size W w
theorem wp_region_class {P : Program} {id : Nat} {Q : Exit → Act → World → Prop} {a : Act} {w : World} {l : List Oper} (hm : P.follows .mixedOrders = true) (hB : Region.lexB .any l.toArray = true)
    (h : wpQuiet P l.toArray (fun w' => ∃ q : QW w, w' = q.w) (fun a' => ∀ w', (∃ q : QW w, w' = q.w) → Q .normal a' w') l a) : (Code.region id l.toArray true).wp P Q a w :=
  wp_region_quiet (C := fun w' => ∃ q : QW w, w' = q.w) hm hB ⟨⟨w.drew, (Below.refl _ w).drew⟩, rfl⟩ (by simpa using h)
theorem calls_class {P : Program} {f : FuncId} {args : Array Value} {W : World} {v : Value} (q : QW W) (h : Calls P f args q.w fun e w' => e = .returned v ∧ Below q.w.heap.size q.w w') : Calls P f args q.w fun e w' => e = .returned v ∧ ∃ q' : QW W, w' = q'.w :=
  h.mono fun _ w' ⟨he, hb⟩ => ⟨he, ⟨w', q.h.trans (hb.mono q.h.size)⟩, rfl⟩
theorem isList_any (k : Int) (x a : ByteArray) (ad : Option Addr) (len cap : Nat) (w : World) :
    Calls Tryz.prog 60 #[.agg #[.int .i64 k, .string x, .string a, .slice ad len cap]] w fun e w' => e = .returned (.bool (decide (k = 5) || decide (k = 6))) ∧ Below w.heap.size w w' := by
  by_cases h5 : k = 5
  · subst h5
    go_enter Tryz.func60, Tryz.ntmps60
    go_wp2
    go_ret
    exact ⟨rfl, below_alloc _ _⟩
  by_cases h6 : k = 6
  · subst h6
    go_enter Tryz.func60, Tryz.ntmps60
    go_wp2
    go_ret
    exact ⟨rfl, below_alloc _ _⟩
  · have e5 : (k == 5) = false := by simpa using h5
    have e6 : (k == 6) = false := by simpa using h6
    go_enter Tryz.func60, Tryz.ntmps60
    go_wp2
    go_ret
    exact ⟨by simp [h5, h6], below_alloc _ _⟩
theorem tw_len (p : UInt8 → Bool) (l : Ln) : (l.takeWhile p).length ≤ l.length := by
  induction l with
  | nil => exact Nat.le_refl _
  | cons b r ih =>
    by_cases h : p b = true
    · rw [List.takeWhile_cons_of_pos h]; simp; exact ih
    · rw [List.takeWhile_cons_of_neg h]; simp
theorem takeWhile_app (p : UInt8 → Bool) (a l : Ln) (ha : a.all p = true) (hl : p (hd l) = false ∨ l = []) : (a ++ l).takeWhile p = a := by
  induction a with
  | nil =>
    cases l with
    | nil => rfl
    | cons b r =>
      rcases hl with hl | hl
      · have : p b = false := hl
        simp [List.takeWhile, this]
      · cases hl
  | cons b r ih =>
    simp only [List.all_cons, Bool.and_eq_true] at ha
    rw [List.cons_append, List.takeWhile_cons_of_pos ha.1, ih ha.2]
theorem tw_all (p : UInt8 → Bool) (l : Ln) : (l.takeWhile p).all p = true := by
  induction l with
  | nil => rfl
  | cons b r ih =>
    by_cases h : p b = true
    · rw [List.takeWhile_cons_of_pos h]; simp [h, ih]
    · rw [List.takeWhile_cons_of_neg h]; rfl
theorem inName_any (c : UInt8) (w : World) : Calls Tryz.prog 135 #[.int .u8 (c.toNat : Int)] w fun e w' => e = .returned (.bool (letter c)) ∧ w = w' := by
  have hb : c.toNat < 256 := c.toNat_lt
  obtain ⟨x, hx⟩ : ∃ x, x = c.toNat := ⟨_, rfl⟩
  have HX : Hid (letter c = (decide (97 ≤ x ∧ x ≤ 122) || decide (65 ≤ x ∧ x ≤ 90) || decide (48 ≤ x ∧ x ≤ 57) || decide (x = 45) || decide (x = 95))) := letter_num hx
  rw [← hx] at hb ⊢
  clear hx
  by_cases a1 : x < 48
  · go_enter Tryz.func135, Tryz.ntmps135
    go_wp2
    all_goals
      go_ret
      refine ⟨congrArg (fun q => Ending.returned (.bool q)) ?_, rfl⟩
      rw [HX.out, Bool.eq_iff_iff]
      simp
      omega
  by_cases a2 : x < 65
  · go_enter Tryz.func135, Tryz.ntmps135
    go_wp2
    all_goals
      go_ret
      refine ⟨congrArg (fun q => Ending.returned (.bool q)) ?_, rfl⟩
      rw [HX.out, Bool.eq_iff_iff]
      simp
      omega
  by_cases a3 : x < 97
  · go_enter Tryz.func135, Tryz.ntmps135
    go_wp2
    all_goals
      go_ret
      refine ⟨congrArg (fun q => Ending.returned (.bool q)) ?_, rfl⟩
      rw [HX.out, Bool.eq_iff_iff]
      simp
      omega
  go_enter Tryz.func135, Tryz.ntmps135
  go_wp2
  all_goals
    go_ret
    refine ⟨congrArg (fun q => Ending.returned (.bool q)) ?_, rfl⟩
    rw [HX.out, Bool.eq_iff_iff]
    simp
    omega

/-- how many of a text's first bytes may stand in a name -/
def nb (l : Ln) : Nat := (l.takeWhile letter).length
theorem nb_le (l : Ln) : nb l ≤ l.length := tw_len letter l
theorem tw_take (l : Ln) (n : Nat) (h : (l.take n).all letter = true) (hn : n < l.length) (hb : letter (l.getD n 0) = false) : nb l = n := by
  have e : l = l.take n ++ l.drop n := (List.take_append_drop n l).symm
  have h2 : hd (l.drop n) = l.getD n 0 := by unfold hd; simp [List.getD_eq_getElem?_getD]
  unfold nb
  rw [e, takeWhile_app letter _ _ h (.inl (by rw [h2]; exact hb)), List.length_take]
  omega
theorem tw_whole (l : Ln) (h : l.all letter = true) : nb l = l.length := by
  have := takeWhile_app letter l [] h (.inr rfl)
  rw [List.append_nil] at this
  unfold nb; rw [this]
theorem nameBytes_any (l : Ln) (w : World) (hs : l.length ≤ 562949953421312) : Calls Tryz.prog 112 #[.string (mk l)] w fun e w' => e = .returned (.int .i64 (nb l : Nat)) ∧ w = w' := by
  have hsz := mk_size l
  go_enter Tryz.func112, Tryz.ntmps112
  go_wp2
  go_loop [6] (fun i => ∃ n : Nat, n ≤ l.length ∧ i = .int .i64 n ∧ (l.take n).all letter = true) (fun i => l.length - (intOf i).toNat)
  case atStart => exact ⟨0, Nat.zero_le _, rfl, rfl⟩
  case round =>
    obtain ⟨n, hn1, rfl, ht⟩ := hrel
    have HT : Hid ((l.take n).all letter = true) := ht
    clear ht
    by_cases hlt : n < l.length
    · have hg : ∀ h, (mk l)[n]'h = l.getD n 0 := fun h => getD_mk l n h
      have hlt' : n < (mk l).size := by rw [mk_size]; exact hlt
      have hsn := all_take l n hlt
      rw [HT.out, Bool.true_and] at hsn
      have HSN : Hid ((l.take (n + 1)).all letter = letter (l.getD n 0)) := hsn
      have HH : Hid (letter (l.getD n 0) = false → nb l = n) := tw_take l n HT.out hlt
      clear hsn
      generalize l.getD n 0 = b at hg HSN HH
      have HC := fun w => inName_any b w
      cases hbc : letter b
      · rw [hbc] at HC
        go_wp2_with (go_at_call 135; refine (HC _).mono ?_; rintro e w' ⟨rfl, rfl⟩)
        go_ret
        rw [HH.out hbc]
        exact ⟨rfl, rfl⟩
      · rw [hbc] at HC HSN
        go_wp2_with (go_at_call 135; refine (HC _).mono ?_; rintro e w' ⟨rfl, rfl⟩)
        go_round
        case rel => exact ⟨n + 1, by omega, by go_num, HSN.out⟩
        case measure => simp [intOf]; omega
    · have HN : Hid (nb l = l.length) := by
        have := HT.out
        rw [List.take_of_length_le (by omega)] at this
        exact tw_whole l this
      have e : n = l.length := by omega
      subst e
      go_wp2
      go_ret
      rw [HN.out]
      exact ⟨rfl, rfl⟩
theorem nb_name (l : Ln) : isName l = (!(l == []) && decide (l.length ≤ 32) && decide (nb l = l.length)) := by
  unfold isName
  cases h : l.all letter with
  | true =>
    rw [tw_whole l h]
    cases l <;> simp
  | false =>
    have : ¬ nb l = l.length := by
      intro e
      have h2 := tw_all letter l
      have h3 : l.takeWhile letter = l := by
        have := List.takeWhile_prefix letter (l := l)
        exact this.eq_of_length e
      rw [h3, h] at h2
      cases h2
    simp [this]
theorem name0_any (l : Ln) (w : World) (hs : l.length ≤ 562949953421312) : Calls Tryz.prog 94 #[.string (mk l)] w fun e w' => e = .returned (.bool (isName l)) ∧ w = w' := by
  have hsz := mk_size l
  have hn := nb_le l
  have HC : Hid (∀ w, Calls Tryz.prog 112 #[.string (mk l)] w fun e w' => e = .returned (.int .i64 (nb l : Nat)) ∧ w = w') := fun w => nameBytes_any l w hs
  have HE : Hid (isName l = (!(l == []) && decide (l.length ≤ 32) && decide (nb l = l.length))) := nb_name l
  have h0 : ((mk l).toList == []) = (l == []) := by rw [ByteArray.toList_eq, mk_data]
  generalize nb l = n at *
  cases e0 : (l == [])
  · rw [e0] at h0 HE
    have hp : 0 < l.length := by rw [List.length_pos_iff]; simpa using e0
    by_cases e1 : l.length ≤ 32
    · go_enter Tryz.func94, Tryz.ntmps94
      go_wp2_with (go_at_call 112; refine (HC.out _).mono ?_; rintro e w' ⟨rfl, rfl⟩)
      go_ret
      rw [HE.out]
      refine ⟨?_, rfl⟩
      simp [e1]
      rw [Bool.eq_iff_iff]
      simp
      omega
    · go_enter Tryz.func94, Tryz.ntmps94
      go_wp2
      go_ret
      rw [HE.out]
      exact ⟨by simp [e1], rfl⟩
  · rw [e0] at h0 HE
    go_enter Tryz.func94, Tryz.ntmps94
    go_wp2
    go_ret
    rw [HE.out]
    exact ⟨by simp, rfl⟩

variable {b p dp : Nat} {s : Ln} {w : World}

end Go.Proofs.YtaphijgbebhdlaaGreatDoor.Flw
end

section
/- Rows of bytes of the call's own: small words; string(b). -/
namespace Go.Proofs.YtaphijgbebhdlaaGreatDoor.Utf
open Go.RowKit
set_option linter.unusedSimpArgs false
set_option linter.unusedVariables false

theorem Tryz.info5 : (Tryz.prog.info? 5).map (fun i => (i.zero, i.size, i.bytes)) = some (some (.int .u8 0), 1, 1) := by kernel_rfl

theorem step {w wr w1 : World} {e : TypeId} {u v' : Value} {bs news : List Int} {o : Obj} {m : Nat} (hown : wr.ownsRow w.heap.size e 1 u bs.length (bs.map (Value.int .u8))) (hbe : Below w.heap.size w wr)
    (hown' : w1.ownsRow w.heap.size e 1 v' (bs.length + m) (bs.map (Value.int .u8) ++ news.map (Value.int .u8))) (hgrow : (wr.alloc o).grownBy w1 u.ownBlock) (hm : news.length = m) :
    w1.ownsRow w.heap.size e 1 v' (bs ++ news).length ((bs ++ news).map (Value.int .u8)) ∧ Below w.heap.size w w1 := by
  subst hm
  refine ⟨by rw [List.length_append, List.map_append]; exact hown', ?_⟩
  have hs := hbe.size
  exact (hbe.alloc hs o).grown hgrow (by simp; omega) (fun k hk => (hown.lt k hk).1)


end Go.Proofs.YtaphijgbebhdlaaGreatDoor.Utf
end

section
/- utf.areSigns, utf.appendSigns, utf.Encode, by their contracts: over a row of numbers that lies anywhere in memory. -/
namespace Go.Proofs.YtaphijgbebhdlaaGreatDoor.Utf
open Go.RowKit
set_option linter.unusedSimpArgs false
set_option linter.unusedVariables false

/-- a slice of ints that holds the numbers zs -/
def Ints (w : World) (a : Option Addr) (len : Nat) (zs : List Int) : Prop :=
  len = zs.length ∧ (0 < len → ∃ b off, a = some ⟨b, off, none⟩ ∧ b < w.heap.size ∧ ∀ i, i < len → w.cell? ⟨b, off + i, none⟩ = some (.int .i64 (zs.getD i 0)))

end Go.Proofs.YtaphijgbebhdlaaGreatDoor.Utf
end

section
/- utf.Decode, by its contract. -/
namespace Go.Proofs.YtaphijgbebhdlaaGreatDoor.Utf
open Go.RowKit
set_option linter.unusedSimpArgs false
set_option linter.unusedVariables false
set_option maxRecDepth 100000

theorem Tryz.info3 : (Tryz.prog.info? 3).map (fun i => (i.zero, i.size, i.bytes)) = some (some (.int .i64 0), 1, 8) := by kernel_rfl
theorem new_cells (w : World) (n : Int) (t : TypeId) : ∀ j u, ([Value.int .i64 n])[j]? = some u → (w.alloc (.cells #[Value.int .i64 n] t)).cell? ((⟨w.heap.size, 0, none⟩ : Addr).add j) = some u := by
  intro j u hj
  have e : (⟨w.heap.size, 0, none⟩ : Addr).add j = ⟨w.heap.size, j, none⟩ := by unfold Addr.add; split <;> simp_all
  rw [e, cell_of_row _ w.heap.size j #[Value.int .i64 n] t (0, 0) (heap_alloc_new w _)]
  simpa using hj
theorem new_one (n : Int) : ∀ u ∈ [Value.int .i64 n], u.oneCell' = true := by
  intro u hu
  simp at hu; subst hu; rfl

/-- an append's step, one number more -/
theorem step1 {B : Nat} {w wr w1 : World} {e : TypeId} {u v' : Value} {xs : List Int} {n : Int} {o : Obj} (hown : wr.ownsRow B e 1 u xs.length (xs.map (Value.int .i64))) (hbe : Below B w wr) (hB : B ≤ wr.heap.size)
    (hown' : w1.ownsRow B e 1 v' (xs.length + 1) (xs.map (Value.int .i64) ++ [Value.int .i64 n])) (hgrow : (wr.alloc o).grownBy w1 u.ownBlock) :
    w1.ownsRow B e 1 v' (xs ++ [n]).length ((xs ++ [n]).map (Value.int .i64)) ∧ Below B w w1 ∧ B ≤ w1.heap.size := by
  refine ⟨by rw [List.length_append, List.map_append]; exact hown', ?_, ?_⟩
  · exact (hbe.alloc hB o).grown hgrow (by simp; omega) (fun k hk => (hown.lt k hk).1)
  · have := hgrow.size; simp at this; omega

theorem dec_split {l : List UInt8} {p : Nat} {xs : List Int} (h : dec l = (xs ++ (dec (l.drop p)).1, (dec (l.drop p)).2.map (· + p))) (hne : l.drop p ≠ []) (hn : ¬ (fst (l.drop p)).1 < 0) :
    dec l = ((xs ++ [(fst (l.drop p)).1]) ++ (dec (l.drop (p + fk (l.drop p)))).1, (dec (l.drop (p + fk (l.drop p)))).2.map (· + (p + fk (l.drop p)))) := by
  have hx := dec_next _ hne hn
  rw [List.drop_drop] at hx
  rw [h, hx]
  simp [Option.map_map]
  cases (dec (l.drop (p + fk (l.drop p)))).2 with
  | none => rfl
  | some q => simp; omega

def decXs (l : List UInt8) : List Int := if (dec l).2 = none then (dec l).1 else []
/-- Decode's answer: the signs, in a row of the call's own, and no fault; or none, and the place -/
def DecRes (l : List UInt8) (w : World) (e : Ending) (w' : World) : Prop :=
  ∃ v, e = .returned (.tuple #[v, .agg #[.int .i64 (why (dec l).2), .int .i64 (pos (dec l).2)]]) ∧ w'.ownsRow w.heap.size 3 1 v (decXs l).length ((decXs l).map (Value.int .i64)) ∧ Below w.heap.size w w'
theorem ownsRow_lower {w : World} {B B' : Nat} {e : TypeId} {k n : Nat} {v : Value} {xs : List Value} (h : w.ownsRow B e k v n xs) (hb : B' ≤ B) : w.ownsRow B' e k v n xs := by
  obtain ⟨h1, h2⟩ := h
  refine ⟨h1, ?_⟩
  rcases h2 with h2 | ⟨g, cap, cur, hv, hg, rest⟩
  · exact .inl h2
  · exact .inr ⟨g, cap, cur, hv, Nat.le_trans hb hg, rest⟩

set_option maxHeartbeats 1000000 in
theorem decode_any (s : ByteArray) (w : World) (hs : s.size ≤ 140737488355328) (hx : (dec s.data.toList).1.length ≤ 17592186044416) : Calls Tryz.prog 86 #[.string s] w fun e w' => DecRes s.data.toList w e w' := by
  have hs' : s.size ≤ maxLen := by unfold maxLen; omega
  have HX : Hid ((dec s.data.toList).1.length ≤ 17592186044416) := hx
  clear hx
  obtain ⟨i0, hi, hz0, hz1, hz2⟩ := info_parts Tryz.info3
  go_enter Tryz.func86, Tryz.ntmps86
  go_wp2
  go_loopw [4, 5] (fun v i wr => ∃ (p : Nat) (xs : List Int), p ≤ s.size ∧ xs.length ≤ p ∧ i = .int .i64 p ∧ wr.ownsRow (w.heap.size + 1) 3 1 v xs.length (xs.map (Value.int .i64)) ∧ dec s.data.toList = (xs ++ (dec (s.data.toList.drop p)).1, (dec (s.data.toList.drop p)).2.map (· + p)) ∧
      Below (w.heap.size + 1) (w.alloc (.cells #[.int .i64 0, .int .i64 0] 141)) wr ∧ w.heap.size + 1 ≤ wr.heap.size) (fun _ i _ => s.size - (intOf i).toNat)
  case atStart => exact ⟨0, [], Nat.zero_le _, Nat.le_refl _, rfl, World.ownsRow_nil _ _ _ _, by simp, Below.refl _ _, by simp⟩
  case round =>
    obtain ⟨p, xs, hp, hxl, rfl, hown, hd, hbe, hsz⟩ := hrel
    have HD : Hid (dec s.data.toList = (xs ++ (dec (s.data.toList.drop p)).1, (dec (s.data.toList.drop p)).2.map (· + p))) := hd
    clear hd
    have hc0 : wr.cell? ⟨w.heap.size, 0, none⟩ = some (.int .i64 0) := (hbe.cell (p := ⟨w.heap.size, 0, none⟩) (by simp)).trans (by rw [cell_of_row _ w.heap.size 0 _ _ (0, 0) (heap_alloc_new w _)]; rfl)
    have hc1 : wr.cell? ⟨w.heap.size, 1, none⟩ = some (.int .i64 0) := (hbe.cell (p := ⟨w.heap.size, 1, none⟩) (by simp)).trans (by rw [cell_of_row _ w.heap.size 1 _ _ (0, 0) (heap_alloc_new w _)]; rfl)
    have hf0 : wr.frozen? ⟨w.heap.size, 0, none⟩ = false := (hbe.frozen (p := ⟨w.heap.size, 0, none⟩) (by simp)).trans (by simp)
    have hf1 : wr.frozen? ⟨w.heap.size, 1, none⟩ = false := (hbe.frozen (p := ⟨w.heap.size, 1, none⟩) (by simp)).trans (by simp)
    by_cases hlt : p < s.size
    · have hne := drop_ne s p hlt
      have hf := fk_pos _ hne
      rw [List.length_drop, len_data] at hf
      obtain ⟨f1, f2, f3, f4⟩ := hf
      have hb0 : 0 ≤ (fst (s.data.toList.drop p)).2 := by omega
      have hb4 : (fst (s.data.toList.drop p)).2 ≤ 4 := by omega
      have hb5 : (p : Int) + (fst (s.data.toList.drop p)).2 ≤ s.size := by omega
      have H4 : Hid (((fk (s.data.toList.drop p) : Nat) : Int) = (fst (s.data.toList.drop p)).2) := f4
      clear f4
      by_cases hn : (fst (s.data.toList.drop p)).1 < 0
      · have HB : Hid ((dec s.data.toList).2 = some p) := by
          have h1 := HD.out
          rw [dec_bad _ hne hn] at h1
          rw [h1]; simp [Hid]
        clear hne
        go_wp2_with (first | (go_at_call 102; refine (firstAt_any _ _ _ hs').mono ?_; rintro e w' ⟨rfl, rfl⟩))
        refine bodyPost_ret (v := .tuple #[.slice none 0 0, .agg #[.int .i64 8, .int .i64 p]]) (by simp [results, Tryz.results86, go_sem, hc0, hc1]) rfl ?_
        refine ⟨.slice none 0 0, by rw [HB.out]; rfl, ?_, ?_⟩
        · have e : decXs s.data.toList = [] := by unfold decXs; rw [HB.out]; rfl
          rw [e]; exact World.ownsRow_nil _ _ _ _
        exact ((((Below.refl _ _).alloc (Nat.le_refl _) _).trans (hbe.mono (Nat.le_succ _))).setCell (Nat.le_refl _) _).setCell (Nat.le_refl _) _
      · have HN := dec_split HD.out hne hn
        have HN : Hid (dec s.data.toList = ((xs ++ [(fst (s.data.toList.drop p)).1]) ++ (dec (s.data.toList.drop (p + fk (s.data.toList.drop p)))).1, (dec (s.data.toList.drop (p + fk (s.data.toList.drop p)))).2.map (· + (p + fk (s.data.toList.drop p))))) := HN
        have hxx : xs.length + 1 ≤ 17592186044416 := by
          have h1 := HX.out
          rw [HN.out] at h1
          simp only [List.length_append, List.length_cons, List.length_nil] at h1
          omega
        clear HD hne
        go_wp2_with (first | (go_at_call 102; refine (firstAt_any _ _ _ hs').mono ?_; rintro e w' ⟨rfl, rfl⟩) | (at_builtin; refine wpList_append_own _ rfl _ _ 45 rfl (w.heap.size + 1) 3 i0 (.int .i64 0) 1 8 Tryz.underlying45 hi hz0 hz1 hz2 rfl (by decide) _ _ _ rfl (hown.alloc _) ⟨wr.heap.size, 0, none⟩ 1 1 [Value.int .i64 (fst (s.data.toList.drop p)).1] rfl rfl (new_cells _ _ _) (new_one _) ?_ ?_ ?_ ?_))
        · unfold maxLen; omega
        · omega
        · simp; omega
        intro v' w1 hown' hgrow _
        have R := step1 hown hbe hsz hown' hgrow
        obtain ⟨R1, R2, R3⟩ := R
        clear hown' hgrow hown hbe hc0 hc1 hf0 hf1
        go_wp2
        have h4 := H4.out
        go_roundw
        case rel => exact ⟨p + fk (s.data.toList.drop p), xs ++ [(fst (s.data.toList.drop p)).1], by omega, by simp; omega, by rw [← H4.out]; go_num, R1, HN.out, R2, R3⟩
        case measure => simp [intOf]; omega
    · have HB : Hid (dec s.data.toList = (xs, none)) := by
        have h1 := HD.out
        rw [List.drop_of_length_le (by rw [len_data]; omega), dec_nil] at h1
        simp at h1; exact h1
      clear HD
      go_wp2
      refine bodyPost_ret (v := .tuple #[u4, .agg #[.int .i64 0, .int .i64 0]]) (by simp [results, Tryz.results86, go_sem, hc0, hc1]) rfl ?_
      refine ⟨u4, by rw [HB.out]; rfl, ?_, ?_⟩
      · have e : decXs s.data.toList = xs := by unfold decXs; rw [HB.out]; rfl
        rw [e]
        exact ownsRow_lower (ownsRow_setCell_below (ownsRow_setCell_below hown (Nat.lt_succ_self _) _) (Nat.lt_succ_self _) _) (Nat.le_succ _)
      · exact ((((Below.refl _ _).alloc (Nat.le_refl _) _).trans (hbe.mono (Nat.le_succ _))).setCell (Nat.le_refl _) _).setCell (Nat.le_refl _) _

/-- what the call owns reads as a row of ints -/
theorem ints_of_own {w : World} {base n : Nat} {v : Value} {zs : List Int} (h : w.ownsRow base 3 1 v n (zs.map (Value.int .i64))) : ∃ a cap, v = .slice a n cap ∧ Ints w a n zs := by
  obtain ⟨hl, h⟩ := h
  have hn : n = zs.length := by simpa using hl.symm
  rcases h with ⟨rfl, rfl⟩ | ⟨g, cap, cur, rfl, hb, hg, hc, hm, hs, ht⟩
  · exact ⟨_, _, rfl, hn, fun h => absurd h (by decide)⟩
  · refine ⟨_, _, rfl, hn, fun _ => ⟨g, 0, rfl, (Array.getElem?_eq_some_iff.1 hg).1, ?_⟩⟩
    intro i hi
    rw [Nat.zero_add, cell_of_row w g i cur 3 (0, 0) hg]
    have h1 : (cur.toList.take (n * 1))[i]? = some (.int .i64 (zs.getD i 0)) := by
      rw [ht, List.getElem?_map, List.getD_eq_getElem?_getD, List.getElem?_eq_getElem (by omega)]; rfl
    rw [List.getElem?_take, if_pos (by omega)] at h1
    simpa using h1
/-- a row of ints below B is there in a later world -/
theorem Ints.later {w w' : World} {a : Option Addr} {len : Nat} {zs : List Int} (h : Ints w a len zs) {B : Nat} (hb : Below B w w') (hB : w.heap.size ≤ B) : Ints w' a len zs := by
  refine ⟨h.1, fun hp => ?_⟩
  obtain ⟨b, off, ha, hlt, hc⟩ := h.2 hp
  exact ⟨b, off, ha, Nat.lt_of_lt_of_le hlt hb.size, fun i hi => (hb.cell (p := ⟨b, off + i, none⟩) (Nat.lt_of_lt_of_le hlt hB)).trans (hc i hi)⟩

theorem own_later {w w' : World} {B : Nat} {e : TypeId} {k n : Nat} {v : Value} {xs : List Value} (h : w.ownsRow B e k v n xs) (hb : Below w.heap.size w w') : w'.ownsRow B e k v n xs := by
  obtain ⟨h1, h2⟩ := h
  refine ⟨h1, ?_⟩
  rcases h2 with h2 | ⟨g, cap, cur, hv, hg, hh, rest⟩
  · exact .inl h2
  · refine .inr ⟨g, cap, cur, hv, hg, ?_, rest⟩
    rw [hb.block g (Array.getElem?_eq_some_iff.1 hh).1]
    exact hh

end Go.Proofs.YtaphijgbebhdlaaGreatDoor.Utf
end
