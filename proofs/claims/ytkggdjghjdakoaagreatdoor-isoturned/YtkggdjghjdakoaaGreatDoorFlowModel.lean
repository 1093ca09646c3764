/- Values in one line: trees, their texts, and how these are read, as plain functions. A fault is its number and how many bytes stand behind its place. -/
import Derived.Test.YtkggdjghjdakoaaGreatDoorPlainModel2
import Derived.Test.YtkggdjghjdakoaaGreatDoorQuotePlain3
namespace Go.Proofs.YtkggdjghjdakoaaGreatDoor.Flw
open Utf Rws Pln
set_option linter.unusedSimpArgs false
set_option linter.unusedVariables false

abbrev Ln := List UInt8
structure Tr where
  kind : Int
  text : List UInt8
  anc : List UInt8
  kids : List Tr
abbrev Fa := Nat × Nat
abbrev Ot (α : Type) := Except Fa α
def bnd {α β : Type} (x : Ot α) (f : α → Ot β) : Ot β := match x with | .ok a => f a | .error e => .error e
theorem bnd_ok {α β : Type} (a : α) (f : α → Ot β) : bnd (.ok a) f = f a := rfl
theorem bnd_err {α β : Type} (e : Fa) (f : α → Ot β) : bnd (.error e) f = .error e := rfl
theorem bnd_inv {α β : Type} {x : Ot α} {f : α → Ot β} {b : β} (h : bnd x f = .ok b) : ∃ a, x = .ok a ∧ f a = .ok b := by
  cases x with
  | ok a => exact ⟨a, rfl, h⟩
  | error e => cases h
theorem ite_inv {α : Type} {p : Prop} [Decidable p] {e : Fa} {x : Ot α} {b : α} (h : (if p then .error e else x) = .ok b) : ¬ p ∧ x = .ok b := by
  by_cases c : p
  · rw [if_pos c] at h; cases h
  · rw [if_neg c] at h; exact ⟨c, h⟩

/-- may a byte stand in a name? -/
def letter (c : UInt8) : Bool := (decide (97 ≤ c.toNat) && decide (c.toNat ≤ 122)) || (decide (65 ≤ c.toNat) && decide (c.toNat ≤ 90)) || (decide (48 ≤ c.toNat) && decide (c.toNat ≤ 57)) || c == 45 || c == 95
def isName (l : Ln) : Bool := l.all letter && decide (1 ≤ l.length) && decide (l.length ≤ 32)
/-- a plain text's kind: Null 1, Bool 2, Int 3, Str 4 (PlainNum's kind) -/
def knd (l : Ln) : Int :=
  if (l == [] || l == [126] || l == [110, 117, 108, 108]) = true then 1
  else if (l == [116, 114, 117, 101] || l == [102, 97, 108, 115, 101]) = true then 2
  else if numB l = true then 3 else 4
/-- the next byte; 0: there is none -/
def hd (l : Ln) : UInt8 := l.getD 0 0
def stands (l : Ln) : Fa := if l = [] then (4, 0) else (3, l.length)
def gaps (l : Ln) : Ln := l.dropWhile is32
def nam (l : Ln) : Ot (Ln × Ln) :=
  if ((l.takeWhile letter).take 32).length = 0 ∨ letter (hd (l.drop ((l.takeWhile letter).take 32).length)) = true then .error (stands (l.drop ((l.takeWhile letter).take 32).length))
  else .ok ((l.takeWhile letter).take 32, l.drop ((l.takeWhile letter).take 32).length)
/-- a tag's word: its kind; 0: none -/
def word (l : Ln) : Int :=
  if l = [110, 117, 108, 108] then 1 else if l = [98, 111, 111, 108] then 2 else if l = [105, 110, 116] then 3
  else if l = [115, 116, 114] then 4 else if l = [115, 101, 113] then 5 else if l = [109, 97, 112] then 6 else 0
def tag (l : Ln) : Ot (Int × Ln) :=
  if word (l.takeWhile letter) = 0 then .error (stands l) else .ok (word (l.takeWhile letter), l.drop (l.takeWhile letter).length)
def gap (f : Bool) (l : Ln) : Ot Ln :=
  if l ≠ [] ∧ hd l ≠ 32 ∧ ¬ (f = true ∧ fl (hd l) = true) then .error (3, l.length) else .ok (gaps l)
/-- a value's properties: its anchor, its tag (0: none), how many bytes stand from the tag on, and is there one? -/
structure Pr where
  anc : Ln
  tag : Int
  at_ : Nat
  some : Bool
def p0 : Pr := ⟨[], 0, 0, false⟩
def prp (f : Bool) : Nat → Pr → Ln → Ot (Pr × Ln)
  | 0, p, l => .ok (p, l)
  | n + 1, p, l =>
    if hd l = 38 ∧ p.anc = [] then
      bnd (nam (l.drop 1)) fun x => bnd (gap f x.2) fun r => prp f n ⟨x.1, p.tag, p.at_, true⟩ r
    else if hd l = 33 ∧ hd (l.drop 1) = 33 ∧ p.tag = 0 then
      bnd (tag (l.drop 2)) fun x => bnd (gap f x.2) fun r => prp f n ⟨p.anc, x.1, l.length, true⟩ r
    else .ok (p, l)
def quoted (l : Ln) : Ot (Ln × Ln) :=
  if (Quo.rd l).2.2.1 ≠ 0 then .error ((Quo.rd l).2.2.1, l.length - (Quo.rd l).2.2.2) else .ok ((Quo.rd l).1, l.drop (Quo.rd l).2.1)
def plain (f : Bool) (l : Ln) : Ot (Ln × Ln) :=
  if cutT l f ≠ [] ∧ isP (cutT l f) f = false then .error (3, l.length) else .ok (cutT l f, l.drop (cutT l f).length)
/-- a scalar of a kind -/
def leaf (k : Int) (s anc : Ln) : Tr := ⟨k, if k = 1 then [] else s, anc, []⟩
def fits (s : Ln) (q : Bool) (p : Pr) : Ot Tr :=
  if p.tag = 4 then .ok (leaf 4 s p.anc)
  else if p.tag ≠ 0 then (if knd s ≠ p.tag then .error (12, p.at_) else .ok (leaf p.tag s p.anc))
  else .ok (leaf (if q then 4 else knd s) s p.anc)
def key (l : Ln) : Ot (Tr × Ln) :=
  if hd l = 39 ∨ hd l = 34 then bnd (quoted l) fun x => .ok (⟨4, x.1, [], []⟩, x.2)
  else bnd (plain true l) fun x => if x.1 = [] then .error (stands l) else .ok (leaf (knd x.1) x.1 [], x.2)
/-- does a colon stand ahead, that ends a key in a flow? -/
def colon (l : Ln) : Bool := hd l == 58 && (decide (l.length ≤ 1) || hd (l.drop 1) == 32 || fl (hd (l.drop 1)))
def endOf (map : Bool) : UInt8 := if map then 125 else 93
/-- a part of a bracket: a value, or an entry -/
def part (v : Ln → Ot (Tr × Ln)) (map : Bool) (l : Ln) : Ot (List Tr × Ln) :=
  if map then bnd (key l) fun k => if colon (gaps k.2) = false then .error (stands (gaps k.2)) else bnd (v ((gaps k.2).drop 1)) fun x => .ok ([k.1, x.1], x.2)
  else if l = [] ∨ hd l = 44 then .error (stands l) else bnd (v l) fun x => .ok ([x.1], x.2)
def lst (v : Ln → Ot (Tr × Ln)) (map : Bool) : Nat → Ln → Ot (List Tr × Ln)
  | 0, l => .error (stands l)
  | n + 1, l =>
    if hd (gaps l) = endOf map then .ok ([], (gaps l).drop 1)
    else bnd (part v map (gaps l)) fun x =>
      if hd (gaps x.2) = 44 then bnd (lst v map n ((gaps x.2).drop 1)) fun y => .ok (x.1 ++ y.1, y.2)
      else if hd (gaps x.2) = endOf map then .ok (x.1, (gaps x.2).drop 1) else .error (stands (gaps x.2))
def kindOf (map : Bool) : Int := if map then 6 else 5
/-- a value, behind its properties; 'inner' reads what lies in it, if it may be so deep -/
def body (inner : Option (Ln → Ot (Tr × Ln))) (f : Bool) (p : Pr) (l : Ln) : Ot (Tr × Ln) :=
  if hd l = 42 then (if p.some = true then .error (stands l) else bnd (nam (l.drop 1)) fun x => .ok (⟨7, [], x.1, []⟩, x.2))
  else if hd l = 91 ∨ hd l = 123 then
    match inner with
    | none => .error (10, l.length)
    | some v => bnd (lst v (hd l == 123) l.length (l.drop 1)) fun x =>
        if p.tag ≠ 0 ∧ p.tag ≠ kindOf (hd l == 123) then .error (12, p.at_) else .ok (⟨kindOf (hd l == 123), [], p.anc, x.1⟩, x.2)
  else if hd l = 39 ∨ hd l = 34 then bnd (quoted l) fun x => bnd (fits x.1 true p) fun t => .ok (t, x.2)
  else bnd (plain f l) fun x => bnd (fits x.1 false p) fun t => .ok (t, x.2)
def vstep (inner : Option (Ln → Ot (Tr × Ln))) (f : Bool) (l : Ln) : Ot (Tr × Ln) := bnd (prp f 3 p0 (gaps l)) fun x => body inner f x.1 x.2
/-- a value that may hold d more within one another -/
def val : Nat → Bool → Ln → Ot (Tr × Ln)
  | 0, f, l => vstep none f l
  | d + 1, f, l => vstep (some fun m => val d true m) f l
def tr0 : Tr := ⟨0, [], [], []⟩
/-- Read: the tree, how many bytes, the fault's number and place -/
def read (l : Ln) (f : Bool) : Tr × Nat × Nat × Nat :=
  match val 64 f l with
  | .ok x => (x.1, (trR is32 (l.take (l.length - x.2.length))).length, 0, 0)
  | .error e => (tr0, 0, e.1, l.length - e.2)
/-- Whole: the tree, the fault's number and place -/
def whole (l : Ln) : Tr × Nat × Nat :=
  if l.length > 65536 then (tr0, 5, 0)
  else match val 64 false l with
    | .ok x => if gaps x.2 = [] then (x.1, 0, 0) else (tr0, 3, l.length - (gaps x.2).length)
    | .error e => (tr0, e.1, l.length - e.2)

/-- a scalar's text -/
def scl (f : Bool) (k : Int) (s : Ln) : Ln :=
  if k = 1 then [110, 117, 108, 108] else if k = 2 ∨ k = 3 then s
  else if k = 4 then (if isP s f = true ∧ knd s = 4 then s else if (dec s).2 = none then Quo.dbl s else []) else []
def sep (map : Bool) (i : Nat) : Ln := if i = 0 then [] else if map = true ∧ i % 2 = 1 then [58, 32] else [44, 32]
def jn (map : Bool) : Nat → List Ln → Ln
  | _, [] => []
  | i, k :: ks => sep map i ++ k ++ jn map (i + 1) ks
def ancW (a : Ln) : Ln := if a = [] then [] else 38 :: (a ++ [32])
def wstep (inner : Tr → Ln) (t : Tr) : Ln :=
  if t.kind = 7 then 42 :: t.anc
  else if 1 ≤ t.kind ∧ t.kind ≤ 4 then ancW t.anc ++ scl true t.kind t.text
  else ancW t.anc ++ ((if t.kind = 6 then 123 else 91) :: (jn (decide (t.kind = 6)) 0 (t.kids.map inner) ++ [if t.kind = 6 then 125 else 93]))
/-- a tree's text, as far as d within one another -/
def wrt : Nat → Tr → Ln
  | 0, t => wstep (fun _ => []) t
  | d + 1, t => wstep (fun k => wrt d k) t

def txt (k : Int) (s : Ln) : Bool :=
  if k = 2 then s == [116, 114, 117, 101] || s == [102, 97, 108, 115, 101]
  else if k = 3 then decide (knd s = 3) else if k = 4 then (dec s).2.isNone else s == []
def isKey (t : Tr) : Bool := decide (1 ≤ t.kind) && decide (t.kind ≤ 4) && t.anc == []
/-- the keys, from the i-th place on -/
def keysOk : Nat → List Tr → Bool
  | _, [] => true
  | i, k :: ks => (!(i % 2 == 0) || isKey k) && keysOk (i + 1) ks
def rstep (inner : Option (Tr → Bool)) (t : Tr) : Bool :=
  decide (1 ≤ t.kind) && decide (t.kind ≤ 7) && ((t.anc == [] && !decide (t.kind = 7)) || isName t.anc) && txt t.kind t.text &&
  (if t.kind ≠ 5 ∧ t.kind ≠ 6 then t.kids.isEmpty
   else match inner with
    | none => false
    | some v => (!decide (t.kind = 6) || (t.kids.length % 2 == 0 && keysOk 0 t.kids)) && t.kids.all v)
/-- may a tree be, that may hold d more within one another? -/
def rgt : Nat → Tr → Bool
  | 0, t => rstep none t
  | d + 1, t => rstep (some fun k => rgt d k) t
/-- how many trees there are, as far as d within one another -/
def cntT : Nat → Tr → Nat
  | 0, _ => 1
  | d + 1, t => 1 + (t.kids.map fun k => cntT d k).sum

theorem hd_nil : hd [] = 0 := rfl
theorem hd_cons (b : UInt8) (r : Ln) : hd (b :: r) = b := rfl
theorem gaps_nil : gaps [] = [] := rfl
theorem gaps_32 (r : Ln) : gaps (32 :: r) = gaps r := rfl
theorem gaps_cons {b : UInt8} (r : Ln) (h : b ≠ 32) : gaps (b :: r) = b :: r := by
  have : is32 b = false := by simpa [is32] using h
  simp [gaps, List.dropWhile, this]
theorem gaps_gaps (l : Ln) : gaps (gaps l) = gaps l := by
  induction l with
  | nil => rfl
  | cons b r ih =>
    by_cases h : b = 32
    · subst h; rw [gaps_32, ih]
    · rw [gaps_cons r h, gaps_cons r h]
theorem gaps_len (l : Ln) : (gaps l).length ≤ l.length := by
  induction l with
  | nil => exact Nat.le_refl _
  | cons b r ih =>
    by_cases h : b = 32
    · subst h; rw [gaps_32]; simp only [List.length_cons]; omega
    · rw [gaps_cons r h]; exact Nat.le_refl _
theorem gaps_of {l : Ln} (h : hd l ≠ 32) : gaps l = l := by
  cases l with
  | nil => rfl
  | cons b r => exact gaps_cons r h
theorem gaps_rep (n : Nat) (l : Ln) : gaps (List.replicate n 32 ++ l) = gaps l := by
  induction n with
  | zero => rfl
  | succ n ih => rw [List.replicate_succ, List.cons_append, gaps_32, ih]
theorem hd_gaps (l : Ln) : hd (gaps l) ≠ 32 := by
  induction l with
  | nil => rw [gaps_nil]; decide
  | cons b r ih =>
    by_cases h : b = 32
    · subst h; rw [gaps_32]; exact ih
    · rw [gaps_cons r h]; exact h
/-- blanks ahead turn nothing -/
theorem val_gaps (d : Nat) (f : Bool) (l : Ln) : val d f (gaps l) = val d f l := by
  cases d <;> · unfold val vstep; rw [gaps_gaps]
theorem val_ahead (d n : Nat) (f : Bool) (l : Ln) : val d f (List.replicate n 32 ++ l) = val d f l := by
  rw [← val_gaps, gaps_rep, val_gaps]
end Go.Proofs.YtkggdjghjdakoaaGreatDoor.Flw
