/- Several texts as one: RowsPlain, PlainModel, PlainModel2, FlowModel, FlowMem, FlowRnameP. -/
import Derived.Test.YtaphijgbebhdlaaGreatDoorV00UtfPlain
import Derived.Laws.Strings2
import Derived.Lib.ItoaNum
import Derived.Lib.AtoiAll
import Derived.Test.YtaphijgbebhdlaaGreatDoorRows
import Derived.WalkKit
import Derived.WalkSpells
import Derived.WalkLawsBesides
import Derived.BigQuiet
import Derived.Deep.QuietTactic
import Derived.Laws.BitsAllLaws
section
/- Lines, rows and notes: plain functions on lists of bytes. -/
namespace Go.Proofs.YtaphijgbebhdlaaGreatDoor.Rws
open Utf
set_option linter.unusedSimpArgs false
set_option linter.unusedVariables false

def mk (l : List UInt8) : ByteArray := ⟨l.toArray⟩
theorem mk_data (l : List UInt8) : (mk l).data.toList = l := by simp [mk]
theorem mk_size (l : List UInt8) : (mk l).size = l.length := by simp [mk, ByteArray.size]
theorem mk_of (s : ByteArray) : mk s.data.toList = s := by simp [mk]
theorem mk_inj {a b : List UInt8} (h : mk a = mk b) : a = b := by rw [← mk_data a, h, mk_data]
theorem mk_ext (l : List UInt8) (i j : Nat) : (mk l).extract i j = mk ((l.drop i).take (j - i)) := by
  have h := ByteArray.extract_mk l i j
  unfold mk
  rw [h]
theorem mk_get (l : List UInt8) (k : Nat) (h : k < (mk l).size) : (mk l)[k]'h = l[k]'(by rw [mk_size] at h; exact h) := by
  simp [mk, ByteArray.getElem_eq_getElem_data]

/-- the blanks of a note -/
def sp (b : UInt8) : Bool := b == 32 || b == 9
def is32 (b : UInt8) : Bool := b == 32
def trL (l : List UInt8) : List UInt8 := l.dropWhile is32
def trR (p : UInt8 → Bool) (l : List UInt8) : List UInt8 := (l.reverse.dropWhile p).reverse
/-- up to the first feed -/
def not10 (b : UInt8) : Bool := b != 10
def bef (l : List UInt8) : List UInt8 := l.takeWhile not10
def has (c : UInt8) (l : List UInt8) : Bool := l.any (· == c)
def chop (l : List UInt8) : List UInt8 := if l.getLast? = some 13 then l.dropLast else l
def line (l : List UInt8) : List UInt8 := if has 10 l = true then chop (bef l) else l
def idx (c : UInt8) (l : List UInt8) : Int := if has c l = true then ((l.takeWhile (· != c)).length : Int) else -1
theorem idx_no {c : UInt8} {l : List UInt8} (h : has c l = false) : idx c l = -1 := by unfold idx; rw [h]; rfl
theorem idx_yes {c : UInt8} {l : List UInt8} (h : has c l = true) : idx c l = ((l.takeWhile (· != c)).length : Int) := by unfold idx; rw [h]; rfl
def text (l : List UInt8) : List UInt8 := trR is32 (trL l)
def emp (t : List UInt8) : Bool := t.head? == none || t.head? == some 35
def bad (l : List UInt8) : Bool := has 13 l || (chk l).isSome
def wr (l : List UInt8) : Int := if bad l = true then 8 else if (!emp (text l) && (text l).head? == some 9) = true then 9 else 0
/-- notes -/
def hx : Bool → List UInt8 → Nat
  | _, [] => 0
  | q, b :: r => if (b == 35 && q) = true then 0 else hx (sp b) r + 1
def note (l : List UInt8) : List UInt8 := trR sp (l.take (hx true l))
end Go.Proofs.YtaphijgbebhdlaaGreatDoor.Rws
end

section
/- Plain texts, their ends and cuts: plain functions on lists of bytes. -/
namespace Go.Proofs.YtaphijgbebhdlaaGreatDoor.Pln
open Utf Rws
set_option linter.unusedSimpArgs false
set_option linter.unusedVariables false

def flows : List UInt8 := [44, 91, 93, 123, 125]
def marks : List UInt8 := [63, 58, 44, 91, 93, 123, 125, 35, 38, 42, 33, 124, 62, 39, 34, 37, 64, 96]
def fl (b : UInt8) : Bool := has b flows
def mrk (b : UInt8) : Bool := has b marks
/-- does anything end the text at a place? -/
def en (l : List UInt8) (f : Bool) (i : Nat) : Bool :=
  if (l.getD i 0 == 58) = true then (i + 1 == l.length || l.getD (i + 1) 0 == 32 || (f && fl (l.getD (i + 1) 0)))
  else if (l.getD i 0 == 35) = true then (decide (0 < i) && l.getD (i - 1) 0 == 32)
  else (f && fl (l.getD i 0))
/-- the first such place from i on, of k places -/
def fro (l : List UInt8) (f : Bool) : Nat → Nat → Nat
  | 0, i => i
  | k + 1, i => if en l f i = true then i else fro l f k (i + 1)
def fin (l : List UInt8) (f : Bool) : Nat := fro l f l.length 0
def cutT (l : List UInt8) (f : Bool) : List UInt8 := trR is32 (l.take (fin l f))
def bg (l : List UInt8) : Bool := !(l == []) && !(l == [45]) && !(l == [45, 45, 45]) && !(l.getD 0 0 == 32) && !(mrk (l.getD 0 0)) && !(l.take 2 == [45, 32])
def pri (l : List UInt8) : Bool := (chk l).isNone && !(has 9 l || has 10 l || has 13 l)
def isP (l : List UInt8) (f : Bool) : Bool := pri l && bg l && !(l.getD (l.length - 1) 0 == 32) && (fin l f == l.length)

end Go.Proofs.YtaphijgbebhdlaaGreatDoor.Pln
end

section
/- Numbers and their texts: plain functions on lists of bytes. -/
namespace Go.Proofs.YtaphijgbebhdlaaGreatDoor.Pln
open Utf Rws
set_option linter.unusedSimpArgs false
set_option linter.unusedVariables false

def inI (v : Int) : Prop := -9223372036854775808 ≤ v ∧ v ≤ 9223372036854775807
def numA (l : List UInt8) : Option Int :=
  match Lib.atoiAll l with
  | .ok v => if Lib.itoa v = l then some v else none
  | _ => none
def numN (l : List UInt8) : Int := (numA l).getD 0
def numB (l : List UInt8) : Bool := (numA l).isSome
def dig (b : UInt8) : Bool := decide (48 ≤ b.toNat) && decide (b.toNat ≤ 57)

theorem numA_ok {l : List UInt8} {v : Int} (h : Lib.atoiAll l = .ok v) : numA l = if Lib.itoa v = l then some v else none := by unfold numA; rw [h]
theorem numA_no {l : List UInt8} (h : ∀ v, Lib.atoiAll l ≠ .ok v) : numA l = none := by
  unfold numA
  split
  · rename_i v hv; exact absurd hv (h v)
  · rfl
theorem atoi_in {l : List UInt8} {v : Int} (h : Lib.atoiAll l = .ok v) : inI v := by
  unfold Lib.atoiAll at h
  split at h
  · cases h
  · simp only at h
    split at h
    · cases h
    · cases h
    · split at h
      · cases h
      · split at h
        · cases h
        · injection h with h
          unfold inI
          rw [← h]
          split <;> omega
theorem numA_some {l : List UInt8} {v : Int} (h : numA l = some v) : Lib.itoa v = l ∧ inI v := by
  unfold numA at h
  split at h
  · rename_i u hu
    split at h
    · rename_i he
      injection h with h
      subst h
      exact ⟨he, atoi_in hu⟩
    · cases h
  · cases h

theorem dd_small {u : Nat} (h : u < 10) : Lib.decDigits u = [UInt8.ofNat (48 + u)] := by rw [Lib.decDigits, dif_pos h]
theorem dd_big {u : Nat} (h : ¬ u < 10) : Lib.decDigits u = Lib.decDigits (u / 10) ++ [UInt8.ofNat (48 + u % 10)] := by rw [Lib.decDigits, dif_neg h]
theorem of48 (d : Nat) (h : d < 10) : (UInt8.ofNat (48 + d)).toNat = 48 + d := by
  rw [UInt8.toNat_ofNat']; omega

theorem parse_snoc (l : List UInt8) (c : UInt8) : ∀ (acc a : Nat), Lib.parseUint10 acc l = .ok a → 48 ≤ c.toNat ∧ c.toNat ≤ 57 → a * 10 + (c.toNat - 48) < 18446744073709551616 → Lib.parseUint10 acc (l ++ [c]) = .ok (a * 10 + (c.toNat - 48)) := by
  induction l with
  | nil =>
    intro acc a h hc hlt
    simp only [Lib.parseUint10] at h
    injection h with h
    subst h
    simp only [List.nil_append, Lib.parseUint10]
    rw [if_pos hc, if_neg (by omega), if_neg (by omega)]
  | cons b r ih =>
    intro acc a h hc hlt
    simp only [Lib.parseUint10] at h
    simp only [List.cons_append, Lib.parseUint10]
    split at h
    · rename_i hb
      rw [if_pos hb]
      split at h
      · cases h
      · rename_i h1
        rw [if_neg h1]
        split at h
        · cases h
        · rename_i h2
          rw [if_neg h2]
          exact ih _ _ h hc hlt
    · cases h
theorem parse_dd (u : Nat) (h : u < 18446744073709551616) : Lib.parseUint10 0 (Lib.decDigits u) = .ok u := by
  induction u using Nat.strongRecOn with
  | ind u ih =>
    by_cases hu : u < 10
    · have e := of48 u hu
      have hp := parse_snoc [] (UInt8.ofNat (48 + u)) 0 0 rfl (by rw [e]; omega) (by rw [e]; omega)
      rw [dd_small hu]
      rw [e] at hp
      rw [List.nil_append] at hp
      rw [hp]; congr 1; omega
    · have e := of48 (u % 10) (by omega)
      have hp := parse_snoc (Lib.decDigits (u / 10)) (UInt8.ofNat (48 + u % 10)) 0 (u / 10) (ih (u / 10) (by omega) (by omega)) (by rw [e]; omega) (by rw [e]; omega)
      rw [dd_big hu]
      rw [e] at hp
      rw [hp]; congr 1; omega

/-- all are digits, and there is one -/
theorem dd_dig (u : Nat) : (Lib.decDigits u).all dig = true ∧ Lib.decDigits u ≠ [] := by
  induction u using Nat.strongRecOn with
  | ind u ih =>
    by_cases hu : u < 10
    · have e := of48 u hu
      rw [dd_small hu]
      refine ⟨?_, by simp⟩
      simp only [List.all_cons, List.all_nil, Bool.and_true, dig, e]
      simp; omega
    · have e := of48 (u % 10) (by omega)
      rw [dd_big hu]
      refine ⟨?_, by simp⟩
      rw [List.all_append, (ih (u / 10) (by omega)).1]
      simp only [List.all_cons, List.all_nil, Bool.and_true, dig, e]
      simp; omega
theorem dd_head (u : Nat) : ∃ c r, Lib.decDigits u = c :: r ∧ dig c = true := by
  obtain ⟨h1, h2⟩ := dd_dig u
  cases h : Lib.decDigits u with
  | nil => exact absurd h h2
  | cons c r => rw [h] at h1; simp only [List.all_cons, Bool.and_eq_true] at h1; exact ⟨c, r, rfl, h1.1⟩
theorem dd_len (k : Nat) : ∀ u : Nat, u < 10 ^ (k + 1) → (Lib.decDigits u).length ≤ k + 1 := by
  induction k with
  | zero => intro u hu; rw [dd_small (by simpa using hu)]; simp
  | succ k ih =>
    intro u hu
    by_cases h : u < 10
    · rw [dd_small h]; simp
    · rw [dd_big h, List.length_append]
      have := ih (u / 10) (by rw [Nat.pow_succ] at hu; omega)
      simp; omega
theorem dig_not {c : UInt8} (h : dig c = true) : c.toNat ≠ 45 ∧ c.toNat ≠ 43 := by
  unfold dig at h; simp at h; omega

theorem itoa_pos {v : Int} (h : 0 ≤ v) : Lib.itoa v = Lib.decDigits v.toNat := by unfold Lib.itoa; rw [if_neg (by omega)]
theorem itoa_neg {v : Int} (h : v < 0) : Lib.itoa v = 45 :: Lib.decDigits v.natAbs := by unfold Lib.itoa; rw [if_pos h]

theorem atoi_itoa (v : Int) (h : inI v) : Lib.atoiAll (Lib.itoa v) = .ok v := by
  unfold inI at h
  by_cases hv : 0 ≤ v
  · rw [itoa_pos hv]
    obtain ⟨c, r, e, hc⟩ := dd_head v.toNat
    have hp := parse_dd v.toNat (by omega)
    obtain ⟨n1, n2⟩ := dig_not hc
    rw [e] at hp ⊢
    unfold Lib.atoiAll
    simp only
    rw [if_neg (by omega)]
    unfold Lib.parseMag
    rw [if_neg (by simp), hp]
    simp only
    rw [if_neg (by omega), if_neg (by omega), if_neg n1]
    congr 1; omega
  · rw [itoa_neg (by omega)]
    have hp := parse_dd v.natAbs (by omega)
    have hne := (dd_dig v.natAbs).2
    unfold Lib.atoiAll
    simp only
    rw [if_pos (by decide)]
    unfold Lib.parseMag
    rw [if_neg hne, hp]
    simp only
    rw [if_neg (by simp), if_neg (by omega), if_pos (by decide)]
    congr 1; omega
theorem numA_itoa (v : Int) (h : inI v) : numA (Lib.itoa v) = some v := by rw [numA_ok (atoi_itoa v h), if_pos rfl]
/-- texts of digits and a sign are plain -/
def dg (b : UInt8) : Bool := b == 45 || dig b
theorem dg_bd {b : UInt8} (h : dg b = true) : 45 ≤ b.toNat ∧ b.toNat ≤ 57 ∧ (b.toNat = 45 ∨ 48 ≤ b.toNat) := by
  unfold dg dig at h
  simp at h
  rcases h with rfl | h
  · decide
  · omega
theorem getD_mem (l : List UInt8) (i : Nat) (h : i < l.length) : l.getD i 0 ∈ l := by
  rw [List.getD_eq_getElem?_getD, List.getElem?_eq_getElem h]; exact List.getElem_mem h
/-- P6.4: a number's text is plain -/
theorem itoa_dg (v : Int) : (∀ b ∈ Lib.itoa v, dg b = true) ∧ Lib.itoa v ≠ [] ∧ Lib.itoa v ≠ [45] ∧ Lib.itoa v ≠ [45, 45, 45] := by
  have hd : ∀ u, ∀ b ∈ Lib.decDigits u, dg b = true := fun u b hb => by
    have := List.all_eq_true.1 (dd_dig u).1 b hb
    unfold dg; rw [this]; simp
  have h45 : ∀ u r, Lib.decDigits u ≠ 45 :: r := fun u r e => by
    obtain ⟨c, r', e', hc⟩ := dd_head u
    rw [e] at e'
    injection e' with e1 e2
    rw [← e1] at hc
    revert hc; decide
  by_cases hv : 0 ≤ v
  · rw [itoa_pos hv]
    exact ⟨hd _, (dd_dig _).2, h45 _ _, h45 _ _⟩
  · rw [itoa_neg (by omega)]
    refine ⟨?_, by simp, ?_, ?_⟩
    · intro b hb
      rcases List.mem_cons.1 hb with rfl | hb
      · rfl
      · exact hd _ b hb
    · intro e; injection e with _ e; exact (dd_dig _).2 e
    · intro e; injection e with _ e; exact h45 _ _ e
theorem itoa_len (v : Int) (h : inI v) : (Lib.itoa v).length ≤ 20 := by
  unfold inI at h
  by_cases hv : 0 ≤ v
  · rw [itoa_pos hv]
    have := dd_len 18 v.toNat (by omega)
    omega
  · rw [itoa_neg (by omega), List.length_cons]
    have := dd_len 18 v.natAbs (by omega)
    omega

end Go.Proofs.YtaphijgbebhdlaaGreatDoor.Pln
end

section
/- Values in one line: trees, their texts, and how these are read, as plain functions. A fault is its number and how many bytes stand behind its place. -/
namespace Go.Proofs.YtaphijgbebhdlaaGreatDoor.Flw
open Utf Rws Pln
set_option linter.unusedSimpArgs false
set_option linter.unusedVariables false

abbrev Ln := List UInt8
structure Tr where
  kind : Int
  text : List UInt8
  anc : List UInt8
  kids : List Tr
abbrev Fa := Nat × Nat
abbrev Ot (α : Type) := Except Fa α
def bnd {α β : Type} (x : Ot α) (f : α → Ot β) : Ot β := match x with | .ok a => f a | .error e => .error e
/-- may a byte stand in a name? -/
def letter (c : UInt8) : Bool := (decide (97 ≤ c.toNat) && decide (c.toNat ≤ 122)) || (decide (65 ≤ c.toNat) && decide (c.toNat ≤ 90)) || (decide (48 ≤ c.toNat) && decide (c.toNat ≤ 57)) || c == 45 || c == 95
def isName (l : Ln) : Bool := l.all letter && decide (1 ≤ l.length) && decide (l.length ≤ 32)
/-- a plain text's kind: Null 1, Bool 2, Int 3, Str 4 (PlainNum's kind) -/
def knd (l : Ln) : Int :=
  if (l == [] || l == [126] || l == [110, 117, 108, 108]) = true then 1
  else if (l == [116, 114, 117, 101] || l == [102, 97, 108, 115, 101]) = true then 2
  else if numB l = true then 3 else 4
/-- the next byte; 0: there is none -/
def hd (l : Ln) : UInt8 := l.getD 0 0
def stands (l : Ln) : Fa := if l = [] then (4, 0) else (3, l.length)
def gaps (l : Ln) : Ln := l.dropWhile is32
def nam (l : Ln) : Ot (Ln × Ln) :=
  if ((l.takeWhile letter).take 32).length = 0 ∨ letter (hd (l.drop ((l.takeWhile letter).take 32).length)) = true then .error (stands (l.drop ((l.takeWhile letter).take 32).length))
  else .ok ((l.takeWhile letter).take 32, l.drop ((l.takeWhile letter).take 32).length)
/-- a tag's word: its kind; 0: none -/
def word (l : Ln) : Int :=
  if l = [110, 117, 108, 108] then 1 else if l = [98, 111, 111, 108] then 2 else if l = [105, 110, 116] then 3
  else if l = [115, 116, 114] then 4 else if l = [115, 101, 113] then 5 else if l = [109, 97, 112] then 6 else 0
def tag (l : Ln) : Ot (Int × Ln) :=
  if word (l.takeWhile letter) = 0 then .error (stands l) else .ok (word (l.takeWhile letter), l.drop (l.takeWhile letter).length)
def gap (f : Bool) (l : Ln) : Ot Ln :=
  if l ≠ [] ∧ hd l ≠ 32 ∧ ¬ (f = true ∧ fl (hd l) = true) then .error (3, l.length) else .ok (gaps l)
/-- a value's properties: its anchor, its tag (0: none), how many bytes stand from the tag on, and is there one? -/
structure Pr where
  anc : Ln
  tag : Int
  at_ : Nat
  some : Bool
def p0 : Pr := ⟨[], 0, 0, false⟩
def prp (f : Bool) : Nat → Pr → Ln → Ot (Pr × Ln)
  | 0, p, l => .ok (p, l)
  | n + 1, p, l =>
    if hd l = 38 ∧ p.anc = [] then
      bnd (nam (l.drop 1)) fun x => bnd (gap f x.2) fun r => prp f n ⟨x.1, p.tag, p.at_, true⟩ r
    else if hd l = 33 ∧ hd (l.drop 1) = 33 ∧ p.tag = 0 then
      bnd (tag (l.drop 2)) fun x => bnd (gap f x.2) fun r => prp f n ⟨p.anc, x.1, l.length, true⟩ r
    else .ok (p, l)
def quoted (l : Ln) : Ot (Ln × Ln) :=
  if (Quo.rd l).2.2.1 ≠ 0 then .error ((Quo.rd l).2.2.1, l.length - (Quo.rd l).2.2.2) else .ok ((Quo.rd l).1, l.drop (Quo.rd l).2.1)
def plain (f : Bool) (l : Ln) : Ot (Ln × Ln) :=
  if cutT l f ≠ [] ∧ isP (cutT l f) f = false then .error (3, l.length) else .ok (cutT l f, l.drop (cutT l f).length)
/-- a scalar of a kind -/
def leaf (k : Int) (s anc : Ln) : Tr := ⟨k, if k = 1 then [] else s, anc, []⟩
def fits (s : Ln) (q : Bool) (p : Pr) : Ot Tr :=
  if p.tag = 4 then .ok (leaf 4 s p.anc)
  else if p.tag ≠ 0 then (if knd s ≠ p.tag then .error (12, p.at_) else .ok (leaf p.tag s p.anc))
  else .ok (leaf (if q then 4 else knd s) s p.anc)
def key (l : Ln) : Ot (Tr × Ln) :=
  if hd l = 39 ∨ hd l = 34 then bnd (quoted l) fun x => .ok (⟨4, x.1, [], []⟩, x.2)
  else bnd (plain true l) fun x => if x.1 = [] then .error (stands l) else .ok (leaf (knd x.1) x.1 [], x.2)
/-- does a colon stand ahead, that ends a key in a flow? -/
def colon (l : Ln) : Bool := hd l == 58 && (decide (l.length ≤ 1) || hd (l.drop 1) == 32 || fl (hd (l.drop 1)))
def endOf (map : Bool) : UInt8 := if map then 125 else 93
/-- a part of a bracket: a value, or an entry -/
def part (v : Ln → Ot (Tr × Ln)) (map : Bool) (l : Ln) : Ot (List Tr × Ln) :=
  if map then bnd (key l) fun k => if colon (gaps k.2) = false then .error (stands (gaps k.2)) else bnd (v ((gaps k.2).drop 1)) fun x => .ok ([k.1, x.1], x.2)
  else if l = [] ∨ hd l = 44 then .error (stands l) else bnd (v l) fun x => .ok ([x.1], x.2)
def lst (v : Ln → Ot (Tr × Ln)) (map : Bool) : Nat → Ln → Ot (List Tr × Ln)
  | 0, l => .error (stands l)
  | n + 1, l =>
    if hd (gaps l) = endOf map then .ok ([], (gaps l).drop 1)
    else bnd (part v map (gaps l)) fun x =>
      if hd (gaps x.2) = 44 then bnd (lst v map n ((gaps x.2).drop 1)) fun y => .ok (x.1 ++ y.1, y.2)
      else if hd (gaps x.2) = endOf map then .ok (x.1, (gaps x.2).drop 1) else .error (stands (gaps x.2))
def kindOf (map : Bool) : Int := if map then 6 else 5
/-- a value, behind its properties; 'inner' reads what lies in it, if it may be so deep -/
def body (inner : Option (Ln → Ot (Tr × Ln))) (f : Bool) (p : Pr) (l : Ln) : Ot (Tr × Ln) :=
  if hd l = 42 then (if p.some = true then .error (stands l) else bnd (nam (l.drop 1)) fun x => .ok (⟨7, [], x.1, []⟩, x.2))
  else if hd l = 91 ∨ hd l = 123 then
    match inner with
    | none => .error (10, l.length)
    | some v => bnd (lst v (hd l == 123) l.length (l.drop 1)) fun x =>
        if p.tag ≠ 0 ∧ p.tag ≠ kindOf (hd l == 123) then .error (12, p.at_) else .ok (⟨kindOf (hd l == 123), [], p.anc, x.1⟩, x.2)
  else if hd l = 39 ∨ hd l = 34 then bnd (quoted l) fun x => bnd (fits x.1 true p) fun t => .ok (t, x.2)
  else bnd (plain f l) fun x => bnd (fits x.1 false p) fun t => .ok (t, x.2)
def vstep (inner : Option (Ln → Ot (Tr × Ln))) (f : Bool) (l : Ln) : Ot (Tr × Ln) := bnd (prp f 3 p0 (gaps l)) fun x => body inner f x.1 x.2
/-- a value that may hold d more within one another -/
def val : Nat → Bool → Ln → Ot (Tr × Ln)
  | 0, f, l => vstep none f l
  | d + 1, f, l => vstep (some fun m => val d true m) f l
def tr0 : Tr := ⟨0, [], [], []⟩
/-- Read: the tree, how many bytes, the fault's number and place -/
def read (l : Ln) (f : Bool) : Tr × Nat × Nat × Nat :=
  match val 64 f l with
  | .ok x => (x.1, (trR is32 (l.take (l.length - x.2.length))).length, 0, 0)
  | .error e => (tr0, 0, e.1, l.length - e.2)
/-- a scalar's text -/
def scl (f : Bool) (k : Int) (s : Ln) : Ln :=
  if k = 1 then [110, 117, 108, 108] else if k = 2 ∨ k = 3 then s
  else if k = 4 then (if isP s f = true ∧ knd s = 4 then s else if (dec s).2 = none then Quo.dbl s else []) else []
def sep (map : Bool) (i : Nat) : Ln := if i = 0 then [] else if map = true ∧ i % 2 = 1 then [58, 32] else [44, 32]
def jn (map : Bool) : Nat → List Ln → Ln
  | _, [] => []
  | i, k :: ks => sep map i ++ k ++ jn map (i + 1) ks
def ancW (a : Ln) : Ln := if a = [] then [] else 38 :: (a ++ [32])
def wstep (inner : Tr → Ln) (t : Tr) : Ln :=
  if t.kind = 7 then 42 :: t.anc
  else if 1 ≤ t.kind ∧ t.kind ≤ 4 then ancW t.anc ++ scl true t.kind t.text
  else ancW t.anc ++ ((if t.kind = 6 then 123 else 91) :: (jn (decide (t.kind = 6)) 0 (t.kids.map inner) ++ [if t.kind = 6 then 125 else 93]))
/-- a tree's text, as far as d within one another -/
def wrt : Nat → Tr → Ln
  | 0, t => wstep (fun _ => []) t
  | d + 1, t => wstep (fun k => wrt d k) t

def txt (k : Int) (s : Ln) : Bool :=
  if k = 2 then s == [116, 114, 117, 101] || s == [102, 97, 108, 115, 101]
  else if k = 3 then decide (knd s = 3) else if k = 4 then (dec s).2.isNone else s == []
def isKey (t : Tr) : Bool := decide (1 ≤ t.kind) && decide (t.kind ≤ 4) && t.anc == []
/-- the keys, from the i-th place on -/
def keysOk : Nat → List Tr → Bool
  | _, [] => true
  | i, k :: ks => (!(i % 2 == 0) || isKey k) && keysOk (i + 1) ks
def rstep (inner : Option (Tr → Bool)) (t : Tr) : Bool :=
  decide (1 ≤ t.kind) && decide (t.kind ≤ 7) && ((t.anc == [] && !decide (t.kind = 7)) || isName t.anc) && txt t.kind t.text &&
  (if t.kind ≠ 5 ∧ t.kind ≠ 6 then t.kids.isEmpty
   else match inner with
    | none => false
    | some v => (!decide (t.kind = 6) || (t.kids.length % 2 == 0 && keysOk 0 t.kids)) && t.kids.all v)
/-- may a tree be, that may hold d more within one another? -/
def rgt : Nat → Tr → Bool
  | 0, t => rstep none t
  | d + 1, t => rstep (some fun k => rgt d k) t
/-- how many trees there are, as far as d within one another -/
def cntT : Nat → Tr → Nat
  | 0, _ => 1
  | d + 1, t => 1 + (t.kids.map fun k => cntT d k).sum
end Go.Proofs.YtaphijgbebhdlaaGreatDoor.Flw
end

section
/- A tree in memory. -/
namespace Go.Proofs.YtaphijgbebhdlaaGreatDoor.Flw
open Utf Rws Pln
open Go.RowKit
set_option linter.unusedSimpArgs false
set_option linter.unusedVariables false
set_option maxRecDepth 100000

/-- a tree's value, d within one another at the most -/
def TrV (w : World) : Nat → Value → Tr → Prop
  | 0, _, _ => False
  | d + 1, v, t => ∃ ad len cap, v = .agg #[.int .i64 t.kind, .string (mk t.text), .string (mk t.anc), .slice ad len cap] ∧ len = t.kids.length ∧ len ≤ cap ∧ cap ≤ maxLen ∧ (-9223372036854775808 ≤ t.kind ∧ t.kind ≤ 9223372036854775807 ∧ t.text.length ≤ 9223372036854775807 ∧ t.anc.length ≤ 9223372036854775807) ∧
      (0 < len → ∃ b off, ad = some ⟨b, off, none⟩ ∧ b < w.heap.size ∧ ∀ i, i < len → ∃ c0 c1 c2 c3, w.cell? ⟨b, off + i * 4, none⟩ = some c0 ∧ w.cell? ⟨b, off + i * 4 + 1, none⟩ = some c1 ∧
        w.cell? ⟨b, off + i * 4 + 2, none⟩ = some c2 ∧ w.cell? ⟨b, off + i * 4 + 3, none⟩ = some c3 ∧ TrV w d (.agg #[c0, c1, c2, c3]) (t.kids.getD i tr0))
theorem TrV.later {w w' : World} {B : Nat} (hb : Below B w w') (hB : w.heap.size ≤ B) : ∀ {d : Nat} {v : Value} {t : Tr}, TrV w d v t → TrV w' d v t
  | 0, v, t, h => h
  | d + 1, v, t, h => by
    obtain ⟨ad, len, cap, rfl, hl, hc, hm, hz, hk⟩ := h
    refine ⟨ad, len, cap, rfl, hl, hc, hm, hz, fun hp => ?_⟩
    obtain ⟨b, off, ha, hlt, hcell⟩ := hk hp
    have hbB : b < B := Nat.lt_of_lt_of_le hlt hB
    refine ⟨b, off, ha, Nat.lt_of_lt_of_le hlt hb.size, fun i hi => ?_⟩
    obtain ⟨c0, c1, c2, c3, h0, h1, h2, h3, ht⟩ := hcell i hi
    exact ⟨c0, c1, c2, c3, (hb.cell (p := ⟨b, off + i * 4, none⟩) hbB).trans h0, (hb.cell (p := ⟨b, off + i * 4 + 1, none⟩) hbB).trans h1, (hb.cell (p := ⟨b, off + i * 4 + 2, none⟩) hbB).trans h2,
      (hb.cell (p := ⟨b, off + i * 4 + 3, none⟩) hbB).trans h3, TrV.later hb hB ht⟩
theorem TrV.more {w : World} : ∀ {d d' : Nat} {v : Value} {t : Tr}, TrV w d v t → d ≤ d' → TrV w d' v t
  | 0, d', v, t, h, hd => h.elim
  | d + 1, d', v, t, h, hd => by
    obtain ⟨e, rfl⟩ : ∃ e, d' = e + 1 := ⟨d' - 1, by omega⟩
    obtain ⟨ad, len, cap, rfl, hl, hc, hm, hz, hk⟩ := h
    refine ⟨ad, len, cap, rfl, hl, hc, hm, hz, fun hp => ?_⟩
    obtain ⟨b, off, ha, hlt, hcell⟩ := hk hp
    refine ⟨b, off, ha, hlt, fun i hi => ?_⟩
    obtain ⟨c0, c1, c2, c3, h0, h1, h2, h3, ht⟩ := hcell i hi
    exact ⟨c0, c1, c2, c3, h0, h1, h2, h3, TrV.more ht (by omega)⟩
theorem beq_mk (a b : Ln) : ((mk a).toList == (mk b).toList) = (a == b) := by
  rw [ByteArray.toList_eq, ByteArray.toList_eq, mk_data, mk_data]
/-- the kids of a tree in memory -/
def KAt (w : World) (d : Nat) (ad : Option Addr) (len : Nat) (ks : List Tr) : Prop :=
  len = ks.length ∧ (0 < len → ∃ b off, ad = some ⟨b, off, none⟩ ∧ b < w.heap.size ∧ ∀ i, i < len → ∃ c0 c1 c2 c3, w.cell? ⟨b, off + i * 4, none⟩ = some c0 ∧ w.cell? ⟨b, off + i * 4 + 1, none⟩ = some c1 ∧
        w.cell? ⟨b, off + i * 4 + 2, none⟩ = some c2 ∧ w.cell? ⟨b, off + i * 4 + 3, none⟩ = some c3 ∧ TrV w d (.agg #[c0, c1, c2, c3]) (ks.getD i tr0))
theorem TrV.cells {w : World} {d : Nat} {c0 c1 c2 c3 : Value} {t : Tr} (h : TrV w d (.agg #[c0, c1, c2, c3]) t) : ∃ (k : Int) (s a : ByteArray) (ad : Option Addr) (len cap : Nat), c0 = .int .i64 k ∧ c1 = .string s ∧ c2 = .string a ∧ c3 = .slice ad len cap := by
  cases d with
  | zero => exact h.elim
  | succ d =>
    obtain ⟨ad, len, cap, e, _⟩ := h
    simp only [Value.agg.injEq, Array.mk.injEq, List.cons.injEq, and_true] at e
    exact ⟨_, _, _, ad, len, cap, e.1, e.2.1, e.2.2.1, e.2.2.2⟩
end Go.Proofs.YtaphijgbebhdlaaGreatDoor.Flw
end

section
/- Letters of names: plain facts. -/
namespace Go.Proofs.YtaphijgbebhdlaaGreatDoor.Flw
open Utf Rws Pln
open Go.RowKit
set_option linter.unusedSimpArgs false
set_option linter.unusedVariables false
set_option maxRecDepth 100000

theorem letter_num {c : UInt8} {x : Nat} (hx : x = c.toNat) : letter c = (decide (97 ≤ x ∧ x ≤ 122) || decide (65 ≤ x ∧ x ≤ 90) || decide (48 ≤ x ∧ x ≤ 57) || decide (x = 45) || decide (x = 95)) := by
  subst hx
  unfold letter
  have e1 : (c == 45) = decide (c.toNat = 45) := by
    rw [Bool.eq_iff_iff, beq_iff_eq, decide_eq_true_eq]
    exact ⟨fun h => by rw [h]; rfl, fun h => UInt8.toNat_inj.1 h⟩
  have e2 : (c == 95) = decide (c.toNat = 95) := by
    rw [Bool.eq_iff_iff, beq_iff_eq, decide_eq_true_eq]
    exact ⟨fun h => by rw [h]; rfl, fun h => UInt8.toNat_inj.1 h⟩
  rw [e1, e2]
  simp only [Bool.decide_and]
theorem all_take (l : Ln) (n : Nat) (h : n < l.length) : (l.take (n + 1)).all letter = ((l.take n).all letter && letter (l.getD n 0)) := by
  rw [List.take_add_one, List.getElem?_eq_getElem h, List.getD_eq_getElem?_getD, List.getElem?_eq_getElem h, List.all_append]
  simp
theorem all_hit (l : Ln) (n : Nat) (h : n < l.length) (hn : letter (l.getD n 0) = false) : isName l = false := by
  unfold isName
  have : l.all letter = false := by
    rw [List.all_eq_false]
    refine ⟨l[n], List.getElem_mem h, ?_⟩
    rw [List.getD_eq_getElem?_getD, List.getElem?_eq_getElem h] at hn
    simpa using hn
  rw [this]
  rfl
theorem getD_mk (l : Ln) (n : Nat) (h : n < (mk l).size) : (mk l)[n]'h = l.getD n 0 := by
  have h' : n < l.length := by rw [mk_size] at h; exact h
  rw [List.getD_eq_getElem?_getD, List.getElem?_eq_getElem h']
  rfl
end Go.Proofs.YtaphijgbebhdlaaGreatDoor.Flw
end
