/- A disk as plain data: tables of names, files, changes; and its calls as plain functions. -/
import GoSem.ClaimWide
import GoSem.ClaimMapViews
namespace Go.Proofs.Ytedpiikdlpehjaa.Dsk
open Go
set_option linter.unusedSimpArgs false
set_option linter.unusedVariables false

abbrev Nm := List UInt8
/-- names, rising, each with the place of its file -/
abbrev Tbl := List (Nm × Nat)
def ins (x : Nm × Nat) : Tbl → Tbl
  | [] => [x]
  | y :: r => if bytesBefore x.1 y.1 then x :: y :: r else y :: ins x r
def del (t : Tbl) (k : Nm) : Tbl := t.filter fun p => !(p.1 == k)
def put (t : Tbl) (k : Nm) (i : Nat) : Tbl := ins (k, i) (del t k)
def look (t : Tbl) (k : Nm) : Option Nat := (t.find? fun p => p.1 == k).map (·.2)
structure Fl where
  data : List UInt8
  kept : Nat
structure Chg where
  gone : Nm
  name : Nm
  to : Option Nat
def Chg.app (c : Chg) (t : Tbl) : Tbl :=
  match c.to with
  | none => del t c.gone
  | some i => put (del t c.gone) c.name i
structure M where
  on : Bool
  room : Nat
  calls : Nat
  fuse : Int
  names : Tbl
  kept : Tbl
  since : List Chg
  files : List Fl
def nul : Fl := ⟨[], 0⟩
def M.new (room : Nat) : M := ⟨true, room, 0, -1, [], [], [], []⟩
def M.file (m : M) (i : Nat) : Fl := m.files.getD i nul
def total (fs : List Fl) (t : Tbl) : Nat := (t.map fun p => (fs.getD p.2 nul).data.length).sum
def M.used (m : M) : Nat := total m.files m.names
/-- a call is done -/
def M.spent (m : M) : M := { m with fuse := if 0 < m.fuse then m.fuse - 1 else m.fuse, calls := m.calls + 1 }
def M.off (m : M) : M := { m with on := false }
def sig (b : UInt8) : Bool := b == 46 || b == 45 || b == 95 || (97 ≤ b && b ≤ 122) || (48 ≤ b && b ≤ 57)
def isNm (n : Nm) : Bool := decide (1 ≤ n.length) && decide (n.length ≤ 32) && n.all sig
def M.turn (m : M) (c : Chg) : M := { m with names := c.app m.names, since := m.since ++ [c] }
/-- what a call that finds its way makes: with the power off, or f -/
def M.does (m : M) (f : M → M) : M × Nat := if m.fuse = 0 then (m.off, 15) else (f m.spent, 0)
def M.create (m : M) (n : Nm) : M × Nat :=
  if m.on = false then (m, 15) else if isNm n = false then (m, 1) else if look m.names n = none ∧ m.names.length = 64 then (m, 5)
  else m.does fun s => { s.turn ⟨[], n, some m.files.length⟩ with files := m.files ++ [nul] }
def M.append (m : M) (n : Nm) (b : List UInt8) : M × Nat :=
  if m.on = false then (m, 15) else match look m.names n with
  | none => (m, 6)
  | some i => if m.room < m.used + b.length then (m, 14) else m.does fun s => { s with files := s.files.set i ⟨(s.file i).data ++ b, (s.file i).kept⟩ }
def M.sync (m : M) (n : Nm) : M × Nat :=
  if m.on = false then (m, 15) else match look m.names n with
  | none => (m, 6)
  | some i => m.does fun s => { s with files := s.files.set i ⟨(s.file i).data, (s.file i).data.length⟩ }
def M.rename (m : M) (a b : Nm) : M × Nat :=
  if m.on = false then (m, 15) else match look m.names a with
  | none => (m, 6)
  | some i => if isNm b = false then (m, 1) else if a = b then m.does id else m.does fun s => s.turn ⟨a, b, some i⟩
def M.remove (m : M) (n : Nm) : M × Nat :=
  if m.on = false then (m, 15) else match look m.names n with
  | none => (m, 6)
  | some i => m.does fun s => s.turn ⟨n, [], none⟩
def settle (t : Tbl) (l : List Chg) : Tbl := l.foldl (fun t c => c.app t) t
def M.settled (m : M) (n : Nat) : M := { m with kept := settle m.kept (m.since.take n), since := [] }
def M.syncDir (m : M) : M × Nat :=
  if m.on = false then (m, 15) else m.does fun s => s.settled s.since.length
def M.arm (m : M) (n : Int) : M := { m with fuse := max n (-1) }
def M.read (m : M) (n : Nm) : List UInt8 × Nat :=
  if m.on = false then ([], 15) else match look m.names n with
  | none => ([], 6)
  | some i => ((m.file i).data, 0)
def M.list (m : M) : List Nm := if m.on then m.names.map (·.1) else []
def M.uses (m : M) : Nat := if m.on then m.used else 0
/-- how many changes are taken -/
def many (c : Int) (n : Nat) : Nat := (min (max c 0) (n : Int)).toNat
def Fl.more (f : Fl) (k : Int) : Nat := f.kept + (min (max k 0) ((f.data.length : Int) - f.kept)).toNat
def Fl.cut (f : Fl) (k : Int) : Fl := ⟨f.data.take (f.more k), f.more k⟩
/-- the files behind the first j cuts -/
def cuts (t : Tbl) (keep : List Int) (fs : List Fl) : Nat → List Fl
  | 0 => fs
  | j + 1 => let g := cuts t keep fs j
    match t[j]? with
    | none => g
    | some p => g.set p.2 ((g.getD p.2 nul).cut (keep.getD j 0))
def M.start (m : M) (c : Int) (keep : List Int) : M × Nat :=
  if m.on then (m, 16) else
    let t := settle m.kept (m.since.take (many c m.since.length))
    ({ m with on := true, fuse := -1, names := t, kept := t, since := [], files := cuts t keep m.files t.length }, 0)

/-! ### what stands -/
def Rising (t : Tbl) : Prop := t.Pairwise fun p q => bytesBefore p.1 q.1 = true
/-- a table that may be: rising, names that may be, files that are there, and no file twice -/
structure Ok (t : Tbl) (n : Nat) : Prop where
  rise : Rising t
  nms : ∀ p ∈ t, isNm p.1 = true
  less : ∀ p ∈ t, p.2 < n
  once : t.Pairwise fun p q => p.2 ≠ q.2

theorem before_irr : ∀ a : List UInt8, bytesBefore a a = false
  | [] => rfl
  | x :: r => by simp [bytesBefore, before_irr r]
theorem before_trans : ∀ {a b c : List UInt8}, bytesBefore a b = true → bytesBefore b c = true → bytesBefore a c = true
  | [], [], _, h, _ => by cases h
  | [], _ :: _, [], _, h => by cases h
  | [], _ :: _, _ :: _, _, _ => rfl
  | _ :: _, [], _, h, _ => by cases h
  | _ :: _, _ :: _, [], _, h => by cases h
  | x :: a, y :: b, z :: c, h, k => by
    simp only [bytesBefore, Bool.or_eq_true, Bool.and_eq_true, decide_eq_true_eq, beq_iff_eq] at *
    rcases h with h | ⟨rfl, h⟩
    · rcases k with k | ⟨rfl, k⟩
      · exact .inl (UInt8.lt_trans h k)
      · exact .inl h
    · rcases k with k | ⟨rfl, k⟩
      · exact .inl k
      · exact .inr ⟨rfl, before_trans h k⟩
theorem before_total : ∀ (a b : List UInt8), bytesBefore a b = false → a ≠ b → bytesBefore b a = true
  | [], [], _, h => absurd rfl h
  | [], _ :: _, h, _ => by cases h
  | _ :: _, [], _, _ => rfl
  | x :: a, y :: b, h, k => by
    simp only [bytesBefore, Bool.or_eq_true, Bool.and_eq_true, Bool.or_eq_false_iff, Bool.and_eq_false_imp, decide_eq_true_eq, decide_eq_false_iff_not, beq_iff_eq] at *
    by_cases e : x = y
    · subst e
      exact .inr ⟨rfl, before_total a b (h.2 rfl) (fun q => k (by rw [q]))⟩
    · left
      have h1 := h.1
      rw [UInt8.lt_iff_toNat_lt] at *
      have : x.toNat ≠ y.toNat := fun q => e (UInt8.toNat_inj.1 q)
      omega
theorem mem_ins {x p : Nm × Nat} : ∀ {t : Tbl}, p ∈ ins x t ↔ p = x ∨ p ∈ t
  | [] => by simp [ins]
  | y :: r => by
    unfold ins
    split
    · simp
    · simp only [List.mem_cons, mem_ins (t := r)]
      constructor
      · rintro (h | h | h)
        · exact .inr (.inl h)
        · exact .inl h
        · exact .inr (.inr h)
      · rintro (h | h | h)
        · exact .inr (.inl h)
        · exact .inl h
        · exact .inr (.inr h)
theorem mem_del {p : Nm × Nat} {t : Tbl} {k : Nm} : p ∈ del t k ↔ p ∈ t ∧ p.1 ≠ k := by simp [del]
theorem mem_put {p : Nm × Nat} {t : Tbl} {k : Nm} {i : Nat} : p ∈ put t k i ↔ p = (k, i) ∨ (p ∈ t ∧ p.1 ≠ k) := by rw [put, mem_ins, mem_del]
theorem rising_ins {x : Nm × Nat} : ∀ {t : Tbl}, Rising t → (∀ p ∈ t, p.1 ≠ x.1) → Rising (ins x t)
  | [], _, _ => by simp [ins, Rising]
  | y :: r, h, hx => by
    unfold Rising at *
    rw [List.pairwise_cons] at h
    unfold ins
    split
    · rename_i hb
      rw [List.pairwise_cons]
      refine ⟨fun p hp => ?_, by rw [List.pairwise_cons]; exact h⟩
      rcases List.mem_cons.1 hp with rfl | hp
      · exact hb
      · exact before_trans hb (h.1 p hp)
    · rename_i hb
      rw [List.pairwise_cons]
      refine ⟨fun p hp => ?_, rising_ins h.2 (fun p hp => hx p (List.mem_cons_of_mem _ hp))⟩
      rcases mem_ins.1 hp with rfl | hp
      · exact before_total _ _ (by simpa using hb) (fun e => hx y (List.mem_cons_self) e.symm)
      · exact h.1 p hp
theorem rising_del {t : Tbl} (h : Rising t) (k : Nm) : Rising (del t k) := List.Pairwise.filter _ h
theorem rising_put {t : Tbl} (h : Rising t) (k : Nm) (i : Nat) : Rising (put t k i) := rising_ins (rising_del h k) (fun p hp => (mem_del.1 hp).2)
theorem len_ins (x : Nm × Nat) : ∀ t : Tbl, (ins x t).length = t.length + 1
  | [] => rfl
  | y :: r => by unfold ins; split <;> simp [len_ins x r]
theorem len_del (t : Tbl) (k : Nm) : (del t k).length ≤ t.length := List.length_filter_le _ _
theorem len_put (t : Tbl) (k : Nm) (i : Nat) : (put t k i).length ≤ t.length + 1 := by rw [put, len_ins]; have := len_del t k; omega
theorem pw_mono {α : Type} {R S : α → α → Prop} (f : ∀ a b, R a b → S a b) : ∀ {l : List α}, l.Pairwise R → l.Pairwise S
  | [], _ => List.Pairwise.nil
  | a :: l, h => by
    rw [List.pairwise_cons] at h ⊢
    exact ⟨fun b hb => f a b (h.1 b hb), pw_mono f h.2⟩
theorem rising_apart {t : Tbl} (h : Rising t) : t.Pairwise fun p q => p.1 ≠ q.1 := pw_mono (fun a b hab e => by rw [e, before_irr] at hab; cases hab) h
theorem look_mem {t : Tbl} {k : Nm} {i : Nat} (h : look t k = some i) : (k, i) ∈ t := by
  unfold look at h
  cases hf : t.find? (fun p => p.1 == k) with
  | none => rw [hf] at h; cases h
  | some p =>
    rw [hf] at h
    have h1 := List.find?_some hf
    have h2 := List.mem_of_find?_eq_some hf
    simp at h h1
    obtain ⟨a, b⟩ := p
    simp at h h1
    subst h h1
    exact h2
theorem look_none {t : Tbl} {k : Nm} (h : look t k = none) : ∀ p ∈ t, p.1 ≠ k := by
  unfold look at h
  simp only [Option.map_eq_none_iff, List.find?_eq_none] at h
  intro p hp e
  exact h p hp (by simp [e])
theorem mem_look {t : Tbl} (hr : Rising t) {k : Nm} {i : Nat} (h : (k, i) ∈ t) : look t k = some i := by
  cases hl : look t k with
  | none => exact absurd rfl (look_none hl _ h)
  | some j =>
    have hj := look_mem hl
    have ha := rising_apart hr
    by_cases e : i = j
    · rw [e]
    · exfalso
      have := ha
      rw [List.pairwise_iff_getElem] at this
      obtain ⟨a, ha', ea⟩ := List.getElem_of_mem h
      obtain ⟨b, hb', eb⟩ := List.getElem_of_mem hj
      rcases Nat.lt_trichotomy a b with q | q | q
      · exact this a b ha' hb' q (by rw [ea, eb])
      · subst q
        rw [ea] at eb
        exact e (by injection eb)
      · exact this b a hb' ha' q (by rw [ea, eb])
theorem look_none_iff {t : Tbl} {k : Nm} : look t k = none ↔ ∀ p ∈ t, p.1 ≠ k := by
  refine ⟨look_none, fun h => ?_⟩
  cases hl : look t k with
  | none => rfl
  | some j => exact absurd rfl (h _ (look_mem hl))
theorem del_none {t : Tbl} {k : Nm} (h : ∀ p ∈ t, p.1 ≠ k) : del t k = t := by
  unfold del
  rw [List.filter_eq_self]
  intro p hp
  simp [h p hp]
theorem Ok.nil (n : Nat) : Ok [] n := ⟨List.Pairwise.nil, by simp, by simp, List.Pairwise.nil⟩
theorem Ok.mono {t : Tbl} {n m : Nat} (h : Ok t n) (hm : n ≤ m) : Ok t m := ⟨h.rise, h.nms, fun p hp => Nat.lt_of_lt_of_le (h.less p hp) hm, h.once⟩
theorem Ok.del {t : Tbl} {n : Nat} (h : Ok t n) (k : Nm) : Ok (Dsk.del t k) n :=
  ⟨rising_del h.rise k, fun p hp => h.nms p (mem_del.1 hp).1, fun p hp => h.less p (mem_del.1 hp).1, List.Pairwise.filter _ h.once⟩
theorem once_ins {x : Nm × Nat} : ∀ {t : Tbl}, (t.Pairwise fun p q => p.2 ≠ q.2) → (∀ p ∈ t, p.2 ≠ x.2) → (ins x t).Pairwise fun p q => p.2 ≠ q.2
  | [], _, _ => by simp [ins]
  | y :: r, h, hx => by
    rw [List.pairwise_cons] at h
    unfold ins
    split
    · rw [List.pairwise_cons]
      exact ⟨fun p hp => (hx p hp).symm, by rw [List.pairwise_cons]; exact h⟩
    · rw [List.pairwise_cons]
      refine ⟨fun p hp => ?_, once_ins h.2 (fun p hp => hx p (List.mem_cons_of_mem _ hp))⟩
      rcases mem_ins.1 hp with rfl | hp
      · exact hx y List.mem_cons_self
      · exact h.1 p hp
theorem Ok.put {t : Tbl} {n : Nat} (h : Ok t n) {k : Nm} (hk : isNm k = true) {i : Nat} (hi : i < n) (hx : ∀ p ∈ t, p.2 = i → p.1 = k) : Ok (Dsk.put t k i) n := by
  refine ⟨rising_put h.rise k i, fun p hp => ?_, fun p hp => ?_, once_ins (h.del k).once (fun p hp e => (mem_del.1 hp).2 (hx p (mem_del.1 hp).1 e))⟩
  · rcases mem_put.1 hp with rfl | ⟨hp, _⟩
    · exact hk
    · exact h.nms p hp
  · rcases mem_put.1 hp with rfl | ⟨hp, _⟩
    · exact hi
    · exact h.less p hp

end Go.Proofs.Ytedpiikdlpehjaa.Dsk
