/- What was synced, under names that were, is there behind a loss: the plain disk. -/
import Derived.Test.YteencknmfjegiaaDiskSim
namespace Go.Proofs.Yteencknmfjegiaa.Dsk
open Go Go.RowKit Go.Maps
set_option linter.unusedSimpArgs false
set_option linter.unusedVariables false

/-- behind the first j syncs -/
structure Kd (m0 m : M) (j : Nat) : Prop where
  on : m.on = true
  fuse : m.fuse = -1
  names : m.names = m0.names
  data : m.files.map (·.data) = m0.files.map (·.data)
  done : ∀ i p, i < j → m0.names[i]? = some p → (m.file p.2).kept = (m.file p.2).data.length
theorem kd_start {m : M} (h : m.on = true) (h1 : m.fuse = -1) : Kd m m 0 := ⟨h, h1, rfl, rfl, fun i p hi => absurd hi (by omega)⟩
def M.dat (m : M) (i : Nat) : List UInt8 := (m.file i).data
theorem Kd.dat {m0 m : M} {j : Nat} (h : Kd m0 m j) (i : Nat) : m.dat i = m0.dat i := by
  unfold M.dat M.file
  rw [getD_data, getD_data, h.data]
theorem Kd.look {m0 m : M} {j : Nat} (h : Kd m0 m j) (hW : Wf m) {i : Nat} {p : Nm × Nat} (hp : m0.names[i]? = some p) : Dsk.look m.names p.1 = some p.2 := by
  refine mem_look hW.okN.rise ?_
  rw [h.names]
  exact List.mem_of_getElem? hp
theorem Kd.read {m0 m : M} {j : Nat} (h : Kd m0 m j) (hW : Wf m) {i : Nat} {p : Nm × Nat} (hp : m0.names[i]? = some p) : m.read p.1 = (m0.dat p.2, 0) := by
  unfold M.read
  rw [if_neg (by rw [h.on]; decide), h.look hW hp]
  simp only
  rw [← h.dat]
  rfl
theorem Kd.sync {m0 m : M} {j : Nat} (h : Kd m0 m j) (hW : Wf m) {p : Nm × Nat} (hp : m0.names[j]? = some p) : (m.sync p.1).2 = 0 ∧ Kd m0 (m.sync p.1).1 (j + 1) ∧ (m.sync p.1).1.calls = m.calls + 1 := by
  have hl := h.look hW hp
  have hi : p.2 < m.files.length := hW.okN.less p (by rw [h.names]; exact List.mem_of_getElem? hp)
  unfold M.sync
  rw [if_neg (by rw [h.on]; decide), hl]
  simp only [does_free h.fuse]
  refine ⟨trivial, ⟨h.on, h.fuse, h.names, ?_, fun i q hq hq2 => ?_⟩, trivial⟩
  · show (m.files.set p.2 ⟨(m.files.getD p.2 nul).data, _⟩).map (·.data) = _
    rw [map_set_data]
    simp only [getD_data, set_getD_self]
    exact h.data
  · show ((m.files.set p.2 ⟨(m.files.getD p.2 nul).data, (m.files.getD p.2 nul).data.length⟩).getD q.2 nul).kept = ((m.files.set p.2 ⟨(m.files.getD p.2 nul).data, (m.files.getD p.2 nul).data.length⟩).getD q.2 nul).data.length
    rw [getD_set _ _ _ _ _ hi]
    by_cases e : p.2 = q.2
    · rw [if_pos e]
    · rw [if_neg e]
      by_cases ej : i = j
      · subst ej
        rw [hp] at hq2
        cases hq2
        exact absurd rfl e
      · exact h.done i q (by omega) hq2
/-- names that are kept, and bytes that are -/
structure Gd (t : Tbl) (D : Nat → List UInt8) (m : M) : Prop where
  on : m.on = true
  fuse : m.fuse = -1
  names : m.names = t
  kept : m.kept = t
  since : m.since = []
  pre : ∀ p ∈ t, D p.2 <+: (m.file p.2).data ∧ (D p.2).length ≤ (m.file p.2).kept
theorem Kd.dir {m0 m : M} {j : Nat} (h : Kd m0 m j) (hW : Wf m) (hj : m0.names.length ≤ j) : m.syncDir.2 = 0 ∧ Gd m0.names m0.dat m.syncDir.1 ∧ m.syncDir.1.calls = m.calls + 1 := by
  unfold M.syncDir
  rw [if_neg (by rw [h.on]; decide), does_free h.fuse]
  refine ⟨rfl, ⟨h.on, h.fuse, h.names, ?_, rfl, fun p hp => ?_⟩, rfl⟩
  · show settle m.kept (m.since.take m.since.length) = _
    rw [List.take_length, ← hW.names, h.names]
  · obtain ⟨i, hi⟩ := List.getElem?_of_mem hp
    have h1 := h.done i p (by have := (List.getElem?_eq_some_iff.1 hi).1; omega) hi
    have h2 := h.dat p.2
    show m0.dat p.2 <+: (m.file p.2).data ∧ (m0.dat p.2).length ≤ (m.file p.2).kept
    rw [h1, ← h2]
    exact ⟨List.prefix_refl _, Nat.le_refl _⟩
theorem pre_set {t : Tbl} {D : Nat → List UInt8} {fs : List Fl} (h : ∀ p ∈ t, D p.2 <+: (fs.getD p.2 nul).data ∧ (D p.2).length ≤ (fs.getD p.2 nul).kept) (i : Nat) (x : Fl)
    (hx : ∀ d : List UInt8, d <+: (fs.getD i nul).data → d.length ≤ (fs.getD i nul).kept → d <+: x.data ∧ d.length ≤ x.kept) : ∀ p ∈ t, D p.2 <+: ((fs.set i x).getD p.2 nul).data ∧ (D p.2).length ≤ ((fs.set i x).getD p.2 nul).kept := by
  intro p hp
  by_cases hi : i < fs.length
  · rw [getD_set _ _ _ _ _ hi]
    by_cases e : i = p.2
    · rw [if_pos e]
      have := h p hp
      rw [← e] at this ⊢
      exact hx _ this.1 this.2
    · rw [if_neg e]
      exact h p hp
  · rw [List.set_eq_of_length_le (by omega)]
    exact h p hp
theorem Gd.act {t : Tbl} {D : Nat → List UInt8} {m : M} (h : Gd t D m) (x : Act) (hk : x.kind % 8 = 1 ∨ x.kind % 8 = 2) : Gd t D (m.act x).1 := by
  have ho : ¬ m.on = false := by rw [h.on]; decide
  unfold M.act
  rcases hk with e | e <;> rw [e]
  · show Gd t D (m.append x.nA x.data).1
    unfold M.append
    rw [if_neg ho]
    cases Dsk.look m.names x.nA with
    | none => exact h
    | some i =>
      simp only
      split
      · exact h
      rw [does_free h.fuse]
      refine ⟨h.on, h.fuse, h.names, h.kept, h.since, ?_⟩
      show ∀ p ∈ t, D p.2 <+: ((m.files.set i ⟨(m.files.getD i nul).data ++ x.data, (m.files.getD i nul).kept⟩).getD p.2 nul).data ∧ (D p.2).length ≤ ((m.files.set i ⟨(m.files.getD i nul).data ++ x.data, (m.files.getD i nul).kept⟩).getD p.2 nul).kept
      exact pre_set h.pre i _ fun d h1 h2 => ⟨h1.trans (List.prefix_append _ _), h2⟩
  · show Gd t D (m.sync x.nA).1
    unfold M.sync
    rw [if_neg ho]
    cases Dsk.look m.names x.nA with
    | none => exact h
    | some i =>
      simp only
      rw [does_free h.fuse]
      refine ⟨h.on, h.fuse, h.names, h.kept, h.since, ?_⟩
      show ∀ p ∈ t, D p.2 <+: ((m.files.set i ⟨(m.files.getD i nul).data, (m.files.getD i nul).data.length⟩).getD p.2 nul).data ∧ (D p.2).length ≤ ((m.files.set i ⟨(m.files.getD i nul).data, (m.files.getD i nul).data.length⟩).getD p.2 nul).kept
      exact pre_set h.pre i _ fun d h1 h2 => ⟨h1, h1.length_le⟩
theorem pre_take {d l : List UInt8} {n : Nat} (h : d <+: l) (hn : d.length ≤ n) : d <+: l.take n := by
  obtain ⟨r, rfl⟩ := h
  rw [List.take_append, List.take_of_length_le hn]
  exact List.prefix_append _ _
theorem pre_cuts {t s : Tbl} {D : Nat → List UInt8} {fs : List Fl} (keep : List Int) (h : ∀ p ∈ t, D p.2 <+: (fs.getD p.2 nul).data ∧ (D p.2).length ≤ (fs.getD p.2 nul).kept) : ∀ j, ∀ p ∈ t, D p.2 <+: ((cuts s keep fs j).getD p.2 nul).data ∧ (D p.2).length ≤ ((cuts s keep fs j).getD p.2 nul).kept
  | 0 => h
  | j + 1 => by
    have ih := pre_cuts (s := s) keep h j
    unfold cuts
    simp only
    split
    · exact ih
    · rename_i p hp
      refine pre_set ih _ _ fun d h1 h2 => ?_
      have h3 : d.length ≤ ((cuts s keep fs j).getD p.2 nul).more (keep.getD j 0) := by unfold Fl.more; omega
      exact ⟨pre_take h1 h3, h3⟩
/-- the power is lost, and comes again -/
theorem Gd.lost {t : Tbl} {D : Nat → List UInt8} {m : M} (h : Gd t D m) : (m.arm 0).syncDir = ((m.arm 0).off, 15) := by
  unfold M.syncDir
  rw [if_neg (show ¬ (m.arm 0).on = false from (show ¬ m.on = false by rw [h.on]; decide))]
  rfl
theorem Gd.again {t : Tbl} {D : Nat → List UInt8} {m : M} (h : Gd t D m) (hr : Rising t) (keep : List Int) : ((m.arm 0).off.start 0 keep).2 = 0 ∧ ((m.arm 0).off.start 0 keep).1.list = t.map (·.1) ∧ ∀ p ∈ t, ∃ x, ((m.arm 0).off.start 0 keep).1.read p.1 = (x, 0) ∧ D p.2 <+: x := by
  have e : (m.arm 0).off.start 0 keep = ({ (m.arm 0).off with on := true, fuse := -1, names := t, kept := t, since := [], files := cuts t keep m.files t.length }, 0) := by
    unfold M.start
    have hs : settle (m.arm 0).off.kept ((m.arm 0).off.since.take (many 0 (m.arm 0).off.since.length)) = t := by
      show settle m.kept (m.since.take _) = t
      rw [h.since, h.kept]
      rfl
    rw [if_neg (show ¬ (m.arm 0).off.on = true from (show ¬ false = true by decide)), hs]
    rfl
  rw [e]
  refine ⟨rfl, rfl, fun p hp => ⟨((cuts t keep m.files t.length).getD p.2 nul).data, ?_, (pre_cuts keep h.pre t.length p hp).1⟩⟩
  unfold M.read
  rw [if_neg (by simp)]
  simp only [mem_look hr (show (p.1, p.2) ∈ t from hp)]
  rfl
end Go.Proofs.Yteencknmfjegiaa.Dsk
