/- A file that is written and kept under another name: the plain disk. -/
import Derived.Test.YteencknmfjegiaaDiskMine
namespace Go.Proofs.Yteencknmfjegiaa.Dsk
open Go Go.RowKit Go.Maps
set_option linter.unusedSimpArgs false
set_option linter.unusedVariables false

section
variable (o y : List UInt8)
def nF : Nm := [102]
def nT : Nm := [116]
def T0 (x : Int) : M := ⟨true, 1048576, 4, x, [([102], 0)], [([102], 0)], [], [⟨o, o.length⟩]⟩
def T1 (x : Int) : M := ⟨true, 1048576, 5, x, [([102], 0), ([116], 1)], [([102], 0)], [⟨[], [116], some 1⟩], [⟨o, o.length⟩, nul]⟩
def T2 (x : Int) : M := ⟨true, 1048576, 6, x, [([102], 0), ([116], 1)], [([102], 0)], [⟨[], [116], some 1⟩], [⟨o, o.length⟩, ⟨y, 0⟩]⟩
def T3 (x : Int) : M := ⟨true, 1048576, 7, x, [([102], 0), ([116], 1)], [([102], 0)], [⟨[], [116], some 1⟩], [⟨o, o.length⟩, ⟨y, y.length⟩]⟩
def T4 (x : Int) : M := ⟨true, 1048576, 8, x, [([102], 1)], [([102], 0)], [⟨[], [116], some 1⟩, ⟨[116], [102], some 1⟩], [⟨o, o.length⟩, ⟨y, y.length⟩]⟩
def T5 (x : Int) : M := ⟨true, 1048576, 9, x, [([102], 1)], [([102], 1)], [], [⟨o, o.length⟩, ⟨y, y.length⟩]⟩
def S1 : M := ⟨true, 1048576, 1, -1, [([102], 0)], [], [⟨[], [102], some 0⟩], [nul]⟩
def S2 : M := ⟨true, 1048576, 2, -1, [([102], 0)], [], [⟨[], [102], some 0⟩], [⟨o, 0⟩]⟩
def S3 : M := ⟨true, 1048576, 3, -1, [([102], 0)], [], [⟨[], [102], some 0⟩], [⟨o, o.length⟩]⟩
theorem s1 : (M.new 1048576).create [102] = (S1, 0) := by kernel_rfl
theorem s2 (h : o.length ≤ 1048576) : S1.append [102] o = (S2 o, 0) := by
  have hu : S1.used = 0 := by kernel_rfl
  have hl : look S1.names [102] = some 0 := by kernel_rfl
  unfold M.append
  rw [if_neg (by simp [S1]), hl]
  simp only [hu]
  rw [if_neg (by simp [S1]; omega)]
  rfl
theorem look1 (a : Nm) (i : Nat) (r : Tbl) : look ((a, i) :: r) a = some i := by simp [look]
theorem s3 : (S2 o).sync [102] = (S3 o, 0) := by
  unfold M.sync
  rw [if_neg (by simp [S2]), show look (S2 o).names [102] = some 0 from look1 _ _ _]
  rfl
theorem s4 : (S3 o).syncDir = (T0 o (-1), 0) := by
  unfold M.syncDir
  rw [if_neg (by simp [S3])]
  rfl
theorem s5 (x : Int) (h : -1 ≤ x) : (T0 o (-1)).arm x = T0 o x := by
  unfold M.arm T0
  simp only
  congr 1
  omega
theorem spent_pos (m : M) (h : 0 < m.fuse) : m.spent = { m with fuse := m.fuse - 1, calls := m.calls + 1 } := by
  unfold M.spent
  rw [if_pos h]
theorem isT : isNm [116] = true := by kernel_rfl
theorem isF : isNm [102] = true := by kernel_rfl
theorem t1z : (T0 o 0).create [116] = ((T0 o 0).off, 15) := by
  unfold M.create
  rw [if_neg (by simp [T0]), if_neg (by rw [isT]; decide), if_neg (by simp [T0])]
  rfl
theorem t1 (x : Int) (h : 0 < x) : (T0 o x).create [116] = (T1 o (x - 1), 0) := by
  unfold M.create
  rw [if_neg (by simp [T0]), if_neg (by rw [isT]; decide), if_neg (by simp [T0])]
  unfold M.does
  rw [if_neg (by simp [T0]; omega), spent_pos (T0 o x) h]
  rfl
theorem u1 (x : Int) : (T1 o x).used = o.length := by simp [M.used, total, T1, nul]
theorem l1 (x : Int) : look (T1 o x).names [116] = some 1 := by kernel_rfl
theorem t2z (h : o.length + y.length ≤ 1048576) : (T1 o 0).append [116] y = ((T1 o 0).off, 15) := by
  unfold M.append
  rw [if_neg (by simp [T1]), l1]
  simp only [u1]
  rw [if_neg (by simp [T1]; omega)]
  rfl
theorem t2 (x : Int) (hx : 0 < x) (h : o.length + y.length ≤ 1048576) : (T1 o x).append [116] y = (T2 o y (x - 1), 0) := by
  unfold M.append
  rw [if_neg (by simp [T1]), l1]
  simp only [u1]
  rw [if_neg (by simp [T1]; omega)]
  unfold M.does
  rw [if_neg (by simp [T1]; omega), spent_pos (T1 o x) hx]
  rfl
theorem l2 (x : Int) : look (T2 o y x).names [116] = some 1 := by kernel_rfl
theorem t3z : (T2 o y 0).sync [116] = ((T2 o y 0).off, 15) := by
  unfold M.sync
  rw [if_neg (by simp [T2]), l2]
  rfl
theorem t3 (x : Int) (hx : 0 < x) : (T2 o y x).sync [116] = (T3 o y (x - 1), 0) := by
  unfold M.sync
  rw [if_neg (by simp [T2]), l2]
  simp only
  unfold M.does
  rw [if_neg (by simp [T2]; omega), spent_pos (T2 o y x) hx]
  rfl
theorem l3 (x : Int) : look (T3 o y x).names [116] = some 1 := by kernel_rfl
theorem t4z : (T3 o y 0).rename [116] [102] = ((T3 o y 0).off, 15) := by
  unfold M.rename
  rw [if_neg (by simp [T3]), l3]
  simp only
  rw [if_neg (by rw [isF]; decide), if_neg (by decide)]
  rfl
theorem t4 (x : Int) (hx : 0 < x) : (T3 o y x).rename [116] [102] = (T4 o y (x - 1), 0) := by
  unfold M.rename
  rw [if_neg (by simp [T3]), l3]
  simp only
  rw [if_neg (by rw [isF]; decide), if_neg (by decide)]
  unfold M.does
  rw [if_neg (by simp [T3]; omega), spent_pos (T3 o y x) hx]
  rfl
theorem t5z : (T4 o y 0).syncDir = ((T4 o y 0).off, 15) := by
  unfold M.syncDir
  rw [if_neg (by simp [T4])]
  rfl
theorem t5 (x : Int) (hx : 0 < x) : (T4 o y x).syncDir = (T5 o y (x - 1), 0) := by
  unfold M.syncDir
  rw [if_neg (by simp [T4])]
  unfold M.does
  rw [if_neg (by simp [T4]; omega), spent_pos (T4 o y x) hx]
  rfl
theorem t6 : (T5 o y 0).syncDir = ((T5 o y 0).off, 15) := by
  unfold M.syncDir
  rw [if_neg (by simp [T5])]
  rfl
theorem t7 : (T5 o y 0).arm 0 = T5 o y 0 := rfl
end
theorem off_create {m : M} (h : m.on = false) (n : Nm) : m.create n = (m, 15) := by unfold M.create; rw [if_pos h]
theorem off_append {m : M} (h : m.on = false) (n : Nm) (b : List UInt8) : m.append n b = (m, 15) := by unfold M.append; rw [if_pos h]
theorem off_sync {m : M} (h : m.on = false) (n : Nm) : m.sync n = (m, 15) := by unfold M.sync; rw [if_pos h]
theorem off_rename {m : M} (h : m.on = false) (a b : Nm) : m.rename a b = (m, 15) := by unfold M.rename; rw [if_pos h]
theorem off_syncDir {m : M} (h : m.on = false) : m.syncDir = (m, 15) := by unfold M.syncDir; rw [if_pos h]
theorem off_on (m : M) : m.off.on = false := rfl
/-- the five calls -/
structure Five where
  m1 : M
  m2 : M
  m3 : M
  m4 : M
  m5 : M
  c1 : Nat
  c2 : Nat
  c3 : Nat
  c4 : Nat
  c5 : Nat
def five (m : M) (y : List UInt8) : Five :=
  let r1 := m.create [116]
  let r2 := r1.1.append [116] y
  let r3 := r2.1.sync [116]
  let r4 := r3.1.rename [116] [102]
  let r5 := r4.1.syncDir
  ⟨r1.1, r2.1, r3.1, r4.1, r5.1, r1.2, r2.2, r3.2, r4.2, r5.2⟩
def Five.codes (f : Five) : List Nat := [f.c1, f.c2, f.c3, f.c4, f.c5]
/-- how many were done -/
def zeros (l : List Nat) : Nat := (l.filter (· == 0)).length
/-- the disk behind the loss -/
def lostM (o y : List UInt8) : Nat → M
  | 0 => (T0 o 0).off
  | 1 => (T1 o 0).off
  | 2 => (T2 o y 0).off
  | 3 => (T3 o y 0).off
  | 4 => (T4 o y 0).off
  | _ => (T5 o y 0).off
theorem five_ok (o y : List UInt8) (h : o.length + y.length ≤ 1048576) (k : Nat) (hk : k ≤ 5) : zeros (five (T0 o k) y).codes = k ∧ (if k = 5 then (five (T0 o k) y).m5 = T5 o y 0 else (five (T0 o k) y).m5 = lostM o y k) := by
  rcases (by omega : k = 0 ∨ k = 1 ∨ k = 2 ∨ k = 3 ∨ k = 4 ∨ k = 5) with rfl | rfl | rfl | rfl | rfl | rfl
  · have e : five (T0 o (0 : Nat)) y = ⟨(T0 o 0).off, (T0 o 0).off, (T0 o 0).off, (T0 o 0).off, (T0 o 0).off, 15, 15, 15, 15, 15⟩ := by
      simp only [five, show ((0 : Nat) : Int) = 0 from rfl, t1z, off_append (off_on _), off_sync (off_on _), off_rename (off_on _), off_syncDir (off_on _)]
    rw [e]
    exact ⟨rfl, rfl⟩
  · have e : five (T0 o (1 : Nat)) y = ⟨T1 o 0, (T1 o 0).off, (T1 o 0).off, (T1 o 0).off, (T1 o 0).off, 0, 15, 15, 15, 15⟩ := by
      have e1 := t1 o 1 (by decide)
      simp only [show (1 : Int) - 1 = 0 from rfl] at e1
      simp only [five, show ((1 : Nat) : Int) = 1 from rfl, e1, t2z o y h, off_sync (off_on _), off_rename (off_on _), off_syncDir (off_on _)]
    rw [e]
    exact ⟨rfl, rfl⟩
  · have e : five (T0 o (2 : Nat)) y = ⟨T1 o 1, T2 o y 0, (T2 o y 0).off, (T2 o y 0).off, (T2 o y 0).off, 0, 0, 15, 15, 15⟩ := by
      have e1 := t1 o 2 (by decide)
      have e2 := t2 o y 1 (by decide) h
      simp only [show (2 : Int) - 1 = 1 from rfl, show (1 : Int) - 1 = 0 from rfl] at e1 e2
      simp only [five, show ((2 : Nat) : Int) = 2 from rfl, e1, e2, t3z, off_rename (off_on _), off_syncDir (off_on _)]
    rw [e]
    exact ⟨rfl, rfl⟩
  · have e : five (T0 o (3 : Nat)) y = ⟨T1 o 2, T2 o y 1, T3 o y 0, (T3 o y 0).off, (T3 o y 0).off, 0, 0, 0, 15, 15⟩ := by
      have e1 := t1 o 3 (by decide)
      have e2 := t2 o y 2 (by decide) h
      have e3 := t3 o y 1 (by decide)
      simp only [show (3 : Int) - 1 = 2 from rfl, show (2 : Int) - 1 = 1 from rfl, show (1 : Int) - 1 = 0 from rfl] at e1 e2 e3
      simp only [five, show ((3 : Nat) : Int) = 3 from rfl, e1, e2, e3, t4z, off_syncDir (off_on _)]
    rw [e]
    exact ⟨rfl, rfl⟩
  · have e : five (T0 o (4 : Nat)) y = ⟨T1 o 3, T2 o y 2, T3 o y 1, T4 o y 0, (T4 o y 0).off, 0, 0, 0, 0, 15⟩ := by
      have e1 := t1 o 4 (by decide)
      have e2 := t2 o y 3 (by decide) h
      have e3 := t3 o y 2 (by decide)
      have e4 := t4 o y 1 (by decide)
      simp only [show (4 : Int) - 1 = 3 from rfl, show (3 : Int) - 1 = 2 from rfl, show (2 : Int) - 1 = 1 from rfl, show (1 : Int) - 1 = 0 from rfl] at e1 e2 e3 e4
      simp only [five, show ((4 : Nat) : Int) = 4 from rfl, e1, e2, e3, e4, t5z]
    rw [e]
    exact ⟨rfl, rfl⟩
  · have e : five (T0 o (5 : Nat)) y = ⟨T1 o 4, T2 o y 3, T3 o y 2, T4 o y 1, T5 o y 0, 0, 0, 0, 0, 0⟩ := by
      have e1 := t1 o 5 (by decide)
      have e2 := t2 o y 4 (by decide) h
      have e3 := t3 o y 3 (by decide)
      have e4 := t4 o y 2 (by decide)
      have e5 := t5 o y 1 (by decide)
      simp only [show (5 : Int) - 1 = 4 from rfl, show (4 : Int) - 1 = 3 from rfl, show (3 : Int) - 1 = 2 from rfl, show (2 : Int) - 1 = 1 from rfl, show (1 : Int) - 1 = 0 from rfl] at e1 e2 e3 e4 e5
      simp only [five, show ((5 : Nat) : Int) = 5 from rfl, e1, e2, e3, e4, e5]
    rw [e]
    exact ⟨rfl, rfl⟩
theorem cut_full {f : Fl} (h : f.kept = f.data.length) : f.cut 0 = f := by
  have e : f.more 0 = f.data.length := by unfold Fl.more; omega
  unfold Fl.cut
  rw [e, List.take_length, ← h]
theorem cuts_kept (t : Tbl) (fs : List Fl) (i : Nat) (h : (fs.getD i nul).kept = (fs.getD i nul).data.length) : ∀ j, (cuts t [] fs j).getD i nul = fs.getD i nul
  | 0 => rfl
  | j + 1 => by
    have ih := cuts_kept t fs i h j
    unfold cuts
    simp only
    split
    · exact ih
    · rename_i p hp
      by_cases hl : p.2 < (cuts t [] fs j).length
      · rw [getD_set _ _ _ _ _ hl]
        split
        · rename_i e
          rw [e, ih]
          exact cut_full h
        · exact ih
      · rw [List.set_eq_of_length_le (by omega)]
        exact ih
/-- what f has behind the loss -/
theorem lost_read (o y : List UInt8) (k : Nat) (hk : k ≤ 5) (c : Int) : ∃ x, ((lostM o y k).start c []).1.read [102] = (x, 0) ∧ ((lostM o y k).start c []).2 = 0 ∧ (x = o ∨ x = y) ∧ (k = 5 → x = y) ∧ (k ≤ 3 → x = o) := by
  have key : ∀ (m : M) (i : Nat) (d : List UInt8), m.on = false → look (settle m.kept (m.since.take (many c m.since.length))) [102] = some i → m.files.getD i nul = ⟨d, d.length⟩ → (m.start c []).1.read [102] = (d, 0) ∧ (m.start c []).2 = 0 := by
    intro m i d ho hl hf
    have e : m.start c [] = ({ m with on := true, fuse := -1, names := settle m.kept (m.since.take (many c m.since.length)), kept := settle m.kept (m.since.take (many c m.since.length)), since := [], files := cuts (settle m.kept (m.since.take (many c m.since.length))) [] m.files (settle m.kept (m.since.take (many c m.since.length))).length }, 0) := by
      unfold M.start
      rw [ho]
      rfl
    rw [e]
    refine ⟨?_, rfl⟩
    unfold M.read
    rw [if_neg (by simp)]
    simp only [hl]
    unfold M.file
    simp only
    rw [cuts_kept _ _ _ (by rw [hf]), hf]
  have hm1 : many c 1 = 0 ∨ many c 1 = 1 := by unfold many; omega
  have hm2 : many c 2 = 0 ∨ many c 2 = 1 ∨ many c 2 = 2 := by unfold many; omega
  have hm0 : many c 0 = 0 := by unfold many; omega
  rcases (by omega : k = 0 ∨ k = 1 ∨ k = 2 ∨ k = 3 ∨ k = 4 ∨ k = 5) with rfl | rfl | rfl | rfl | rfl | rfl
  · obtain ⟨h1, h2⟩ := key (lostM o y 0) 0 o rfl (by simp [lostM, T0, M.off, hm0]; rfl) rfl
    exact ⟨o, h1, h2, .inl rfl, (fun h => by omega), fun _ => rfl⟩
  · obtain ⟨h1, h2⟩ := key (lostM o y 1) 0 o rfl (by show look (settle [([102], 0)] (([⟨[], [116], some 1⟩] : List Chg).take (many c 1))) [102] = some 0; rcases hm1 with q | q <;> rw [q] <;> rfl) rfl
    exact ⟨o, h1, h2, .inl rfl, (fun h => by omega), fun _ => rfl⟩
  · obtain ⟨h1, h2⟩ := key (lostM o y 2) 0 o rfl (by show look (settle [([102], 0)] (([⟨[], [116], some 1⟩] : List Chg).take (many c 1))) [102] = some 0; rcases hm1 with q | q <;> rw [q] <;> rfl) rfl
    exact ⟨o, h1, h2, .inl rfl, (fun h => by omega), fun _ => rfl⟩
  · obtain ⟨h1, h2⟩ := key (lostM o y 3) 0 o rfl (by show look (settle [([102], 0)] (([⟨[], [116], some 1⟩] : List Chg).take (many c 1))) [102] = some 0; rcases hm1 with q | q <;> rw [q] <;> rfl) rfl
    exact ⟨o, h1, h2, .inl rfl, (fun h => by omega), fun _ => rfl⟩
  · rcases hm2 with q | q | q
    · obtain ⟨h1, h2⟩ := key (lostM o y 4) 0 o rfl (by show look (settle [([102], 0)] (([⟨[], [116], some 1⟩, ⟨[116], [102], some 1⟩] : List Chg).take (many c 2))) [102] = some 0; rw [q]; rfl) rfl
      exact ⟨o, h1, h2, .inl rfl, (fun h => by omega), fun h => by omega⟩
    · obtain ⟨h1, h2⟩ := key (lostM o y 4) 0 o rfl (by show look (settle [([102], 0)] (([⟨[], [116], some 1⟩, ⟨[116], [102], some 1⟩] : List Chg).take (many c 2))) [102] = some 0; rw [q]; rfl) rfl
      exact ⟨o, h1, h2, .inl rfl, (fun h => by omega), fun h => by omega⟩
    · obtain ⟨h1, h2⟩ := key (lostM o y 4) 1 y rfl (by show look (settle [([102], 0)] (([⟨[], [116], some 1⟩, ⟨[116], [102], some 1⟩] : List Chg).take (many c 2))) [102] = some 1; rw [q]; rfl) rfl
      exact ⟨y, h1, h2, .inr rfl, (fun _ => rfl), fun h => by omega⟩
  · obtain ⟨h1, h2⟩ := key (lostM o y 5) 1 y rfl (by show look (settle [([102], 1)] (([] : List Chg).take (many c 0))) [102] = some 1; rw [hm0]; rfl) rfl
    exact ⟨y, h1, h2, .inr rfl, (fun _ => rfl), fun h => by omega⟩
end Go.Proofs.Yteencknmfjegiaa.Dsk
