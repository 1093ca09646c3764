/- What stands of a plain disk stands behind each call. -/
import Derived.Test.YtedpiikdlpehjaaDiskStart2
namespace Go.Proofs.Ytedpiikdlpehjaa.Dsk
open Go Go.RowKit Go.Maps
set_option linter.unusedSimpArgs false
set_option linter.unusedVariables false

theorem settle_app (t : Tbl) (l : List Chg) (c : Chg) : settle t (l ++ [c]) = c.app (settle t l) := by simp [settle]
theorem wf_off {m : M} (h : Wf m) : Wf m.off := ⟨h.names, h.ok, h.few, h.to, h.nms, h.files, h.room, h.sinceN, h.filesN, h.fuse⟩
theorem fuse_spent {m : M} (h : -1 ≤ m.fuse ∧ m.fuse ≤ 9223372036854775807) : -1 ≤ m.spent.fuse ∧ m.spent.fuse ≤ 9223372036854775807 := by
  simp only [M.spent]
  split <;> omega
theorem wf_spent {m : M} (h : Wf m) : Wf m.spent := ⟨h.names, h.ok, h.few, h.to, h.nms, h.files, h.room, Nat.le_succ_of_le h.sinceN, Nat.le_succ_of_le h.filesN, fuse_spent h.fuse⟩
theorem wf_arm {m : M} (h : Wf m) (n : Int) (hn : n ≤ 9223372036854775807) : Wf (m.arm n) := ⟨h.names, h.ok, h.few, h.to, h.nms, h.files, h.room, h.sinceN, h.filesN, by simp only [M.arm]; omega⟩
theorem wf_step {m : M} (h : Wf m) (c : Chg) (fs : List Fl) (h1 : m.files.length ≤ fs.length) (h2 : fs.length ≤ m.files.length + 1) (h3 : FOk fs m.room) (hto : ∀ i, c.to = some i → i < fs.length) (hln : c.gone.length ≤ 32 ∧ c.name.length ≤ 32) (hok : Ok (c.app m.names) fs.length) (hfew : (c.app m.names).length ≤ 64) :
    Wf { m.spent.turn c with files := fs } := by
  have key : ∀ j, settle m.kept ((m.since ++ [c]).take j) = settle m.kept (m.since.take j) ∨ settle m.kept ((m.since ++ [c]).take j) = c.app m.names := fun j => by
    by_cases hj : j ≤ m.since.length
    · left; rw [List.take_append_of_le_length hj]
    · right; rw [List.take_of_length_le (by simp; omega), settle_app, ← h.names]
  refine ⟨?_, fun j => ?_, fun j => ?_, fun c' hc' i hi => ?_, fun c' hc' => ?_, h3, h.room, ?_, ?_, fuse_spent h.fuse⟩
  · show c.app m.names = settle m.kept (m.since ++ [c])
    rw [settle_app, ← h.names]
  · rcases key j with q | q
    · show Ok (settle m.kept ((m.since ++ [c]).take j)) fs.length
      rw [q]; exact (h.ok j).mono h1
    · show Ok (settle m.kept ((m.since ++ [c]).take j)) fs.length
      rw [q]; exact hok
  · rcases key j with q | q
    · show (settle m.kept ((m.since ++ [c]).take j)).length ≤ 64
      rw [q]; exact h.few j
    · show (settle m.kept ((m.since ++ [c]).take j)).length ≤ 64
      rw [q]; exact hfew
  · rcases List.mem_append.1 hc' with q | q
    · exact Nat.lt_of_lt_of_le (h.to c' q i hi) h1
    · simp at q
      subst q
      exact hto i hi
  · rcases List.mem_append.1 hc' with q | q
    · exact h.nms c' q
    · simp at q
      subst q
      exact hln
  · have := h.sinceN
    show (m.since ++ [c]).length ≤ m.calls + 1
    simp
    omega
  · have := h.filesN
    show fs.length ≤ m.calls + 1
    omega
theorem isNm_len {n : Nm} (h : isNm n = true) : 1 ≤ n.length ∧ n.length ≤ 32 := by
  simp only [isNm, Bool.and_eq_true, decide_eq_true_eq] at h
  exact h.1
theorem Ok.no_nil {t : Tbl} {n : Nat} (h : Ok t n) : Dsk.del t [] = t := del_none fun p hp e => by
  have := isNm_len (h.nms p hp)
  rw [e] at this
  simp at this
theorem len_del_has {t : Tbl} {k : Nm} {i : Nat} (h : (k, i) ∈ t) : (del t k).length + 1 ≤ t.length := by
  unfold del
  have h1 : ¬ (t.filter fun p => !(p.1 == k)).length = t.length := by
    rw [List.length_filter_eq_length_iff]
    intro q
    have := q _ h
    simp at this
  have h2 := List.length_filter_le (fun p : Nm × Nat => !(p.1 == k)) t
  omega
theorem fok_more {fs : List Fl} {r : Nat} (h : FOk fs r) : FOk (fs ++ [nul]) r := by
  intro i hi
  by_cases q : i < fs.length
  · rw [getD_more _ _ _ _ q]; exact h i q
  · have e : i = fs.length := by simp at hi; omega
    rw [e, getD_last]
    exact ⟨Nat.le_refl _, Nat.zero_le _⟩
theorem wf_create {m : M} (h : Wf m) (n : Nm) : Wf (m.create n).1 := by
  unfold M.create
  split
  · exact h
  split
  · exact h
  rename_i hon hnm
  split
  · exact h
  rename_i hl
  unfold M.does
  split
  · exact wf_off h
  have hnm' : isNm n = true := by simpa using hnm
  have happ : Chg.app ⟨[], n, some m.files.length⟩ m.names = put m.names n m.files.length := by simp only [Chg.app]; rw [h.okN.no_nil]
  refine wf_step h ⟨[], n, some m.files.length⟩ (m.files ++ [nul]) (by simp) (by simp) (fok_more h.files) (fun i hi => by cases hi; simp) ⟨Nat.zero_le _, (isNm_len hnm').2⟩ ?_ ?_
  · rw [happ]
    refine (h.okN.mono (by simp)).put hnm' (by simp) fun p hp e => ?_
    have := h.okN.less p hp
    omega
  · rw [happ]
    have h64 := h.fewN
    cases hq : look m.names n with
    | none =>
      have h1 := len_put m.names n m.files.length
      have h2 : m.names.length ≠ 64 := fun e => hl ⟨hq, e⟩
      omega
    | some i =>
      have h1 := len_del_has (look_mem hq)
      rw [put, len_ins]
      omega
theorem total_mem (fs : List Fl) : ∀ {t : Tbl} {p : Nm × Nat}, p ∈ t → (fs.getD p.2 nul).data.length ≤ total fs t
  | q :: r, p, h => by
    unfold total
    simp only [List.map_cons, List.sum_cons]
    rcases List.mem_cons.1 h with rfl | h
    · omega
    · have := total_mem fs h
      unfold total at this
      omega
theorem wf_files {m : M} (h : Wf m) (i : Nat) (f : Fl) (hf : f.kept ≤ f.data.length ∧ f.data.length ≤ m.room) : Wf { m.spent with files := m.files.set i f } := by
  have hl : (m.files.set i f).length = m.files.length := List.length_set
  refine ⟨h.names, fun j => ?_, h.few, fun c hc k hk => ?_, h.nms, set_fok h.files i f hf, h.room, Nat.le_succ_of_le h.sinceN, ?_, fuse_spent h.fuse⟩
  · show Ok _ (m.files.set i f).length
    rw [hl]; exact h.ok j
  · show k < (m.files.set i f).length
    rw [hl]; exact h.to c hc k hk
  · show (m.files.set i f).length ≤ m.calls + 1
    rw [hl]; exact Nat.le_succ_of_le h.filesN
theorem wf_append {m : M} (h : Wf m) (n : Nm) (b : List UInt8) : Wf (m.append n b).1 := by
  unfold M.append
  split
  · exact h
  cases hl : look m.names n with
  | none => exact h
  | some i =>
    simp only
    split
    · exact h
    rename_i hr
    unfold M.does
    split
    · exact wf_off h
    have hm := look_mem hl
    have hi := h.okN.less _ hm
    have h1 := h.files i hi
    have h2 := total_mem m.files hm
    simp only at h2
    refine wf_files h i _ ⟨?_, ?_⟩
    · show (m.file i).kept ≤ ((m.file i).data ++ b).length
      rw [List.length_append]; omega
    · show ((m.file i).data ++ b).length ≤ m.room
      rw [List.length_append]
      unfold M.used at hr
      have h3 : (m.file i).data.length ≤ total m.files m.names := h2
      omega
theorem wf_sync {m : M} (h : Wf m) (n : Nm) : Wf (m.sync n).1 := by
  unfold M.sync
  split
  · exact h
  cases hl : look m.names n with
  | none => exact h
  | some i =>
    simp only
    unfold M.does
    split
    · exact wf_off h
    have hi := h.okN.less _ (look_mem hl)
    have h1 := h.files i hi
    exact wf_files h i _ ⟨Nat.le_refl _, h1.2⟩
theorem once_eq {t : Tbl} (h : t.Pairwise fun p q => p.2 ≠ q.2) {p q : Nm × Nat} (hp : p ∈ t) (hq : q ∈ t) (e : p.2 = q.2) : p = q := by
  rw [List.pairwise_iff_getElem] at h
  obtain ⟨a, ha, ea⟩ := List.getElem_of_mem hp
  obtain ⟨b, hb, eb⟩ := List.getElem_of_mem hq
  rcases Nat.lt_trichotomy a b with x | x | x
  · exact absurd (by rw [ea, eb]; exact e) (h a b ha hb x)
  · subst x; rw [← ea, ← eb]
  · exact absurd (by rw [ea, eb]; exact e.symm) (h b a hb ha x)
theorem wf_rename {m : M} (h : Wf m) (a b : Nm) : Wf (m.rename a b).1 := by
  unfold M.rename
  split
  · exact h
  cases hl : look m.names a with
  | none => exact h
  | some i =>
    simp only
    split
    · exact h
    rename_i hnm
    have hnm' : isNm b = true := by simpa using hnm
    have hm := look_mem hl
    split
    · unfold M.does
      split
      · exact wf_off h
      · exact wf_spent h
    · unfold M.does
      split
      · exact wf_off h
      have hi := h.okN.less _ hm
      refine wf_step h ⟨a, b, some i⟩ m.files (Nat.le_refl _) (Nat.le_succ _) h.files (fun j hj => by cases hj; exact hi) ⟨(isNm_len (h.okN.nms _ hm)).2, (isNm_len hnm').2⟩ ?_ ?_
      · refine (h.okN.del a).put hnm' hi fun p hp e => ?_
        have h1 := mem_del.1 hp
        have h2 := once_eq h.okN.once h1.1 hm e
        exact absurd (by rw [h2]) h1.2
      · have h1 := len_del_has hm
        have h2 := len_put (del m.names a) b i
        have h3 := h.fewN
        show (put (del m.names a) b i).length ≤ 64
        omega
theorem wf_remove {m : M} (h : Wf m) (n : Nm) : Wf (m.remove n).1 := by
  unfold M.remove
  split
  · exact h
  cases hl : look m.names n with
  | none => exact h
  | some i =>
    simp only
    unfold M.does
    split
    · exact wf_off h
    have hm := look_mem hl
    refine wf_step h ⟨n, [], none⟩ m.files (Nat.le_refl _) (Nat.le_succ _) h.files (fun j hj => by cases hj) ⟨(isNm_len (h.okN.nms _ hm)).2, Nat.zero_le _⟩ (h.okN.del n) ?_
    exact Nat.le_trans (len_del _ _) h.fewN
theorem settle_nil (t : Tbl) (j : Nat) : settle t (([] : List Chg).take j) = t := by simp [settle]
theorem wf_syncDir {m : M} (h : Wf m) : Wf m.syncDir.1 := by
  unfold M.syncDir
  split
  · exact h
  unfold M.does
  split
  · exact wf_off h
  have e : settle m.kept (m.since.take m.since.length) = m.names := by rw [List.take_length, ← h.names]
  have e' : settle m.spent.kept (m.spent.since.take m.spent.since.length) = m.names := e
  refine ⟨?_, fun j => ?_, fun j => ?_, (fun c hc => by cases hc), (fun c hc => by cases hc), h.files, h.room, Nat.zero_le _, Nat.le_succ_of_le h.filesN, fuse_spent h.fuse⟩
  · show m.names = settle (settle m.spent.kept (m.spent.since.take m.spent.since.length)) []
    rw [e']; rfl
  · show Ok (settle (settle m.spent.kept (m.spent.since.take m.spent.since.length)) (([] : List Chg).take j)) m.files.length
    rw [settle_nil, e']; exact h.okN
  · show (settle (settle m.spent.kept (m.spent.since.take m.spent.since.length)) (([] : List Chg).take j)).length ≤ 64
    rw [settle_nil, e']; exact h.fewN
theorem wf_start {m : M} (h : Wf m) (c : Int) (keep : List Int) : Wf (m.start c keep).1 := by
  unfold M.start
  split
  · exact h
  have hok := h.ok (many c m.since.length)
  have hfew := h.few (many c m.since.length)
  refine ⟨rfl, fun j => ?_, fun j => ?_, (fun c hc => by cases hc), (fun c hc => by cases hc), ?_, h.room, Nat.zero_le _, ?_, by constructor <;> simp⟩
  · simp only [settle_nil, cuts_len]; exact hok
  · simp only [settle_nil]; exact hfew
  · exact cuts_fok h.files _ _ hok.less _
  · simp only [cuts_len]; exact h.filesN
theorem total_le {fs : List Fl} {r : Nat} (h : FOk fs r) : ∀ {t : Tbl}, (∀ p ∈ t, p.2 < fs.length) → total fs t ≤ t.length * r
  | [], _ => Nat.zero_le _
  | p :: t, hl => by
    have h1 := total_le h (t := t) fun q hq => hl q (List.mem_cons_of_mem _ hq)
    have h2 := (h p.2 (hl p List.mem_cons_self)).2
    unfold total at *
    simp only [List.map_cons, List.sum_cons, List.length_cons, Nat.add_mul, Nat.one_mul]
    omega
theorem used_le {m : M} (h : Wf m) : m.used ≤ 67108864 := by
  have h1 := total_le h.files h.okN.less
  have h2 := h.fewN
  have h3 := h.room
  have h4 : m.names.length * m.room ≤ 64 * 1048576 := Nat.mul_le_mul h2 h3
  unfold M.used
  omega
end Go.Proofs.Ytedpiikdlpehjaa.Dsk
