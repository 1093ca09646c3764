/- Two disks that have the same names and bytes. -/
import Derived.Test.YtedpiikdlpehjaaDiskDoes
namespace Go.Proofs.Ytedpiikdlpehjaa.Dsk
open Go Go.RowKit Go.Maps
set_option linter.unusedSimpArgs false
set_option linter.unusedVariables false

theorem does_calls (m : M) (f : M → M) (hf : ∀ s, (f s).calls = s.calls) : (m.does f).1.calls ≤ m.calls + 1 := by
  unfold M.does
  split
  · exact Nat.le_succ _
  · show (f m.spent).calls ≤ _
    rw [hf]
    exact Nat.le_refl _
theorem act_calls (m : M) (x : Act) : (m.act x).1.calls ≤ m.calls + 1 := by
  unfold M.act
  split
  · unfold M.create
    split
    · exact Nat.le_succ _
    split
    · exact Nat.le_succ _
    split
    · exact Nat.le_succ _
    exact does_calls _ _ fun s => rfl
  · unfold M.append
    split
    · exact Nat.le_succ _
    split
    · exact Nat.le_succ _
    split
    · exact Nat.le_succ _
    exact does_calls _ _ fun s => rfl
  · unfold M.sync
    split
    · exact Nat.le_succ _
    split
    · exact Nat.le_succ _
    exact does_calls _ _ fun s => rfl
  · unfold M.rename
    split
    · exact Nat.le_succ _
    split
    · exact Nat.le_succ _
    split
    · exact Nat.le_succ _
    split
    · exact does_calls _ _ fun s => rfl
    exact does_calls _ _ fun s => rfl
  · unfold M.remove
    split
    · exact Nat.le_succ _
    split
    · exact Nat.le_succ _
    exact does_calls _ _ fun s => rfl
  · unfold M.syncDir
    split
    · exact Nat.le_succ _
    exact does_calls _ _ fun s => rfl
  · exact Nat.le_succ _
  · unfold M.start
    split
    · exact Nat.le_succ _
    exact Nat.le_succ _
structure Sim (a b : M) : Prop where
  ao : a.on = true
  bo : b.on = true
  af : a.fuse = -1
  bf : b.fuse = -1
  nm : a.names = b.names
  rm : a.room = b.room
  dt : a.files.map (·.data) = b.files.map (·.data)
theorem does_free {m : M} (h : m.fuse = -1) (f : M → M) : m.does f = (f { m with calls := m.calls + 1 }, 0) := by
  unfold M.does M.spent
  rw [h]
  rfl
theorem getD_data (fs : List Fl) (i : Nat) : (fs.getD i nul).data = (fs.map (·.data)).getD i [] := by
  rw [List.getD_eq_getElem?_getD, List.getD_eq_getElem?_getD, List.getElem?_map]
  cases fs[i]? <;> rfl
theorem map_set_data (fs : List Fl) (i : Nat) (x : Fl) : (fs.set i x).map (·.data) = (fs.map (·.data)).set i x.data := by rw [List.map_set]
theorem total_data {fs gs : List Fl} (h : fs.map (·.data) = gs.map (·.data)) (t : Tbl) : total fs t = total gs t := by
  unfold total
  congr 1
  apply List.map_congr_left
  intro p _
  rw [getD_data, getD_data, h]
theorem set_getD_self {α : Type} (l : List α) (i : Nat) (d : α) : l.set i (l.getD i d) = l := by
  apply List.ext_getElem?
  intro j
  by_cases e : i = j
  · subst e
    by_cases hi : i < l.length
    · rw [List.getElem?_set_self hi, List.getD_eq_getElem?_getD, List.getElem?_eq_getElem hi]; rfl
    · rw [List.getElem?_eq_none (by rw [List.length_set]; omega), List.getElem?_eq_none (by omega)]
  · rw [List.getElem?_set_ne e]
section
variable {a b : M}
theorem Sim.used (h : Sim a b) : a.used = b.used := by
  unfold M.used
  rw [h.nm]
  exact total_data h.dt _
theorem Sim.uses (h : Sim a b) : a.uses = b.uses := by
  unfold M.uses
  rw [h.ao, h.bo, h.used]
theorem Sim.list (h : Sim a b) : a.list = b.list := by
  unfold M.list
  rw [h.ao, h.bo, h.nm]
theorem Sim.len (h : Sim a b) : a.files.length = b.files.length := by
  have := congrArg List.length h.dt
  simpa using this
theorem Sim.read (h : Sim a b) (n : Nm) : a.read n = b.read n := by
  unfold M.read M.file
  rw [h.ao, h.bo, h.nm]
  simp only [getD_data, h.dt]
theorem Sim.left (h : Sim a b) (x : Act) (hk : x.kind % 8 = 2 ∨ x.kind % 8 = 5) : Sim (a.act x).1 b := by
  unfold M.act
  rcases hk with e | e <;> rw [e]
  · show Sim (a.sync x.nA).1 b
    unfold M.sync
    rw [if_neg (by rw [h.ao]; decide)]
    cases look a.names x.nA with
    | none => exact h
    | some i =>
      simp only [does_free h.af]
      refine ⟨h.ao, h.bo, h.af, h.bf, h.nm, h.rm, ?_⟩
      show (a.files.set i ⟨(a.files.getD i nul).data, _⟩).map (·.data) = _
      rw [map_set_data]
      simp only [getD_data, set_getD_self]
      exact h.dt
  · show Sim a.syncDir.1 b
    unfold M.syncDir
    rw [if_neg (by rw [h.ao]; decide), does_free h.af]
    exact ⟨h.ao, h.bo, h.af, h.bf, h.nm, h.rm, h.dt⟩
theorem Sim.both (h : Sim a b) (x : Act) (hk : x.kind % 8 < 6) (h2 : x.kind % 8 ≠ 2) (h5 : x.kind % 8 ≠ 5) : (a.act x).2 = (b.act x).2 ∧ Sim (a.act x).1 (b.act x).1 := by
  have hoa : ¬ a.on = false := by rw [h.ao]; decide
  have hob : ¬ b.on = false := by rw [h.bo]; decide
  unfold M.act
  rcases (by omega : x.kind % 8 = 0 ∨ x.kind % 8 = 1 ∨ x.kind % 8 = 3 ∨ x.kind % 8 = 4) with e | e | e | e <;> rw [e]
  · show (a.create x.nA).2 = (b.create x.nA).2 ∧ Sim (a.create x.nA).1 (b.create x.nA).1
    unfold M.create
    rw [if_neg hoa, if_neg hob, h.nm]
    split
    · exact ⟨rfl, h⟩
    split
    · exact ⟨rfl, h⟩
    rw [does_free h.af, does_free h.bf]
    refine ⟨rfl, ⟨h.ao, h.bo, h.af, h.bf, ?_, h.rm, ?_⟩⟩
    · show Chg.app ⟨[], x.nA, some a.files.length⟩ a.names = Chg.app ⟨[], x.nA, some b.files.length⟩ b.names
      rw [h.nm, h.len]
    · show (a.files ++ [nul]).map (·.data) = (b.files ++ [nul]).map (·.data)
      rw [List.map_append, List.map_append, h.dt]
  · show (a.append x.nA x.data).2 = (b.append x.nA x.data).2 ∧ Sim (a.append x.nA x.data).1 (b.append x.nA x.data).1
    unfold M.append
    rw [if_neg hoa, if_neg hob, h.nm]
    cases look b.names x.nA with
    | none => exact ⟨rfl, h⟩
    | some i =>
      simp only [h.used, h.rm]
      split
      · exact ⟨rfl, h⟩
      rw [does_free h.af, does_free h.bf]
      refine ⟨rfl, ⟨h.ao, h.bo, h.af, h.bf, h.nm, h.rm, ?_⟩⟩
      show (a.files.set i ⟨(a.files.getD i nul).data ++ x.data, _⟩).map (·.data) = (b.files.set i ⟨(b.files.getD i nul).data ++ x.data, _⟩).map (·.data)
      rw [map_set_data, map_set_data]
      simp only [getD_data, h.dt]
  · show (a.rename x.nA x.nB).2 = (b.rename x.nA x.nB).2 ∧ Sim (a.rename x.nA x.nB).1 (b.rename x.nA x.nB).1
    unfold M.rename
    rw [if_neg hoa, if_neg hob, h.nm]
    cases look b.names x.nA with
    | none => exact ⟨rfl, h⟩
    | some i =>
      simp only
      split
      · exact ⟨rfl, h⟩
      split
      · rw [does_free h.af, does_free h.bf]
        exact ⟨rfl, ⟨h.ao, h.bo, h.af, h.bf, h.nm, h.rm, h.dt⟩⟩
      · rw [does_free h.af, does_free h.bf]
        refine ⟨rfl, ⟨h.ao, h.bo, h.af, h.bf, ?_, h.rm, h.dt⟩⟩
        show Chg.app ⟨x.nA, x.nB, some i⟩ a.names = Chg.app ⟨x.nA, x.nB, some i⟩ b.names
        rw [h.nm]
  · show (a.remove x.nA).2 = (b.remove x.nA).2 ∧ Sim (a.remove x.nA).1 (b.remove x.nA).1
    unfold M.remove
    rw [if_neg hoa, if_neg hob, h.nm]
    cases look b.names x.nA with
    | none => exact ⟨rfl, h⟩
    | some i =>
      simp only
      rw [does_free h.af, does_free h.bf]
      refine ⟨rfl, ⟨h.ao, h.bo, h.af, h.bf, ?_, h.rm, h.dt⟩⟩
      show Chg.app ⟨x.nA, [], none⟩ a.names = Chg.app ⟨x.nA, [], none⟩ b.names
      rw [h.nm]
theorem sim_new (r : Nat) : Sim (M.new r) (M.new r) := ⟨rfl, rfl, rfl, rfl, rfl, rfl, rfl⟩
end
/-! ### two disks in one memory -/
def Two (w0 w : World) (da : Nat) (a : M) (db : Nat) (b : M) : Prop := ∃ FA FB, DiskAt w FA da a ∧ DiskAt w FB db b ∧ (∀ k, FA k → ¬ FB k) ∧ (∀ k, FA k → w0.heap.size ≤ k) ∧ (∀ k, FB k → w0.heap.size ≤ k) ∧ Below w0.heap.size w0 w
section
variable {w0 w : World} {da db : Nat} {a b : M}
theorem Two.swap (h : Two w0 w da a db b) : Two w0 w db b da a := by
  obtain ⟨FA, FB, h1, h2, h3, h4, h5, h6⟩ := h
  exact ⟨FB, FA, h2, h1, (fun k hb ha => h3 k ha hb), h5, h4, h6⟩
theorem Two.bel (h : Two w0 w da a db b) : Below w0.heap.size w0 w := by
  obtain ⟨FA, FB, h1, h2, h3, h4, h5, h6⟩ := h
  exact h6
theorem Two.mine (h : Two w0 w da a db b) : Mine w0 w da a := by
  obtain ⟨FA, FB, h1, h2, h3, h4, h5, h6⟩ := h
  exact ⟨FA, h1, h4, h6⟩
theorem Two.later (h : Two w0 w da a db b) {w' : World} (hb : Below w.heap.size w w') : Two w0 w' da a db b := by
  obtain ⟨FA, FB, h1, h2, h3, h4, h5, h6⟩ := h
  exact ⟨FA, FB, h1.below hb, h2.below hb, h3, h4, h5, h6.trans (hb.mono h6.size)⟩
theorem RawOk.off_of {r : Raw} (hR : RawOk w0 r) {F : Nat → Prop} (hF : ∀ k, F k → w0.heap.size ≤ k) : r.off F := by
  refine ⟨fun b o ha hp hf => ?_, fun b o ha hp hf => ?_⟩
  · obtain ⟨b', o', e, hlt, _⟩ := hR.data.2 hp
    rw [ha] at e
    cases e
    have := hF b hf
    omega
  · obtain ⟨b', o', e, hlt, _⟩ := hR.keep.2 hp
    rw [ha] at e
    cases e
    have := hF b hf
    omega
theorem Two.does (h : Two w0 w da a db b) (hc : a.calls < 1099511627776) (r : Raw) (hR : RawOk w0 r) (hdl : r.dl ≤ 140737488355328) :
    Calls Try.prog 9 #[.pointer (some ⟨da, 0, none⟩), .agg #[.int .u8 r.act.kind, .string (str r.act.nA), .string (str r.act.nB), .slice r.da r.dl r.dc, .int .i64 r.act.num, .slice r.ka r.kl r.kc]] w fun e w' => e = .returned (.int .i64 (a.act r.act).2) ∧ Two w0 w' da (a.act r.act).1 db b := by
  obtain ⟨FA, FB, h1, h2, h3, h4, h5, h6⟩ := h
  refine (h1.does hc r (hR.later h6) hdl (hR.off_of h4)).mono ?_
  rintro e w' ⟨he, F', k1, k2, k3⟩
  refine ⟨he, F', FB, k1, h2.only k3 (fun k hb ha => h3 k ha hb), fun k hk hb => ?_, fun k hk => ?_, h5, h6.trans (k3.below h6.size h4)⟩
  · rcases k2 k hk with q | q
    · exact h3 k q hb
    · have := h2.lt k hb
      omega
  · rcases k2 k hk with q | q
    · exact h4 k q
    · exact Nat.le_trans h6.size q
theorem Mine.does (h : Mine w0 w da a) (hc : a.calls < 1099511627776) (r : Raw) (hR : RawOk w0 r) (hdl : r.dl ≤ 140737488355328) :
    Calls Try.prog 9 #[.pointer (some ⟨da, 0, none⟩), .agg #[.int .u8 r.act.kind, .string (str r.act.nA), .string (str r.act.nB), .slice r.da r.dl r.dc, .int .i64 r.act.num, .slice r.ka r.kl r.kc]] w fun e w' => e = .returned (.int .i64 (a.act r.act).2) ∧ Mine w0 w' da (a.act r.act).1 := by
  obtain ⟨F, h1, h2, h3⟩ := h
  exact (h1.does hc r (hR.later h3) hdl (hR.off_of h2)).mono fun e w' ⟨he, hp⟩ => ⟨he, Mine.post h2 h3 hp⟩
theorem Mine.two {w' : World} (h : Mine w0 w da a) (k : Mine w w' db b) : Two w0 w' da a db b := by
  obtain ⟨FA, h1, h2, h3⟩ := h
  obtain ⟨FB, k1, k2, k3⟩ := k
  exact ⟨FA, FB, h1.below k3, k1, (fun q ha hb => by have := h1.lt q ha; have := k2 q hb; omega), h2, (fun q hb => Nat.le_trans h3.size (k2 q hb)), h3.trans (k3.mono h3.size)⟩
end
end Go.Proofs.Ytedpiikdlpehjaa.Dsk
