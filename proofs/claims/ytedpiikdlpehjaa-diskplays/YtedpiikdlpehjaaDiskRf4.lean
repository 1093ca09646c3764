/- The document's disk in memory: burns, Arm. -/
import Derived.Test.YtedpiikdlpehjaaDiskRf3
namespace Go.Proofs.Ytedpiikdlpehjaa.Dsk
open Go Go.RowKit Go.Maps
set_option linter.unusedSimpArgs false
set_option linter.unusedVariables false

/-- its cells -/
def rC (m : M) (fv nv kv av : Value) : List Value := [.int .i64 m.room, fv, nv, kv, av, .int .i64 m.fuse, .bool (!m.on), .int .i64 m.calls]
/-- a slice in memory, n elements of sz cells, in blocks of X -/
def SlC (w : World) (X : Nat → Prop) (sz : Nat) (v : Value) (n : Nat) (us : List Value) : Prop :=
  ∃ a cap, v = .slice a n cap ∧ n ≤ cap ∧ cap ≤ maxLen ∧ us.length = n * sz ∧ (a = none → n = 0 ∧ cap = 0) ∧ ∀ i u, us[i]? = some u → ∃ b off, a = some ⟨b, off, none⟩ ∧ X b ∧ b < w.heap.size ∧ w.cell? ⟨b, off + i, none⟩ = some u
section
variable {w w' : World} {X Y : Nat → Prop} {v : Value} {sz n : Nat} {us : List Value}
theorem SlC.at_ (h : SlC w X sz v n us) (hs : w.heap.size ≤ w'.heap.size) (e : ∀ b, X b → b < w.heap.size → w'.heap[b]? = w.heap[b]?) : SlC w' X sz v n us := by
  obtain ⟨a, cap, h1, h2, h3, h5, h6, h4⟩ := h
  refine ⟨a, cap, h1, h2, h3, h5, h6, fun i p hp => ?_⟩
  obtain ⟨b, off, ha, hx, hlt, c0⟩ := h4 i p hp
  exact ⟨b, off, ha, hx, Nat.lt_of_lt_of_le hlt hs, (World.cell?_of_block (w := w) (a := ⟨b, off + i, none⟩) (e b hx hlt)).trans c0⟩
theorem SlC.mono (h : SlC w X sz v n us) (hx : ∀ b, X b → b < w.heap.size → Y b) : SlC w Y sz v n us := by
  obtain ⟨a, cap, h1, h2, h3, h5, h6, h4⟩ := h
  refine ⟨a, cap, h1, h2, h3, h5, h6, fun i p hp => ?_⟩
  obtain ⟨b, off, ha, hxx, hlt, c0⟩ := h4 i p hp
  exact ⟨b, off, ha, hx b hxx hlt, hlt, c0⟩
theorem SlC.later (h : SlC w X sz v n us) (hb : Below w.heap.size w w') : SlC w' X sz v n us := h.at_ hb.size fun b _ hl => hb.block b hl
theorem SlC.nil (w : World) (X : Nat → Prop) (sz : Nat) : SlC w X sz (.slice none 0 0) 0 [] := ⟨none, 0, rfl, Nat.le_refl _, Nat.zero_le _, (by simp), (fun _ => ⟨rfl, rfl⟩), fun i p h => by cases h⟩
theorem slc_own {B : Nat} {e : TypeId} (h : w.ownsRow B e sz v n us) (hl : us.length = n * sz) : SlC w (B ≤ ·) sz v n us := by
  rcases h.2 with ⟨q, q0⟩ | ⟨g, cap, cur, q, h0, hb, h1, h2, h3, h4⟩
  · subst q0
    have e0 : us = [] := List.eq_nil_of_length_eq_zero (by rw [hl, Nat.zero_mul])
    rw [q, e0]
    exact SlC.nil _ _ _
  · refine ⟨_, cap, q, h1, h2, hl, (fun h => by cases h), fun i u hu => ⟨g, 0, rfl, h0, (Array.getElem?_eq_some_iff.1 hb).1, ?_⟩⟩
    have hi := (List.getElem?_eq_some_iff.1 hu).1
    rw [← h4, List.getElem?_take, if_pos (by omega)] at hu
    rw [cell_of_row w g _ cur _ (0, 0) hb, Nat.zero_add]
    simpa using hu
theorem SlC.ents {t : Tbl} (h : SlC w X 2 v t.length (cellsE t)) : Ents w X v t := by
  obtain ⟨a, cap, h1, h2, h3, h5, h6, h4⟩ := h
  refine ⟨a, cap, h1, h2, h3, fun i p hp => ?_⟩
  obtain ⟨e0, e1⟩ := cellsE_at t i p hp
  obtain ⟨b, off, ha, hx, hlt, c0⟩ := h4 _ _ e0
  obtain ⟨b', off', ha', hx', hlt', c1⟩ := h4 _ _ e1
  rw [ha] at ha'
  cases ha'
  exact ⟨b, off, ha, hx, hlt, c0, c1⟩
end
def cellsF (fs : List Fl) : List Value := fs.flatMap fun f => [.string (str (f.data.take f.kept)), .string (str (f.data.drop f.kept))]
/-- the names behind each change -/
def afts (m : M) : List Tbl := (List.range m.since.length).map fun j => settle m.kept (m.since.take (j + 1))
def Afts (w : World) (X : Nat → Prop) (v : Value) (ts : List Tbl) : Prop := ∃ us, SlC w X 1 v ts.length us ∧ ∀ (i : Nat) (t : Tbl) (u : Value), ts[i]? = some t → us[i]? = some u → SlC w X 2 u t.length (cellsE t)
/-- the document's disk, in a block and in rows of X that nobody writes -/
structure RIn (w : World) (X : Nat → Prop) (rb : Nat) (m : M) (fv nv kv av : Value) : Prop where
  row : Row w rb 33 (rC m fv nv kv av)
  fils : SlC w X 2 fv m.files.length (cellsF m.files)
  names : SlC w X 2 nv m.names.length (cellsE m.names)
  kept : SlC w X 2 kv m.kept.length (cellsE m.kept)
  aft : Afts w X av (afts m)
  rbx : ¬ X rb
/-- .. with its room to live in: rows of X, or new ones -/
def RAt (w : World) (X : Nat → Prop) (rb : Nat) (m : M) : Prop := ∃ fv nv kv av, RIn w X rb m fv nv kv av
def RPost (w : World) (X : Nat → Prop) (rb : Nat) (w' : World) (m : M) : Prop := RAt w' (fun k => X k ∨ (w.heap.size ≤ k ∧ k < w'.heap.size)) rb m ∧ Only (· = rb) w w'
section
variable {w w' : World} {X : Nat → Prop} {rb : Nat} {m : M} {fv nv kv av : Value}
theorem RIn.lt (h : RIn w X rb m fv nv kv av) : rb < w.heap.size := h.row.lt
theorem burns_off (h : Row w rb 33 (rC m fv nv kv av)) (hf : m.fuse = 0) : Calls Try.prog 53 #[.pointer (some ⟨rb, 0, none⟩)] w fun e w' => e = .returned (.bool false) ∧ Row w' rb 33 (rC m.off fv nv kv av) ∧ Only (· = rb) w w' := by
  have c5 : w.cell? ⟨rb, 5, none⟩ = some (.int .i64 m.fuse) := h.cell 5
  have c6 : w.cell? ⟨rb, 6, none⟩ = some (.bool (!m.on)) := h.cell 6
  have f6 := h.free 6
  have H : Hid (Row w rb 33 (rC m fv nv kv av)) := h
  rw [hf] at c5
  generalize (!m.on) = on at c6
  clear h hf
  go_enter Try.func53, Try.ntmps53
  go_wp2
  go_ret
  exact ⟨rfl, H.out.set 6 (.bool true), Only.setCell (F := (· = rb)) (p := ⟨rb, 6, none⟩) (Only.refl _ w) (.inl rfl) _⟩
theorem burns_on (h : Row w rb 33 (rC m fv nv kv av)) (hf : m.fuse ≠ 0) (hw : -1 ≤ m.fuse ∧ m.fuse ≤ 9223372036854775807) (hc : m.calls < 1099511627776) : Calls Try.prog 53 #[.pointer (some ⟨rb, 0, none⟩)] w fun e w' => e = .returned (.bool true) ∧ Row w' rb 33 (rC m.spent fv nv kv av) ∧ Only (· = rb) w w' := by
  have c5 : w.cell? ⟨rb, 5, none⟩ = some (.int .i64 m.fuse) := h.cell 5
  have c7 : w.cell? ⟨rb, 7, none⟩ = some (.int .i64 m.calls) := h.cell 7
  have f5 := h.free 5
  have f7 := h.free 7
  have H : Hid (Row w rb 33 (rC m fv nv kv av)) := h
  obtain ⟨fu, HF⟩ : ∃ x, Hid (x = m.fuse) := ⟨_, rfl⟩
  obtain ⟨ca, HC⟩ : ∃ x, Hid (x = m.calls) := ⟨_, rfl⟩
  rw [← HF.out] at c5 hf hw
  rw [← HC.out] at c7 hc
  have hf' : (fu == 0) = false := by rw [beq_eq_false_iff_ne]; exact hf
  by_cases hp : 0 < fu
  · have H2 : Hid (Row (w.setCell ⟨rb, 5, none⟩ (.int .i64 (fu - 1))) rb 33 ((rC m fv nv kv av).set 5 (.int .i64 (fu - 1)))) := h.set 5 _
    have c7' : (w.setCell ⟨rb, 5, none⟩ (.int .i64 (fu - 1))).cell? ⟨rb, 7, none⟩ = some (.int .i64 ca) := by rw [HC.out]; exact H2.out.cell 7
    have f7' := H2.out.free 7
    have HS : Hid (((rC m fv nv kv av).set 5 (.int .i64 (fu - 1))).set 7 (.int .i64 ((ca : Int) + 1)) = rC m.spent fv nv kv av) := by
      have q : m.spent = { m with fuse := m.fuse - 1, calls := m.calls + 1 } := by
        unfold M.spent
        rw [if_pos (by rw [← HF.out]; exact hp)]
      rw [q, HF.out, HC.out]
      rfl
    clear h hf c7 f7
    go_enter Try.func53, Try.ntmps53
    go_wp2
    go_ret
    refine ⟨rfl, ?_, Only.setCell (F := (· = rb)) (p := ⟨rb, 7, none⟩) (Only.setCell (F := (· = rb)) (p := ⟨rb, 5, none⟩) (Only.refl _ w) (.inl rfl) _) (.inl rfl) _⟩
    rw [← HS.out]
    exact H2.out.set 7 _
  · have HS : Hid ((rC m fv nv kv av).set 7 (.int .i64 ((ca : Int) + 1)) = rC m.spent fv nv kv av) := by
      have q : m.spent = { m with fuse := m.fuse, calls := m.calls + 1 } := by
        unfold M.spent
        rw [if_neg (by rw [← HF.out]; exact hp)]
      rw [q, HC.out]
      rfl
    clear h hf
    go_enter Try.func53, Try.ntmps53
    go_wp2
    go_ret
    refine ⟨rfl, ?_, Only.setCell (F := (· = rb)) (p := ⟨rb, 7, none⟩) (Only.refl _ w) (.inl rfl) _⟩
    rw [← HS.out]
    exact H.out.set 7 _
theorem rarm_any (h : Row w rb 33 (rC m fv nv kv av)) (n : Int) (hn : -9223372036854775808 ≤ n ∧ n ≤ 9223372036854775807) : Calls Try.prog 34 #[.pointer (some ⟨rb, 0, none⟩), .int .i64 n] w fun e w' => e = .returned (.tuple #[]) ∧ Row w' rb 33 (rC (m.arm n) fv nv kv av) ∧ Only (· = rb) w w' := by
  have c5 : w.cell? ⟨rb, 5, none⟩ = some (.int .i64 m.fuse) := h.cell 5
  have f5 := h.free 5
  have H : Hid (Row w rb 33 (rC m fv nv kv av)) := h
  generalize m.fuse = fu at c5
  obtain ⟨z, HZ⟩ : ∃ z, Hid (z = max n (-1)) := ⟨_, rfl⟩
  clear h
  go_enter Try.func34, Try.ntmps34
  go_wp2
  go_end0
  exact ⟨rfl, H.out.set 5 _, Only.setCell (F := (· = rb)) (p := ⟨rb, 5, none⟩) (Only.refl _ w) (.inl rfl) _⟩
end
end Go.Proofs.Ytedpiikdlpehjaa.Dsk
