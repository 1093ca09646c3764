/- The document's disk: Sync. -/
import Derived.Test.YtedpiikdlpehjaaDiskRf8
import Derived.BigRegion
import Derived.Deep.RegionWith
namespace Go.Proofs.Ytedpiikdlpehjaa.Dsk
open Go Go.RowKit Go.Maps
set_option linter.unusedSimpArgs false
set_option linter.unusedVariables false

theorem str_app (a b : List UInt8) : str (a ++ b) = str a ++ str b := by
  apply ByteArray.ext
  simp [str]
theorem cellsF_cons (f : Fl) (fs : List Fl) : cellsF (f :: fs) = .string (str (f.data.take f.kept)) :: .string (str (f.data.drop f.kept)) :: cellsF fs := rfl
theorem cellsF_len (fs : List Fl) : (cellsF fs).length = fs.length * 2 := by
  induction fs with
  | nil => rfl
  | cons f fs ih => rw [cellsF_cons, List.length_cons, List.length_cons, ih, List.length_cons]; omega
theorem cellsF_at (fs : List Fl) (i : Nat) (f : Fl) (h : fs[i]? = some f) : (cellsF fs)[i * 2]? = some (.string (str (f.data.take f.kept))) ∧ (cellsF fs)[i * 2 + 1]? = some (.string (str (f.data.drop f.kept))) := by
  induction fs generalizing i with
  | nil => cases h
  | cons q t ih =>
    cases i with
    | zero => cases h; exact ⟨rfl, rfl⟩
    | succ i =>
      have := ih i (by simpa using h)
      rw [cellsF_cons, show (i + 1) * 2 = i * 2 + 1 + 1 by omega]
      exact this
theorem cellsF_set (fs : List Fl) (i : Nat) (f : Fl) : cellsF (fs.set i f) = ((cellsF fs).set (i * 2) (.string (str (f.data.take f.kept)))).set (i * 2 + 1) (.string (str (f.data.drop f.kept))) := by
  induction fs generalizing i with
  | nil => rfl
  | cons q t ih =>
    cases i with
    | zero => rfl
    | succ i =>
      rw [List.set_cons_succ, cellsF_cons, cellsF_cons, ih i, show (i + 1) * 2 = i * 2 + 1 + 1 by omega]
      rfl
theorem cellsF_one (fs : List Fl) : ∀ u ∈ cellsF fs, u.oneCell' = true := by
  intro u hu
  obtain ⟨p, _, hp⟩ := List.mem_flatMap.1 hu
  rcases List.mem_cons.1 hp with h | h
  · rw [h]; rfl
  · rw [List.mem_singleton.1 h]; rfl
theorem cellsF_str (fs : List Fl) : ∀ (i : Nat) (x0 x1 : Value), (cellsF fs)[i * 2]? = some x0 → (cellsF fs)[i * 2 + 1]? = some x1 → ∃ s0 s1, x0 = .string s0 ∧ x1 = .string s1 := by
  intro i x0 x1 h0 h1
  have hi := (List.getElem?_eq_some_iff.1 h0).1
  rw [cellsF_len] at hi
  obtain ⟨e0, e1⟩ := cellsF_at fs i (fs[i]'(by omega)) (List.getElem?_eq_getElem (by omega))
  rw [h0] at e0
  rw [h1] at e1
  cases e0
  cases e1
  exact ⟨_, _, rfl, rfl⟩
theorem SlC.file {w : World} {X : Nat → Prop} {a : Option Addr} {n cap k : Nat} {fs : List Fl} (h : SlC w X 2 (.slice a n cap) k (cellsF fs)) {i : Nat} {f : Fl} (hf : fs[i]? = some f) : ∃ b off, a = some ⟨b, off, none⟩ ∧ b < w.heap.size ∧ w.cell? ⟨b, off + i * 2, none⟩ = some (.string (str (f.data.take f.kept))) ∧ w.cell? ⟨b, off + i * 2 + 1, none⟩ = some (.string (str (f.data.drop f.kept))) := by
  obtain ⟨a', c', q1, q2, q3, q4, q5, q6⟩ := h
  cases q1
  obtain ⟨e0, e1⟩ := cellsF_at fs i f hf
  obtain ⟨b, off, ha, _, hlt, c0⟩ := q6 _ _ e0
  obtain ⟨b', off', ha', _, _, c1⟩ := q6 _ _ e1
  rw [ha] at ha'
  cases ha'
  exact ⟨b, off, ha, hlt, c0, c1⟩
section
variable {w : World} {X : Nat → Prop} {rb : Nat} {m : M} {fv nv kv av : Value}
set_option maxHeartbeats 1000000 in
theorem RIn.sync (h : RIn w X rb m fv nv kv av) (hW : Wf m) (hc : m.calls ≤ 1000) (n : Nm) : Calls Try.prog 30 #[.pointer (some ⟨rb, 0, none⟩), .string (str n)] w fun e w' => e = .returned (.int .i64 (m.sync n).2) ∧ RPost w X rb w' (m.sync n).1 := by
  have H : Hid (RIn w X rb m fv nv kv av) := h
  obtain ⟨us, hus, hone, hvs⟩ := h.aft.vals
  have HUS : Hid (SlC w X 1 av (afts m).length us) := hus
  have HVS : Hid (∀ (i : Nat) (t : Tbl) (u : Value), (afts m)[i]? = some t → us[i]? = some u → SlC w X 2 u t.length (cellsE t)) := hvs
  obtain ⟨na, nc, hnv⟩ := h.names.form
  obtain ⟨aa, ac, hav⟩ := hus.form
  subst hnv hav
  have HCS : Hid (m.since.length ≤ 1000) := by have := hW.sinceN; unfold Hid; omega
  have HNL : Hid (m.names.length ≤ 1000000) := by
    have q := hW.few m.since.length
    rw [List.take_length, ← hW.names] at q
    unfold Hid
    omega
  have hfd := find_any h.names.ents n
  have c2 : w.cell? ⟨rb, 2, none⟩ = some (.slice na m.names.length nc) := h.row.cell 2
  obtain ⟨R, HRR⟩ : ∃ R, Hid (R = m.sync n) := ⟨_, rfl⟩
  rw [← HRR.out]
  go_enter Try.func30, Try.ntmps30
  go_wp2_with fail
  refine hfd.mono ?_
  rintro e w1 ⟨rfl, hB1⟩
  have HB1 : Hid (Below w.heap.size w w1) := hB1
  have HR1 : Hid (Row w1 rb 33 (rC m fv (.slice na m.names.length nc) kv (.slice aa (afts m).length ac))) := H.out.row.at_ (hB1.block _ H.out.row.lt)
  have d6 : w1.cell? ⟨rb, 6, none⟩ = some (.bool (!m.on)) := HR1.out.cell 6
  clear hfd c2 h hus hvs hB1
  by_cases h1 : m.on = false
  · rw [h1] at d6
    go_wp2
    go_ret
    have e : R = (m, 15) := by rw [HRR.out]; unfold M.sync; rw [if_pos h1]
    rw [e]
    exact ⟨rfl, H.out.same HB1.out⟩
  have ho : m.on = true := by simpa using h1
  rw [ho] at d6
  cases hq : look m.names n with
  | none =>
    rw [lookI_none hq]
    go_wp2
    go_ret
    have e : R = (m, 6) := by rw [HRR.out]; unfold M.sync; rw [if_neg h1, hq]
    rw [e]
    exact ⟨rfl, H.out.same HB1.out⟩
  | some i =>
    rw [lookI_some hq]
    have hi0 : decide ((i : Int) < 0) = false := decide_eq_false (by omega)
    by_cases h2 : m.fuse = 0
    · have hb := burns_off HR1.out h2
      go_wp2_with fail
      refine hb.mono ?_
      rintro e w2 ⟨rfl, hR2, hO2⟩
      clear hb
      go_wp2
      go_ret
      have e : R = (m.off, 15) := by rw [HRR.out]; unfold M.sync; rw [if_neg h1, hq]; simp only [M.does, if_pos h2]
      rw [e]
      exact ⟨rfl, H.out.offd ((Only.of_below HB1.out).step hO2) hR2⟩
    · have hb := burns_on HR1.out h2 hW.fuse (by omega)
      go_wp2_with fail
      refine hb.mono ?_
      rintro e w2 ⟨rfl, hR2, hO2⟩
      have HR2 : Hid (Row w2 rb 33 (rC m.spent fv (.slice na m.names.length nc) kv (.slice aa (afts m).length ac))) := hR2
      have HO2 : Hid (Only (· = rb) w w2) := (Only.of_below HB1.out).step hO2
      have HI : Hid (i < m.files.length) := hW.okN.less (n, i) (look_mem hq)
      obtain ⟨fa, fc, hfv⟩ := H.out.fils.form
      subst hfv
      obtain ⟨f, hf⟩ : ∃ f, m.files[i]? = some f := ⟨_, List.getElem?_eq_getElem HI.out⟩
      obtain ⟨b, off, hfa, hbl, x0, x1⟩ := (H.out.fils.keep HO2.out H.out.rbx).file hf
      subst hfa
      have e1 : w2.cell? ⟨rb, 1, none⟩ = some (.slice (some ⟨b, off, none⟩) m.files.length fc) := hR2.cell 1
      have hil := HI.out
      have HFL : Hid (m.files.length ≤ 1000) := by have := hW.filesN; unfold Hid; omega
      have hfl := HFL.out
      clear hb hR2 hO2 d6 hi0
      have hput := fun K => put_any (w := w2.drew) (X := NewX X w w2) (us := cellsF m.files) (m := m.spent) (HR2.out.at_ rfl) ((H.out.fils.keep HO2.out H.out.rbx).at_ (Nat.le_refl _) fun _ _ _ => rfl) (cellsF_one _) (by omega) i hil K ⟨#[]⟩ (cellsF_str _)
      have HAB : Hid (str (f.data.take f.kept) ++ str (f.data.drop f.kept) = str f.data) := by
        have q : str (f.data.take f.kept) ++ str (f.data.drop f.kept) = str f.data := by rw [← str_app, List.take_append_drop]
        exact q
      have hab : (str (f.data.take f.kept)).size + (str (f.data.drop f.kept)).size ≤ 9223372036854775807 := by
        have q := hW.files i HI.out
        have q2 := hW.room
        have q3 : (m.file i).data = f.data := by unfold M.file; rw [List.getD_eq_getElem?_getD, hf]; rfl
        rw [q3] at q
        rw [str_size, str_size, List.length_take, List.length_drop]
        omega
      have hab2 : (str (f.data.take f.kept)).size + (str (f.data.drop f.kept)).size ≤ maxLen := hab
      generalize hfln : m.files.length = fl at *
      go_wp2_with fail
      go_region_with (go_at_call 55; refine (hput _).mono ?_; rintro e w3 ⟨rfl, fv', hR3, hF3, hO3⟩)
      all_goals (
        have hfin : RPost w X rb w3 { m.spent with files := m.spent.files.set i ⟨f.data, f.data.length⟩ } := by
          have hO : Only (· = rb) w w3 := HO2.out.step (Only.step (Only.of_below (Below.refl _ w2).drew) hO3)
          have hF4 := slc_new (X := X) (w := w) (w1 := w2.drew) hF3 (by rw [List.length_set, List.length_set, cellsF_len, hfln]) HO2.out.size
          rw [HAB.out] at hF4
          refine ⟨⟨fv', _, _, _, ⟨hR3, ?_, H.out.names.keep hO H.out.rbx, H.out.kept.keep hO H.out.rbx, H.out.aft.keep hO H.out.rbx, newx_rb H.out.rbx H.out.row.lt⟩⟩, hO⟩
          show SlC w3 (NewX X w w3) 2 fv' (m.files.set i ⟨f.data, f.data.length⟩).length (cellsF (m.files.set i ⟨f.data, f.data.length⟩))
          rw [List.length_set, cellsF_set, hfln]
          simp only [List.take_length, List.drop_length]
          exact hF4
        clear hF3 hR3 hO3
        go_wp2
        go_ret
        have e : R = ({ m.spent with files := m.spent.files.set i ⟨f.data, f.data.length⟩ }, 0) := by
          rw [HRR.out]
          unfold M.sync
          rw [if_neg h1, hq]
          simp only [M.does, if_neg h2]
          have q3 : (m.spent.file i).data = f.data := by
            show (m.files.getD i nul).data = _
            rw [List.getD_eq_getElem?_getD, hf]
            rfl
          rw [q3]
        rw [e]
        exact ⟨rfl, hfin⟩)
end
end Go.Proofs.Ytedpiikdlpehjaa.Dsk
