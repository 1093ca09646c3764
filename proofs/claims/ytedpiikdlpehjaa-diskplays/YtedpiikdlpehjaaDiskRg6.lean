/- The document's disk: Read. -/
import Derived.Test.YtedpiikdlpehjaaDiskRg2
import Derived.Lib.ConvBytes
import Derived.BigRegion
namespace Go.Proofs.Ytedpiikdlpehjaa.Dsk
open Go Go.RowKit Go.Maps
set_option linter.unusedSimpArgs false
set_option linter.unusedVariables false

theorem below_conv (w : World) (D : List UInt8) : Below w.heap.size w (Lib.bytesWorld w 5 (str D)) := ⟨rfl, rfl, rfl, by rw [Lib.bytesWorld_size]; omega, fun k hk => Lib.bytesWorld_at_old w _ _ k hk⟩
theorem bys_conv (w : World) (D : List UInt8) : Bys (Lib.bytesWorld w 5 (str D)) (some ⟨w.heap.size, 0, none⟩) D.length D := by
  refine ⟨rfl, fun hp => ⟨w.heap.size, 0, rfl, by rw [Lib.bytesWorld_size]; omega, fun i hi => ?_⟩⟩
  have hn := Lib.bytesWorld_at_new w 5 (str D)
  rw [Nat.zero_add, cell_of_row _ w.heap.size i (Lib.bytesCells w 5 (str D)) _ _ hn, ← byC_at D i hi]
  have e : (Lib.bytesCells w 5 (str D)).toList = byC D ++ List.replicate (grownCap w (str D).size 0 5 - (str D).size) (.int .u8 0) := by
    simp [Lib.bytesCells, byC, str]
  rw [← Array.getElem?_toList, e, List.getElem?_append_left (by rw [byC_len]; exact hi)]
section
variable {w : World} {X : Nat → Prop} {rb : Nat} {m : M} {fv nv kv av : Value}
set_option maxRecDepth 100000 in
set_option maxHeartbeats 4000000 in
theorem RIn.read (h : RIn w X rb m fv nv kv av) (hW : Wf m) (hc : m.calls ≤ 1000) (n : Nm) : Calls Try.prog 19 #[.pointer (some ⟨rb, 0, none⟩), .string (str n)] w fun e w' => ∃ a c, e = .returned (.tuple #[.slice a (m.read n).1.length c, .int .i64 (m.read n).2]) ∧ Bys w' a (m.read n).1.length (m.read n).1 ∧ Below w.heap.size w w' := by
  have H : Hid (RIn w X rb m fv nv kv av) := h
  obtain ⟨na, nc, hnv⟩ := h.names.form
  subst hnv
  have hfd := find_any h.names.ents n
  have c2 : w.cell? ⟨rb, 2, none⟩ = some (.slice na m.names.length nc) := h.row.cell 2
  obtain ⟨R, HRR⟩ : ∃ R, Hid (R = m.read n) := ⟨_, rfl⟩
  rw [← HRR.out]
  go_enter Try.func19, Try.ntmps19
  go_wp2_with fail
  refine hfd.mono ?_
  rintro e w1 ⟨rfl, hB1⟩
  have HB1 : Hid (Below w.heap.size w w1) := hB1
  have HR1 : Hid (Row w1 rb 33 (rC m fv (.slice na m.names.length nc) kv av)) := H.out.row.at_ (hB1.block _ H.out.row.lt)
  have d6 : w1.cell? ⟨rb, 6, none⟩ = some (.bool (!m.on)) := HR1.out.cell 6
  clear hfd c2 h hB1
  by_cases h1 : m.on = false
  · rw [h1] at d6
    go_wp2
    go_ret2
    have e : R = ([], 15) := by rw [HRR.out]; unfold M.read; rw [if_pos h1]
    rw [e]
    exact ⟨none, 0, rfl, ⟨rfl, fun h => absurd h (by decide)⟩, HB1.out⟩
  have ho : m.on = true := by simpa using h1
  rw [ho] at d6
  cases hq : look m.names n with
  | none =>
    rw [lookI_none hq]
    go_wp2
    go_ret2
    have e : R = ([], 6) := by rw [HRR.out]; unfold M.read; rw [if_neg h1, hq]
    rw [e]
    exact ⟨none, 0, rfl, ⟨rfl, fun h => absurd h (by decide)⟩, HB1.out⟩
  | some i =>
    rw [lookI_some hq]
    have hi0 : decide ((i : Int) < 0) = false := decide_eq_false (by omega)
    have HI : Hid (i < m.files.length) := hW.okN.less (n, i) (look_mem hq)
    obtain ⟨fa, fc, hfv⟩ := H.out.fils.form
    subst hfv
    obtain ⟨f, hf⟩ : ∃ f, m.files[i]? = some f := ⟨_, List.getElem?_eq_getElem HI.out⟩
    obtain ⟨b, off, hfa, hbl, x0, x1⟩ := H.out.fils.file hf
    subst hfa
    rw [← HB1.out.cell (p := ⟨b, off + i * 2, none⟩) hbl] at x0
    rw [← HB1.out.cell (p := ⟨b, off + i * 2 + 1, none⟩) hbl] at x1
    have e1 : w1.cell? ⟨rb, 1, none⟩ = some (.slice (some ⟨b, off, none⟩) m.files.length fc) := HR1.out.cell 1
    have hil := HI.out
    have hfl : m.files.length ≤ 1000 := by have := hW.filesN; omega
    have HAB : Hid (str (f.data.take f.kept) ++ str (f.data.drop f.kept) = str f.data) := by
      have q : str (f.data.take f.kept) ++ str (f.data.drop f.kept) = str f.data := by rw [← str_app, List.take_append_drop]
      exact q
    have hfd : f.data.length ≤ 1048576 := by
      have q := hW.files i HI.out
      have q2 := hW.room
      have q3 : (m.file i).data = f.data := by unfold M.file; rw [List.getD_eq_getElem?_getD, hf]; rfl
      rw [q3] at q
      omega
    have hab : (str (f.data.take f.kept)).size + (str (f.data.drop f.kept)).size ≤ 9223372036854775807 := by
      rw [str_size, str_size, List.length_take, List.length_drop]
      omega
    have e : R = (f.data, 0) := by
      rw [HRR.out]
      unfold M.read M.file
      rw [if_neg h1, hq]
      simp only
      rw [List.getD_eq_getElem?_getD, hf]
      rfl
    have HE : Hid (R = (f.data, 0)) := e
    have hcb := Lib.run_convert_string_bytes (P := Try.prog) w1.drew 9 37 5 (str (f.data.take f.kept) ++ str (f.data.drop f.kept)) Try.underlying9 Try.underlying37 Try.underlying5
    obtain ⟨V, HV⟩ : ∃ V, Hid (V = Lib.bytesWorld w1.drew 5 (str (f.data.take f.kept) ++ str (f.data.drop f.kept))) := ⟨_, rfl⟩
    obtain ⟨pc, HPC⟩ : ∃ x, Hid (x = grownCap w1.drew (str (f.data.take f.kept) ++ str (f.data.drop f.kept)).size 0 5) := ⟨_, rfl⟩
    obtain ⟨ps, HPS⟩ : ∃ x, Hid (x = (str (f.data.take f.kept) ++ str (f.data.drop f.kept)).size) := ⟨_, rfl⟩
    rw [← HV.out, ← HPC.out, ← HPS.out] at hcb
    have HFIN : Hid (ps = f.data.length ∧ Bys V (some ⟨w1.heap.size, 0, none⟩) f.data.length f.data ∧ Below w1.heap.size w1 V) := by
      rw [HPS.out, HV.out, HAB.out]
      exact ⟨str_size _, bys_conv w1.drew f.data, ((Below.refl _ w1).drew).trans (below_conv w1.drew f.data)⟩
    generalize str (f.data.take f.kept) = A at *
    generalize str (f.data.drop f.kept) = B at *
    clear e hf
    go_wp2_with fail
    go_region
    go_wp2
    go_ret2
    obtain ⟨q1, q2, q3⟩ := HFIN.out
    refine ⟨some ⟨w1.heap.size, 0, none⟩, pc, ?_, ?_, HB1.out.trans (q3.mono HB1.out.size)⟩
    · rw [HE.out, ← q1]; rfl
    · rw [HE.out]; exact q2
end
end Go.Proofs.Ytedpiikdlpehjaa.Dsk
