/- The document's disk: Used. -/
import Derived.Test.YtedpiikdlpehjaaDiskRg1
import Derived.BigRegion
namespace Go.Proofs.Ytedpiikdlpehjaa.Dsk
open Go Go.RowKit Go.Maps
set_option linter.unusedSimpArgs false
set_option linter.unusedVariables false

theorem total_take (fs : List Fl) (t : Tbl) (j : Nat) (p : Nm × Nat) (h : t[j]? = some p) : total fs (t.take (j + 1)) = total fs (t.take j) + (fs.getD p.2 nul).data.length := by
  unfold total
  rw [List.take_add_one, h]
  simp
theorem total_few {m : M} (hW : Wf m) (t : Tbl) (ht : t.length ≤ 64) (hl : ∀ p ∈ t, p.2 < m.files.length) : total m.files t ≤ 1099511627776 := by
  have h1 : ∀ t : Tbl, (∀ p ∈ t, p.2 < m.files.length) → total m.files t ≤ t.length * 1048576 := by
    intro t
    induction t with
    | nil => intro _; exact Nat.zero_le _
    | cons p t ih =>
      intro h
      have q := hW.files p.2 (h p (List.mem_cons_self ..))
      have q2 := hW.room
      have q3 := ih fun p hp => h p (List.mem_cons_of_mem _ hp)
      have e : total m.files (p :: t) = (m.files.getD p.2 nul).data.length + total m.files t := by simp [total]
      have q4 : (m.files.getD p.2 nul).data.length ≤ 1048576 := Nat.le_trans q.2 q2
      rw [e, List.length_cons]
      omega
  have := h1 t hl
  omega
section
variable {w : World} {X : Nat → Prop} {rb : Nat} {m : M} {fv nv kv av : Value}
theorem SlC.entry {t : Tbl} {a : Option Addr} {n cap k : Nat} (h : SlC w X 2 (.slice a n cap) k (cellsE t)) {i : Nat} {p : Nm × Nat} (hp : t[i]? = some p) : ∃ b off, a = some ⟨b, off, none⟩ ∧ b < w.heap.size ∧ w.cell? ⟨b, off + i * 2, none⟩ = some (.string (str p.1)) ∧ w.cell? ⟨b, off + i * 2 + 1, none⟩ = some (.int .i64 p.2) := by
  obtain ⟨a', c', q1, q2, q3, q4, q5, q6⟩ := h
  cases q1
  obtain ⟨e0, e1⟩ := cellsE_at t i p hp
  obtain ⟨b, off, ha, _, hlt, c0⟩ := q6 _ _ e0
  obtain ⟨b', off', ha', _, _, c1⟩ := q6 _ _ e1
  rw [ha] at ha'
  cases ha'
  exact ⟨b, off, ha, hlt, c0, c1⟩
set_option maxRecDepth 100000 in
set_option maxHeartbeats 2000000 in
theorem RIn.used (h : RIn w X rb m fv nv kv av) (hW : Wf m) (hc : m.calls ≤ 1000) : Calls Try.prog 16 #[.pointer (some ⟨rb, 0, none⟩)] w fun e w' => e = .returned (.int .i64 m.uses) ∧ Below w.heap.size w w' := by
  have H : Hid (RIn w X rb m fv nv kv av) := h
  obtain ⟨na, nc, hnv⟩ := h.names.form
  obtain ⟨fa, fc, hfv⟩ := h.fils.form
  subst hnv hfv
  have HNL : Hid (m.names.length ≤ 64) := by
    have q := hW.few m.since.length
    rw [List.take_length, ← hW.names] at q
    exact q
  have HFL : Hid (m.files.length ≤ 1000) := by have := hW.filesN; unfold Hid; omega
  obtain ⟨nl, HN⟩ : ∃ x, Hid (x = m.names.length) := ⟨_, rfl⟩
  obtain ⟨fl, HF⟩ : ∃ x, Hid (x = m.files.length) := ⟨_, rfl⟩
  have hnl : nl ≤ 64 := by rw [HN.out]; exact HNL.out
  have hfl : fl ≤ 1000 := by rw [HF.out]; exact HFL.out
  have c1 : w.cell? ⟨rb, 1, none⟩ = some (.slice fa fl fc) := by rw [HF.out]; exact h.row.cell 1
  have c2 : w.cell? ⟨rb, 2, none⟩ = some (.slice na nl nc) := by rw [HN.out]; exact h.row.cell 2
  have c6 : w.cell? ⟨rb, 6, none⟩ = some (.bool (!m.on)) := h.row.cell 6
  have HRL : Hid (rb < w.heap.size) := h.row.lt
  obtain ⟨U, HU⟩ : ∃ U, Hid (U = m.uses) := ⟨_, rfl⟩
  rw [← HU.out]
  clear h
  go_enter Try.func16, Try.ntmps16
  go_wp2_with fail
  by_cases ho : m.on = true
  · rw [ho] at c6
    have HUU : Hid (U = total m.files m.names) := by rw [HU.out]; unfold M.uses; rw [if_pos ho]; rfl
    go_loopw [3, 4] (fun s i wr => ∃ j : Nat, j ≤ nl ∧ i = .int .i64 j ∧ s = .int .i64 (total m.files (m.names.take j) : Nat) ∧ Below w.heap.size w wr) (fun _ i _ => nl - (intOf i).toNat)
    case atStart => exact ⟨0, Nat.zero_le _, rfl, rfl, Below.refl _ _⟩
    case round =>
      obtain ⟨j, hj, rfl, rfl, hB⟩ := hrel
      have HB : Hid (Below w.heap.size w wr) := hB
      have d1 : wr.cell? ⟨rb, 1, none⟩ = some (.slice fa fl fc) := (hB.cell (p := ⟨rb, 1, none⟩) HRL.out).trans c1
      have d2 : wr.cell? ⟨rb, 2, none⟩ = some (.slice na nl nc) := (hB.cell (p := ⟨rb, 2, none⟩) HRL.out).trans c2
      have d6 : wr.cell? ⟨rb, 6, none⟩ = some (.bool (!true)) := (hB.cell (p := ⟨rb, 6, none⟩) HRL.out).trans c6
      have htl : total m.files (m.names.take j) ≤ 1099511627776 := total_few hW _ (by rw [List.length_take]; have := HNL.out; omega) (fun p hp => hW.okN.less p (List.mem_of_mem_take hp))
      by_cases hlt : j < nl
      · obtain ⟨p, hp⟩ : ∃ p, m.names[j]? = some p := ⟨_, List.getElem?_eq_getElem (by rw [← HN.out]; exact hlt)⟩
        have hpl : p.2 < fl := by rw [HF.out]; exact hW.okN.less p (List.mem_of_getElem? hp)
        obtain ⟨f, hf⟩ : ∃ f, m.files[p.2]? = some f := ⟨_, List.getElem?_eq_getElem (by rw [← HF.out]; exact hpl)⟩
        obtain ⟨b, off, rfl, hbl, x0, x1⟩ := H.out.names.entry hp
        obtain ⟨b2, off2, rfl, hbl2, y0, y1⟩ := H.out.fils.file hf
        rw [← hB.cell (p := ⟨b, off + j * 2 + 1, none⟩) hbl] at x1
        rw [← hB.cell (p := ⟨b2, off2 + p.2 * 2, none⟩) hbl2] at y0
        rw [← hB.cell (p := ⟨b2, off2 + p.2 * 2 + 1, none⟩) hbl2] at y1
        have HTT : Hid (total m.files (m.names.take (j + 1)) = total m.files (m.names.take j) + f.data.length) := by
          have q := total_take m.files m.names j p hp
          rw [List.getD_eq_getElem?_getD, hf] at q
          exact q
        have HKD : Hid ((str (f.data.take f.kept)).size + (str (f.data.drop f.kept)).size = f.data.length) := by
          have q : (str (f.data.take f.kept)).size + (str (f.data.drop f.kept)).size = f.data.length := by
            rw [str_size, str_size, ← List.length_append, List.take_append_drop]
          exact q
        have hfd : f.data.length ≤ 1048576 := by
          have q := hW.files p.2 (by rw [← HF.out]; exact hpl)
          have q2 := hW.room
          have q3 : (m.file p.2).data = f.data := by unfold M.file; rw [List.getD_eq_getElem?_getD, hf]; rfl
          rw [q3] at q
          omega
        have hkd := HKD.out
        generalize str (f.data.take f.kept) = A at *
        generalize str (f.data.drop f.kept) = B at *
        generalize f.data.length = dl at *
        generalize p.2 = pi at *
        generalize total m.files (m.names.take j) = tj at *
        clear hp hf hB x0 c1 c2 c6
        have hA1 : A.size ≤ 1048576 := by omega
        have hB1 : B.size ≤ 1048576 := by omega
        obtain ⟨V, HV⟩ : ∃ V, Hid (V = wr.alloc (.cells #[.string ⟨#[]⟩, .string ⟨#[]⟩] 75)) := ⟨_, rfl⟩
        have hVe : wr.alloc (.cells #[.string ⟨#[]⟩, .string ⟨#[]⟩] 75) = V := HV.out.symm
        have hBV : Below wr.heap.size wr V := by rw [HV.out]; exact (Below.refl _ wr).alloc (Nat.le_refl _) _
        have HRV : Hid (Row V wr.heap.size 75 [.string ⟨#[]⟩, .string ⟨#[]⟩]) := by rw [HV.out]; exact Row.mk wr [.string ⟨#[]⟩, .string ⟨#[]⟩] _
        have hrw : rb < wr.heap.size := Nat.lt_of_lt_of_le HRL.out HB.out.size
        have k1 := (hBV.cell (p := ⟨rb, 1, none⟩) hrw).trans d1
        have k2 := (hBV.cell (p := ⟨rb, 2, none⟩) hrw).trans d2
        have k3 := (hBV.cell (p := ⟨b, off + j * 2 + 1, none⟩) (Nat.lt_of_lt_of_le hbl HB.out.size)).trans x1
        have k4 := (hBV.cell (p := ⟨b2, off2 + pi * 2, none⟩) (Nat.lt_of_lt_of_le hbl2 HB.out.size)).trans y0
        have k5 := (hBV.cell (p := ⟨b2, off2 + pi * 2 + 1, none⟩) (Nat.lt_of_lt_of_le hbl2 HB.out.size)).trans y1
        have v0 : V.cell? ⟨wr.heap.size, 0, none⟩ = some (.string ⟨#[]⟩) := HRV.out.cell 0
        have v1 : V.cell? ⟨wr.heap.size, 1, none⟩ = some (.string ⟨#[]⟩) := HRV.out.cell 1
        have z0 := HRV.out.free 0
        have z1 := HRV.out.free 1
        have HRW : Hid (Row (V.drew.setCell ⟨wr.heap.size, 0, none⟩ (.string A)) wr.heap.size 75 [.string A, .string ⟨#[]⟩]) := Row.set (w := V.drew) (HRV.out.at_ rfl) 0 _
        have v1' : (V.drew.setCell ⟨wr.heap.size, 0, none⟩ (.string A)).cell? ⟨wr.heap.size, 1, none⟩ = some (.string ⟨#[]⟩) := HRW.out.cell 1
        have z1' := HRW.out.free 1
        clear hBV
        have HRZ : Hid (Row ((V.setCell ⟨wr.heap.size, 0, none⟩ (.string A)).setCell ⟨wr.heap.size, 1, none⟩ (.string B)).drew wr.heap.size 75 [.string A, .string B]) := Row.at_ (w := (V.setCell ⟨wr.heap.size, 0, none⟩ (.string A)).setCell ⟨wr.heap.size, 1, none⟩ (.string B)) (Row.set (Row.set HRV.out 0 _) 1 _) rfl
        have HBZ : Hid (Below w.heap.size w ((V.setCell ⟨wr.heap.size, 0, none⟩ (.string A)).setCell ⟨wr.heap.size, 1, none⟩ (.string B)).drew) := by
          rw [HV.out]
          exact (((HB.out.alloc HB.out.size _).setCell (p := ⟨wr.heap.size, 0, none⟩) HB.out.size _).setCell (p := ⟨wr.heap.size, 1, none⟩) HB.out.size _).drew
        go_wp2_with fail
        go_region
        generalize ((V.setCell ⟨wr.heap.size, 0, none⟩ (.string A)).setCell ⟨wr.heap.size, 1, none⟩ (.string B)).drew = Z at *
        have q0 : Z.cell? ⟨wr.heap.size, 0, none⟩ = some (.string A) := HRZ.out.cell 0
        have q1 : Z.cell? ⟨wr.heap.size, 1, none⟩ = some (.string B) := HRZ.out.cell 1
        clear k1 k2 k3 k4 k5 v0 v1 z0 z1 v1' z1' d1 d2 d6 x1 y0 y1 hVe
        go_wp2
        go_roundw
        case rel => exact ⟨j + 1, by omega, by go_num, by rw [HTT.out]; congr 1; omega, HBZ.out⟩
        case measure => simp [intOf]; omega
      · have HT : Hid (m.names.take j = m.names) := List.take_of_length_le (by rw [← HN.out]; omega)
        go_wp2
        go_ret
        exact ⟨by rw [HUU.out, HT.out]; rfl, HB.out⟩
  · have hof : m.on = false := by simpa using ho
    rw [hof] at c6
    have HUU : Hid (U = 0) := by rw [HU.out]; unfold M.uses; rw [if_neg ho]; rfl
    go_loopw [3, 4] (fun s i wr => i = .int .i64 0 ∧ s = .int .i64 0 ∧ w = wr) (fun _ _ _ => 0)
    case atStart => exact ⟨rfl, rfl, rfl⟩
    case round =>
      obtain ⟨rfl, rfl, rfl⟩ := hrel
      by_cases hn0 : 0 < nl
      · go_wp2
        go_ret
        exact ⟨by rw [HUU.out]; rfl, Below.refl _ _⟩
      · go_wp2
        go_ret
        exact ⟨by rw [HUU.out]; rfl, Below.refl _ _⟩
end
end Go.Proofs.Ytedpiikdlpehjaa.Dsk
