/- The document's disk: List. -/
import Derived.Test.YtedpiikdlpehjaaDiskRg2
namespace Go.Proofs.Ytedpiikdlpehjaa.Dsk
open Go Go.RowKit Go.Maps
set_option linter.unusedSimpArgs false
set_option linter.unusedVariables false

theorem infoStr : (Try.prog.info? 9).map (fun i => (i.zero, i.size, i.bytes)) = some (some (.string ⟨#[]⟩), 1, 16) := by kernel_rfl
section
variable {w : World} {X : Nat → Prop} {rb : Nat} {m : M} {fv nv kv av : Value}
set_option maxRecDepth 100000 in
set_option maxHeartbeats 2000000 in
theorem RIn.list (h : RIn w X rb m fv nv kv av) (hW : Wf m) : Calls Try.prog 14 #[.pointer (some ⟨rb, 0, none⟩)] w fun e w' => ∃ v, e = .returned v ∧ Texts w' w.heap.size v m.list ∧ Below w.heap.size w w' := by
  have H : Hid (RIn w X rb m fv nv kv av) := h
  obtain ⟨na, nc, hnv⟩ := h.names.form
  subst hnv
  obtain ⟨i0, hi0, hz0, hz1, hz2⟩ := info_parts infoStr
  obtain ⟨nl, HN⟩ : ∃ x, Hid (x = m.names.length) := ⟨_, rfl⟩
  have hnl : nl ≤ 64 := by
    have q := hW.few m.since.length
    rw [List.take_length, ← hW.names] at q
    rw [HN.out]
    exact q
  have c2 : w.cell? ⟨rb, 2, none⟩ = some (.slice na nl nc) := by rw [HN.out]; exact h.row.cell 2
  have c6 : w.cell? ⟨rb, 6, none⟩ = some (.bool (!m.on)) := h.row.cell 6
  have HRL : Hid (rb < w.heap.size) := h.row.lt
  obtain ⟨U, HU⟩ : ∃ U, Hid (U = m.list) := ⟨_, rfl⟩
  rw [← HU.out]
  clear h
  go_enter Try.func14, Try.ntmps14
  go_wp2_with fail
  by_cases ho : m.on = true
  · rw [ho] at c6
    have HUU : Hid (U = m.names.map (·.1)) := by rw [HU.out]; unfold M.list; rw [if_pos ho]; rfl
    go_loopw [3, 4] (fun s i wr => ∃ j : Nat, j ≤ nl ∧ i = .int .i64 j ∧ Texts wr w.heap.size s ((m.names.map (·.1)).take j) ∧ Below w.heap.size w wr) (fun _ i _ => nl - (intOf i).toNat)
    case atStart => exact ⟨0, Nat.zero_le _, rfl, Texts.nil _ _, Below.refl _ _⟩
    case round =>
      obtain ⟨j, hj, rfl, hT, hB⟩ := hrel
      have HB : Hid (Below w.heap.size w wr) := hB
      have HT : Hid (Texts wr w.heap.size u3 ((m.names.map (·.1)).take j)) := hT
      have d2 : wr.cell? ⟨rb, 2, none⟩ = some (.slice na nl nc) := (hB.cell (p := ⟨rb, 2, none⟩) HRL.out).trans c2
      have d6 : wr.cell? ⟨rb, 6, none⟩ = some (.bool (!true)) := (hB.cell (p := ⟨rb, 6, none⟩) HRL.out).trans c6
      by_cases hlt : j < nl
      · obtain ⟨p, hp⟩ : ∃ p, m.names[j]? = some p := ⟨_, List.getElem?_eq_getElem (by rw [← HN.out]; exact hlt)⟩
        obtain ⟨b, off, rfl, hbl, x0, x1⟩ := H.out.names.entry hp
        rw [← hB.cell (p := ⟨b, off + j * 2, none⟩) hbl] at x0
        have HLJ : Hid (((m.names.map (·.1)).take j).length = j) := by
          have q : ((m.names.map (·.1)).take j).length = j := by rw [List.length_take, List.length_map, ← HN.out]; omega
          exact q
        have HTK : Hid ((m.names.map (·.1)).take (j + 1) = (m.names.map (·.1)).take j ++ [p.1]) := by
          have q : (m.names.map (·.1)).take (j + 1) = (m.names.map (·.1)).take j ++ [p.1] := by
            rw [List.take_add_one, List.getElem?_map, hp]
            rfl
          exact q
        have HOW : Hid (wr.ownsRow w.heap.size 9 1 u3 j (((m.names.map (·.1)).take j).map fun n => .string (str n))) := by
          have q := HT.out
          unfold Texts at q
          rw [HLJ.out] at q
          exact q
        obtain ⟨xs, HXS⟩ : ∃ xs, Hid (xs = ((m.names.map (·.1)).take j).map fun n => Value.string (str n)) := ⟨_, rfl⟩
        rw [← HXS.out] at HOW
        have hsz := HB.out.size
        clear hp hB hT c2 c6 x1
        go_wp2_with (at_builtin; refine wpList_append_own_at _ rfl _ _ 45 rfl w.heap.size 9 i0 (.string ⟨#[]⟩) 1 16 Try.underlying45 hi0 hz0 hz1 hz2 rfl (by decide) u3 j xs rfl (HOW.out.alloc _) ⟨wr.heap.size, 0, none⟩ 1 1 [.string (str p.1)] rfl rfl (cell1 _ _ _) (by intro u hu; rw [List.mem_singleton.1 hu]; rfl) ?_ ?_ ?_ ?_)
        · unfold maxLen; omega
        · omega
        · first | omega | (simp; omega)
        intro v' w5 hown' hgrow _ _
        have HB5 : Hid (Below w.heap.size w w5) := (HB.out.alloc hsz _).grown hgrow (by simp; omega) (fun j hj => own_block' HOW.out j hj)
        have HT5 : Hid (Texts w5 w.heap.size v' ((m.names.map (·.1)).take (j + 1))) := by
          unfold Hid Texts
          rw [HTK.out, List.length_append, HLJ.out, List.map_append, ← HXS.out]
          exact hown'
        clear hown' hgrow
        go_wp2
        go_roundw
        case rel => exact ⟨j + 1, by omega, by go_num, HT5.out, HB5.out⟩
        case measure => simp [intOf]; omega
      · have HTA : Hid ((m.names.map (·.1)).take j = m.names.map (·.1)) := List.take_of_length_le (by rw [List.length_map, ← HN.out]; omega)
        rw [HTA.out] at HT
        go_wp2
        go_ret
        exact ⟨u3, rfl, by rw [HUU.out]; exact HT.out, HB.out⟩
  · have hof : m.on = false := by simpa using ho
    rw [hof] at c6
    have HUU : Hid (U = []) := by rw [HU.out]; unfold M.list; rw [if_neg ho]; rfl
    go_loopw [3, 4] (fun s i wr => i = .int .i64 0 ∧ s = .slice none 0 0 ∧ w = wr) (fun _ _ _ => 0)
    case atStart => exact ⟨rfl, rfl, rfl⟩
    case round =>
      obtain ⟨rfl, rfl, rfl⟩ := hrel
      by_cases hn0 : 0 < nl
      · go_wp2
        go_ret
        exact ⟨_, rfl, by rw [HUU.out]; exact Texts.nil _ _, Below.refl _ _⟩
      · go_wp2
        go_ret
        exact ⟨_, rfl, by rw [HUU.out]; exact Texts.nil _ _, Below.refl _ _⟩
end
end Go.Proofs.Ytedpiikdlpehjaa.Dsk
