/- The same texts. -/
import Derived.Test.YtedpiikdlpehjaaDiskMine
import Derived.BigRegion
namespace Go.Proofs.Ytedpiikdlpehjaa.Dsk
open Go Go.RowKit Go.Maps
set_option linter.unusedSimpArgs false
set_option linter.unusedVariables false

theorem Texts.len_le {w : World} {B : Nat} {v : Value} {l : List Nm} (h : Texts w B v l) : l.length ≤ maxLen := by
  rcases h.2 with ⟨_, q⟩ | ⟨g, cap, cur, q, h0, hb, h1, h2, h3, h4⟩
  · rw [q]; exact Nat.zero_le _
  · omega
theorem texts_same {w : World} {B B' : Nat} {v v' : Value} {l : List Nm} (h : Texts w B v l) (h' : Texts w B' v' l) : Calls Try.prog 12 #[v, v'] w fun e w' => e = .returned (.bool true) ∧ Below w.heap.size w w' := by
  have hl := h.len_le
  have hm : maxLen = 9223372036854775807 := rfl
  obtain ⟨a, cap, rfl⟩ := h.form
  obtain ⟨a', cap', rfl⟩ := h'.form
  have H : Hid (Texts w B (.slice a l.length cap) l) := h
  have H' : Hid (Texts w B' (.slice a' l.length cap') l) := h'
  obtain ⟨n, hn⟩ : ∃ n, n = l.length := ⟨_, rfl⟩
  rw [← hn] at H H' hl ⊢
  have HN : Hid (n = l.length) := hn
  clear h h' hn
  go_enter Try.func12, Try.ntmps12
  go_wp2_with fail
  go_loopw [5] (fun i wr => ∃ j : Nat, j ≤ n ∧ i = .int .i64 j ∧ Below w.heap.size w wr) (fun i _ => n - (intOf i).toNat)
  case atStart => exact ⟨0, Nat.zero_le _, rfl, Below.refl _ _⟩
  case round =>
    obtain ⟨j, hj, rfl, hB⟩ := hrel
    have HB : Hid (Below w.heap.size w wr) := hB
    clear hB
    by_cases hlt : j < n
    · have hk : l[j]? = some (l[j]'(by have := HN.out; omega)) := List.getElem?_eq_getElem (by have := HN.out; omega)
      obtain ⟨g, c1, e1, _, hg, hc, _, _⟩ := H.out.cell hk
      obtain ⟨g', c2, e2, _, hg', hc', _, _⟩ := H'.out.cell hk
      obtain rfl : a = some ⟨g, 0, none⟩ := by injection e1
      obtain rfl : a' = some ⟨g', 0, none⟩ := by injection e2
      rw [← HB.out.cell (p := ⟨g, j, none⟩) hg] at hc
      rw [← HB.out.cell (p := ⟨g', j, none⟩) hg'] at hc'
      clear e1 e2
      generalize str (l[j]'(by have := HN.out; omega)) = S at *
      have hq : (S.toList == S.toList) = true := beq_self_eq_true _
      clear hk
      go_wp2_with fail
      go_region
      go_wp2
      go_roundw
      case rel => exact ⟨j + 1, by omega, by go_num, HB.out.drew⟩
      case measure => simp [intOf]; omega
    · go_wp2
      go_ret
      exact ⟨rfl, HB.out⟩
end Go.Proofs.Ytedpiikdlpehjaa.Dsk
