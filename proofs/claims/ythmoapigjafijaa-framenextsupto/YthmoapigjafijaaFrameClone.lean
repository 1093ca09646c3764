/- bytes.Clone. -/
import Derived.Test.YthmoapigjafijaaFrameBy
import Derived.Lib.SliceRun
namespace Go.Proofs.Ythmoapigjafijaa.Frm
open Go.RowKit Crc
set_option linter.unusedSimpArgs false
set_option linter.unusedVariables false

/-- a row of bytes that is nobody else's -/
def Fresh (B : Nat) (w : World) (v : Value) (l : List UInt8) : Prop := ∃ g cap cur, v = .slice (some ⟨g, 0, none⟩) l.length cap ∧ B ≤ g ∧ Row w g 5 cur ∧ cur.take l.length = byC l ∧ l.length ≤ cap ∧ cap ≤ maxLen

theorem clone_any (b off len cap : Nat) (l : List UInt8) (w : World) (hl : Bys w (some ⟨b, off, none⟩) len l) (hm : len ≤ 262144) :
    Calls Try.prog 27 #[.slice (some ⟨b, off, none⟩) len cap] w fun e w' => ∃ v, e = .returned v ∧ Fresh w.heap.size w' v l ∧ Below w.heap.size w w' := by
  have HZ : Hid (Bys w (some ⟨b, off, none⟩) len l) := hl
  have HLn : Hid (len = l.length) := hl.1
  clear hl
  obtain ⟨i0, hi, hz0, hz1, hz2⟩ := info_parts infoByte
  have HC : Hid (∀ j u, (byC l)[j]? = some u → (w.alloc (.cells #[] 5)).cell? ((⟨b, off, none⟩ : Addr).add j) = some u) := by
    intro j u hu
    have hj : j < l.length := by
      have := (List.getElem?_eq_some_iff.1 hu).1
      rwa [byC_len] at this
    obtain ⟨b', off', ha, hb, hc⟩ := HZ.out.2 (by have := HLn.out; omega)
    cases ha
    rw [byC_at l j hj] at hu
    rw [Addr.add_mid, ((Below.refl _ w).alloc (Nat.le_refl _) _).cell (p := ⟨b, off + j, none⟩) hb, hc j (by rw [HLn.out]; exact hj), hu]
  have HO : Hid ((w.alloc (.cells #[] 5)).ownsRow w.heap.size 5 1 (.slice (some ⟨w.heap.size, 0, none⟩) 0 0) 0 []) := by
    refine ⟨rfl, .inr ⟨w.heap.size, 0, #[], rfl, Nat.le_refl _, heap_alloc_last w _, Nat.le_refl _, Nat.zero_le _, rfl, rfl⟩⟩
  have hnil := Lib.run_eql_slice_nil (P := Try.prog) w 22 5 (some ⟨b, off, none⟩) len cap 0 0 Try.underlying22
  go_enter Try.func27, Try.ntmps27
  go_wp2_with (at_builtin; refine wpList_append_own _ rfl _ _ 22 rfl w.heap.size 5 i0 (.int .u8 0) 1 1 Try.underlying22 hi hz0 hz1 hz2 rfl (by decide) _ _ _ rfl HO.out ⟨b, off, none⟩ len cap (byC l) rfl (by rw [byC_len, Nat.mul_one]; exact HLn.out.symm) HC.out (byC_one _) ?_ ?_ ?_ ?_)
  · unfold maxLen; omega
  · omega
  · simp
  intro v' w1 hown hgrow _
  have HB : Hid (Below w.heap.size w w1) := ((Below.refl _ w).alloc (Nat.le_refl _) _).grown hgrow (by simp) (fun k hk => by simp [Value.ownBlock] at hk; omega)
  have HF : Hid (Fresh w.heap.size w1 v' l) := by
    obtain ⟨_, hown⟩ := hown
    rcases hown with ⟨hv, h0⟩ | ⟨g, cap', cur, hv, hgB, hblk, hcl, hcm, hcs, hct⟩
    · simp_all
    · refine ⟨g, cap', cur.toList, by rw [hv, HLn.out], hgB, by unfold Row; simpa using hblk, by rw [← HLn.out, ← hct, Nat.mul_one], by rw [← HLn.out]; exact hcl, hcm⟩
  clear hown hgrow
  go_wp2
  go_ret
  exact ⟨v', rfl, HF.out, HB.out⟩

end Go.Proofs.Ythmoapigjafijaa.Frm
