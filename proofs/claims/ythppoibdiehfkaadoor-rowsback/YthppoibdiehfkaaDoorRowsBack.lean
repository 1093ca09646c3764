/- The walk of RowsBack. -/
import Derived.Test.YthppoibdiehfkaaDoorRowsPlain4
namespace Go.Proofs.YthppoibdiehfkaaDoor.Rws
open Utf
open Go.RowKit
set_option linter.unusedSimpArgs false
set_option linter.unusedVariables false
set_option maxRecDepth 100000

/-- what was refused -/
theorem out_bad (l : List UInt8) (h : ¬ (l.length ≤ 65536 ∧ okay (lns l) = true)) : outR l = [] ∧ ((outF l).1 == 0 && (outF l).2 == 0) = false := by
  by_cases hl : l.length ≤ 65536
  · have ho : okay (lns l) = false := by cases hq : okay (lns l) with | false => rfl | true => exact absurd ⟨hl, hq⟩ h
    have := outR_no hl ho
    exact ⟨this.1, this.2.2⟩
  · refine ⟨?_, ?_⟩
    · unfold outR; rw [if_neg hl]
    · unfold outF; rw [if_neg hl]; rfl

/-- rows that were read and written are read as they were -/
theorem out_back (l : List UInt8) (hl : l.length ≤ 65536) (ho : okay (lns l) = true) :
    (wrt (outR l)).length ≤ 140737488355328 ∧ ((wrt (outR l)).length ≤ 65536 → outR (wrt (outR l)) = outR l ∧ outF (wrt (outR l)) = (0, 0)) := by
  have hb : ∀ x ∈ lns l, x.length ≤ 65536 := fun x hx => Nat.le_trans (lns_mem_len _ l (Nat.le_refl _) x hx) hl
  have hn : (lns l).length ≤ 65536 := Nat.le_trans (lns_len _ l (Nat.le_refl _)) hl
  obtain ⟨r1, _⟩ := outR_ok hl ho
  have e1 : wrt (outR l) = txt (lns l) := by rw [r1]; exact wrt_num _ 1 hb
  have e2 := txt_len (lns l) hb
  have e3 : lns (txt (lns l)) = (lns l).map lin := lns_txt _ ho (lns_no10 _ l (Nat.le_refl _))
  have e4 := okay_lin _ ho
  rw [e1]
  refine ⟨?_, fun h => ?_⟩
  · have : (lns l).length * 65537 ≤ 65536 * 65537 := Nat.mul_le_mul_right _ hn
    omega
  · have ho2 : okay (lns (txt (lns l))) = true := by rw [e3]; exact e4
    obtain ⟨q1, q2⟩ := outR_ok h ho2
    refine ⟨?_, q2⟩
    rw [q1, e3, r1]
    exact num_lin _ 1 (fun x hx => Nat.le_trans (hb x hx) (by omega))

set_option maxHeartbeats 2000000 in
theorem back_any (s : ByteArray) (w : World) (hs : s.size ≤ 140737488351232) : Calls Tryd.prog 6 #[.string s] w fun e w' => e = .returned (.bool true) ∧ Below w.heap.size w w' := by
  obtain ⟨l, rfl⟩ := mk_ex s
  have lA : (outR l).length ≤ 65536 := outR_len _
  go_enter Tryd.func6, Tryd.ntmps6
  go_wp2_with fail
  refine (readO_any l _).mono ?_
  rintro e w1 ⟨aA, cA, rfl, atA, capA, capA', hb1⟩
  obtain ⟨f1, hf1⟩ : ∃ f1, Hid (f1 = (outF l).1) := ⟨_, rfl⟩
  obtain ⟨f2, hf2⟩ : ∃ f2, Hid (f2 = (outF l).2) := ⟨_, rfl⟩
  rw [← hf1.out, ← hf2.out]
  have s1 := hb1.size
  by_cases hok : l.length ≤ 65536 ∧ okay (lns l) = true
  · obtain ⟨hl, ho⟩ := hok
    have hf : (f1 == 0 && f2 == 0) = true := by rw [hf1.out, hf2.out, (outR_ok hl ho).2]; rfl
    have hfe := neq_fault f1 0 f2 0
    rw [hf] at hfe
    obtain ⟨k1, k2⟩ := out_back l hl ho
    have K2 : Hid ((wrt (outR l)).length ≤ 65536 → outR (wrt (outR l)) = outR l ∧ outF (wrt (outR l)) = (0, 0)) := k2
    obtain ⟨T, HT⟩ : ∃ T, Hid (T = wrt (outR l)) := ⟨_, rfl⟩
    clear k2 hf
    go_wp2_with fail
    refine (write_any aA _ cA (outR l) _ (atA.later ((Below.refl w1.heap.size w1).alloc (Nat.le_refl _) _) (Nat.le_refl _)) (by omega) k1).mono ?_
    rintro e w2 ⟨rfl, hb2⟩
    rw [← HT.out] at k1 K2 ⊢
    have s2 := hb2.size
    rw [World.size_alloc] at s2 hb2
    have htz := mk_size T
    go_wp2_with fail
    refine (readO_any T _).mono ?_
    rintro e w3 ⟨aB, cB, rfl, atB, capB, capB', hb3⟩
    obtain ⟨g1, hg1⟩ : ∃ g1, Hid (g1 = (outF T).1) := ⟨_, rfl⟩
    obtain ⟨g2, hg2⟩ : ∃ g2, Hid (g2 = (outF T).2) := ⟨_, rfl⟩
    rw [← hg1.out, ← hg2.out]
    have s3 := hb3.size
    have b13 : Below w1.heap.size w1 w3 := ((Below.refl w1.heap.size w1).alloc (Nat.le_refl _) _).trans ((hb2.mono (by omega)).trans (hb3.mono (by omega)))
    by_cases hT : T.length ≤ 65536
    · obtain ⟨q1, q2⟩ := K2.out hT
      have hg : (g1 == 0 && g2 == 0) = true := by rw [hg1.out, hg2.out, q2]; rfl
      have hge := neq_fault g1 0 g2 0
      rw [hg] at hge
      rw [q1] at atB ⊢
      clear hg q1 q2
      go_wp2_with fail
      refine (rsame_any _ _ _ _ _ _ (outR l) (outR l) _ (atA.later (b13.alloc (by omega) _) (Nat.le_refl _)) (atB.later ((Below.refl w3.heap.size w3).alloc (Nat.le_refl _) _) (Nat.le_refl _)) (by omega) (by omega)).mono ?_
      rintro e w4 ⟨rfl, hb4⟩
      rw [same_self]
      have s4 := hb4.size
      rw [World.size_alloc] at s4 hb4
      go_wp2_with fail
      refine (alive_any _).mono ?_
      rintro e w5 ⟨rfl, hb5⟩
      go_wp2
      go_ret
      refine ⟨rfl, ?_⟩
      exact hb1.trans ((b13.mono s1).trans ((((Below.refl w3.heap.size w3).alloc (Nat.le_refl _) _).mono (by omega)).trans ((hb4.mono (by omega)).trans (hb5.mono (by omega)))))
    · have hbad := out_bad T (fun h => hT h.1)
      rw [← hg1.out, ← hg2.out] at hbad
      have hge := neq_fault g1 0 g2 0
      rw [hbad.2] at hge
      have hT' : (65536 : Int) < (T.length : Int) := by omega
      clear hbad
      go_wp2_with fail
      refine (alive_any _).mono ?_
      rintro e w5 ⟨rfl, hb5⟩
      have s5 := hb5.size
      rw [World.size_alloc] at s5 hb5
      go_wp2
      go_ret
      refine ⟨rfl, ?_⟩
      exact hb1.trans ((b13.mono s1).trans ((((Below.refl w3.heap.size w3).alloc (Nat.le_refl _) _).mono (by omega)).trans (hb5.mono (by omega))))
  · obtain ⟨r1, r2⟩ := out_bad l hok
    rw [← hf1.out, ← hf2.out] at r2
    have hfe := neq_fault f1 0 f2 0
    rw [r2] at hfe
    have hz : (outR l).length = 0 := by rw [r1]; rfl
    clear r1 r2
    go_wp2_with fail
    refine (alive_any _).mono ?_
    rintro e w5 ⟨rfl, hb5⟩
    have s5 := hb5.size
    rw [World.size_alloc] at s5 hb5
    go_wp2
    go_ret
    refine ⟨rfl, ?_⟩
    exact hb1.trans ((((Below.refl w1.heap.size w1).alloc (Nat.le_refl _) _).mono s1).trans (hb5.mono (by omega)))

end Go.Proofs.YthppoibdiehfkaaDoor.Rws
