/- Several texts as one: GraphRtxt. -/
import Derived.Test.YtaphijgbebhdlaaGreatDoorV09FlowAllow
import Derived.Test.YtaphijgbebhdlaaGreatDoorV29PlainRef3
import Derived.Test.YtaphijgbebhdlaaGreatDoorV34UtfRefG
section
/- The document's scalar and text, of layer 12. -/
namespace Go.Proofs.YtaphijgbebhdlaaGreatDoor.Flw
open Utf Rws Pln
open Go.RowKit
set_option linter.unusedSimpArgs false
set_option linter.unusedVariables false
set_option maxRecDepth 100000
set_option maxHeartbeats 2000000

theorem rscal12_any (k : Int) (w : World) : Calls Tryz.prog 74 #[.int .i64 k] w fun e w' => e = .returned (.bool (decide (1 ≤ k) && decide (k ≤ 4))) ∧ w = w' := by
  by_cases h1 : 1 ≤ k
  · by_cases h4 : k ≤ 4
    · go_enter Tryz.func74, Tryz.ntmps74
      go_wp2
      go_ret
      exact ⟨by simp [h1, h4], rfl⟩
    · have h4' : 4 < k := by omega
      go_enter Tryz.func74, Tryz.ntmps74
      go_wp2
      go_ret
      exact ⟨by simp [h4], rfl⟩
  · have h1' : k < 1 := by omega
    go_enter Tryz.func74, Tryz.ntmps74
    go_wp2
    go_ret
    exact ⟨by rw [decide_eq_false (show ¬ (1 ≤ k) by omega)]; rfl, rfl⟩
theorem rtext12_any (k : Int) (l : Ln) (w : World) (hl : l.length ≤ 65536) : Calls Tryz.prog 73 #[.int .i64 k, .string (mk l)] w fun e w' => e = .returned (.bool (txt k l)) ∧ Below w.heap.size w w' := by
  by_cases h2 : k = 2
  · subst h2
    have HV : Hid (txt 2 l = (l == [116, 114, 117, 101] || l == [102, 97, 108, 115, 101])) := rfl
    have e1 : ((mk l).toList == [116, 114, 117, 101]) = (l == [116, 114, 117, 101]) := by rw [ByteArray.toList_eq, mk_data]
    have e2 : ((mk l).toList == [102, 97, 108, 115, 101]) = (l == [102, 97, 108, 115, 101]) := by rw [ByteArray.toList_eq, mk_data]
    cases c1 : (l == [116, 114, 117, 101]) <;> cases c2 : (l == [102, 97, 108, 115, 101]) <;> rw [c1] at e1 <;> rw [c2] at e2 <;> rw [c1, c2] at HV <;> clear c1 c2 <;>
    · go_enter Tryz.func73, Tryz.ntmps73
      go_wp2
      go_ret
      exact ⟨by rw [HV.out]; rfl, Below.refl _ _⟩
  by_cases h3 : k = 3
  · subst h3
    have HV : Hid (txt 3 l = decide (knd l = 3)) := rfl
    have HR : Hid (Calls Tryz.prog 91 #[.string (mk l)] w fun e w' => e = .returned (.int .i64 (knd l)) ∧ Hid (Below w.heap.size w w')) := rresolve_any l w (by omega)
    generalize knd l = kx at *
    go_enter Tryz.func73, Tryz.ntmps73
    go_wp2_with fail
    refine HR.out.mono ?_
    rintro e w1 ⟨rfl, H1⟩
    go_wp2
    go_ret
    refine ⟨?_, H1.out⟩
    rw [HV.out]
    by_cases h : kx = 3 <;> simp [h]
  by_cases h4 : k = 4
  · subst h4
    have HV : Hid (txt 4 l = (dec l).2.isNone) := rfl
    have HD : Hid (Calls Tryz.prog 92 #[.string (mk l)] w fun e w' => ∃ a n cap z, e = .returned (.tuple #[.slice a n cap, .agg #[.int .i64 (if (dec l).2.isNone then 0 else 8), .int .i64 z]]) ∧ Hid (Below w.heap.size w w')) := by
      cases hd : (dec l).2 with
      | none => exact (Quo.rdec_yes l w (by omega) _ rfl hd).mono (fun e w' g => by obtain ⟨a, cap, e1, _, hb⟩ := g; exact ⟨a, _, cap, 0, e1, hb⟩)
      | some p => exact (Quo.rdec_no l w (by omega) hd).mono (fun e w' g => by
          rcases g with ⟨e1, hb⟩ | ⟨a, cap, e1, hb⟩
          · exact ⟨none, 0, 0, _, e1, hb⟩
          · exact ⟨a, 0, cap, _, e1, hb⟩)
    generalize (dec l).2.isNone = q at *
    clear hl
    cases q
    · go_enter Tryz.func73, Tryz.ntmps73
      go_wp2_with fail
      refine HD.out.mono ?_
      rintro e w1 ⟨a, n, cap, z, rfl, H1⟩
      have HB : Hid (∀ o, Below w.heap.size w (w1.alloc o)) := fun o => H1.out.alloc H1.out.size o
      go_wp2
      go_ret
      exact ⟨by rw [HV.out]; rfl, HB.out _⟩
    · go_enter Tryz.func73, Tryz.ntmps73
      go_wp2_with fail
      refine HD.out.mono ?_
      rintro e w1 ⟨a, n, cap, z, rfl, H1⟩
      have HB : Hid (∀ o, Below w.heap.size w (w1.alloc o)) := fun o => H1.out.alloc H1.out.size o
      go_wp2
      go_ret
      exact ⟨by rw [HV.out]; rfl, HB.out _⟩
  · have HV : Hid (txt k l = (l == [])) := by unfold txt; rw [if_neg h2, if_neg h3, if_neg h4]; exact rfl
    have e1 : ((mk l).toList == []) = (l == []) := by rw [ByteArray.toList_eq, mk_data]
    have e2 : (mk l).toList.isEmpty = (l == []) := by rw [ByteArray.toList_eq, mk_data]; cases l <;> rfl
    have g2 : (k == 2) = false := by simpa using h2
    have g3 : (k == 3) = false := by simpa using h3
    have g4 : (k == 4) = false := by simpa using h4
    clear h2 h3 h4 hl
    cases c : (l == []) <;> rw [c] at e1 e2 HV <;> clear c <;>
    · go_enter Tryz.func73, Tryz.ntmps73
      go_wp2
      go_ret
      exact ⟨by rw [HV.out]; rfl, Below.refl _ _⟩
end Go.Proofs.YtaphijgbebhdlaaGreatDoor.Flw
end
