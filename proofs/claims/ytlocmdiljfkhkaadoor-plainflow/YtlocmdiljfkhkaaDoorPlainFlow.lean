/- grommetlaw06.PlainFlow, by the contracts of what it calls. -/
import Derived.Test.YtlocmdiljfkhkaaDoorPlainAlive
import Derived.Test.YtlocmdiljfkhkaaDoorPlainRef
namespace Go.Proofs.YtlocmdiljfkhkaaDoor.Pln
open Utf Rws
open Go.RowKit
set_option linter.unusedSimpArgs false
set_option linter.unusedVariables false
set_option maxRecDepth 100000

theorem some5_snoc (l : List UInt8) (n : Nat) (h : n < l.length) : some5 (l.take (n + 1)) = (some5 (l.take n) || fl (l.getD n 0)) := by
  unfold some5
  rw [List.take_succ_eq_append_getElem h, List.any_append, List.getD_eq_getElem?_getD, List.getElem?_eq_getElem h]; simp

theorem flow_any (s : ByteArray) (w : World) (hs : s.size ≤ 140737488351232) (hT : Tabs w) : Calls Tryd.prog 9 #[.string s] w fun e w' => e = .returned (.bool true) ∧ Below w.heap.size w w' := by
  obtain ⟨l, rfl⟩ := mk_ex s
  rw [mk_size] at hs
  have hsz := mk_size l
  have HI : Hid (∀ f w, Calls Tryd.prog 10 #[.string (mk l), .bool f] w fun e w' => e = .returned (.bool (isP l f)) ∧ Below w.heap.size w w') := fun f w => is_any l f w hs
  have HE : Hid (isP l true = (isP l false && !some5 l)) := isP_some l
  go_enter Tryd.func9, Tryd.ntmps9
  go_wp2
  go_loop [3, 4] (fun b i => ∃ n : Nat, n ≤ l.length ∧ i = .int .i64 n ∧ b = .bool (some5 (l.take n))) (fun _ i => l.length - (intOf i).toNat)
  case atStart => exact ⟨0, Nat.zero_le _, rfl, rfl⟩
  case round =>
    obtain ⟨n, hn1, rfl, rfl⟩ := hrel
    by_cases hlt : n < l.length
    · have hg : ∀ h, (mk l)[n]'h = l.getD n 0 := fun h => mk_getD l n h
      have hlt' : n < (mk l).size := by rw [mk_size]; exact hlt
      have HSN : Hid (some5 (l.take (n + 1)) = (some5 (l.take n) || fl (l.getD n 0))) := some5_snoc l n hlt
      generalize l.getD n 0 = b at hg HSN
      generalize some5 (l.take n) = V at HSN ⊢
      cases V
      · go_wp2_with (first | (go_at_call 21; refine (rhas_fl _ _).mono ?_; rintro e w' ⟨rfl, rfl⟩))
        go_round
        case rel => exact ⟨n + 1, by omega, by go_num, by rw [HSN.out]; rfl⟩
        case measure => simp [intOf]; omega
      · go_wp2
        go_round
        case rel => exact ⟨n + 1, by omega, by go_num, by rw [HSN.out]; rfl⟩
        case measure => simp [intOf]; omega
    · have e : l.take n = l := List.take_of_length_le (by omega)
      rw [e]
      obtain ⟨V, HV⟩ : ∃ V, Hid (some5 l = V) := ⟨some5 l, rfl⟩
      obtain ⟨P, HP⟩ : ∃ P, Hid (isP l false = P) := ⟨isP l false, rfl⟩
      have HI0 : Hid (∀ w, Calls Tryd.prog 10 #[.string (mk l), .bool false] w fun e w' => e = .returned (.bool P) ∧ Below w.heap.size w w') := by rw [← HP.out]; exact HI.out false
      have HI1 : Hid (∀ w, Calls Tryd.prog 10 #[.string (mk l), .bool true] w fun e w' => e = .returned (.bool (P && !V)) ∧ Below w.heap.size w w') := by rw [← HP.out, ← HV.out, ← HE.out]; exact HI.out true
      rw [HV.out]
      clear e HI HE HV HP
      cases P
      · go_wp2_with fail
        refine (HI1.out _).mono ?_
        rintro e w1 ⟨rfl, hb1⟩
        go_wp2_with fail
        refine (HI0.out _).mono ?_
        rintro e w2 ⟨rfl, hb2⟩
        have b2 := hb1.trans (hb2.mono hb1.size)
        go_wp2_with fail
        refine (alive_any _ (hT.later b2)).mono ?_
        rintro e w3 ⟨rfl, hb3⟩
        go_wp2
        go_ret
        exact ⟨rfl, b2.trans (hb3.mono b2.size)⟩
      · go_wp2_with fail
        refine (HI1.out _).mono ?_
        rintro e w1 ⟨rfl, hb1⟩
        go_wp2_with fail
        refine (HI0.out _).mono ?_
        rintro e w2 ⟨rfl, hb2⟩
        have b2 := hb1.trans (hb2.mono hb1.size)
        go_wp2_with fail
        refine (alive_any _ (hT.later b2)).mono ?_
        rintro e w3 ⟨rfl, hb3⟩
        go_wp2
        go_ret
        exact ⟨rfl, b2.trans (hb3.mono b2.size)⟩

end Go.Proofs.YtlocmdiljfkhkaaDoor.Pln
