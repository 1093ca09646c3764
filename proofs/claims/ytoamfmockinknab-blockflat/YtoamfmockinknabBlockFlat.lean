/- The walk of BlockFlat. -/
import Derived.Test.YtoamfmockinknabBlockAlive
import Derived.Test.YtoamfmockinknabBlockMuch
import Derived.Test.YtoamfmockinknabBlockArg
namespace Go.Proofs.Ytoamfmockinknab.Blk
open Go.RowKit
open Rws (mk mk_data mk_size mk_of mk_ext mk_get mk_inj)
set_option linter.unusedSimpArgs false
set_option linter.unusedVariables false
set_option maxRecDepth 100000

set_option maxHeartbeats 2000000 in
theorem flat_walk (a : Option Addr) (len cap : Nat) (xs : List Ln) (w : World) (h : SArg w a len cap xs) :
    Calls Try.prog 3 #[.slice a len cap] w fun e w' => e = .returned (.bool true) ∧ Below w.heap.size w w' := by
  obtain ⟨hat, hlc, hcm, hxs⟩ := h
  have HZ : Hid (StrsAt w a len xs) := hat
  have HMU : Hid (Calls Try.prog 5 #[.slice a len cap] w fun e w' => e = .returned (.bool (muc xs)) ∧ Below w.heap.size w w') := much_any a len cap xs w hat hlc hcm hxs
  have HX : Hid (∀ x ∈ xs, x.length ≤ 140737488351232) := hxs
  unfold maxLen at hcm
  clear hat hxs
  go_enter Try.func3, Try.ntmps3
  go_wp2_with fail
  refine HMU.out.mono ?_
  rintro e w1 ⟨rfl, hb1⟩
  clear HMU
  have s1 := hb1.size
  cases hmu : muc xs
  · obtain ⟨hl1, hl2⟩ := muc_no hmu
    rw [← HZ.out.1] at hl1
    have HS : Hid (sumL xs ≤ 20000) := hl2
    clear hmu hl2
    go_wp2
    go_loop [3, 11] (fun ut ui => ∃ (k : Nat) (T : Ln), k ≤ len ∧ ui = .int .i64 (k : Int) ∧ ut = .string (mk T) ∧ T = joinW 32 (xs.take k) ∧ (∀ x ∈ xs.take k, flat x = true)) (fun _ ui => len - (intOf ui).toNat)
    case atStart => exact ⟨0, [], Nat.zero_le _, rfl, rfl, rfl, fun x h => by cases h⟩
    case round =>
      obtain ⟨k, T, hk, rfl, rfl, hT, hF⟩ := hrel
      have HT : Hid (T = joinW 32 (xs.take k)) := hT
      have HF : Hid (∀ x ∈ xs.take k, flat x = true) := hF
      have hTl : T.length ≤ 21000 := by
        rw [hT]
        have h1 := join_len 32 (xs.take k)
        have h2 := sumL_take xs k
        have h3 : (xs.take k).length ≤ 1000 := by rw [List.length_take]; omega
        have := HS.out
        omega
      clear hT hF
      by_cases hlt : k < len
      · obtain ⟨b, off, rfl, hbb, hcc⟩ := HZ.out.2 (by omega)
        have c0 := (hb1.cell (p := ⟨b, off + k, none⟩) hbb).trans (hcc k hlt)
        have hkx : k < xs.length := by rw [← HZ.out.1]; omega
        have HTK : Hid (xs.take (k + 1) = xs.take k ++ [xs.getD k []]) := take_getD xs k hkx
        have hxl : (xs.getD k []).length ≤ 20000 := by
          have h1 := sumL_mem xs (xs.getD k []) (by rw [List.getD_eq_getElem?_getD, List.getElem?_eq_getElem hkx]; exact List.getElem_mem _)
          have := HS.out
          omega
        obtain ⟨x, hx⟩ : ∃ x, x = xs.getD k [] := ⟨_, rfl⟩
        rw [← hx] at c0 HTK hxl
        clear hx hcc hkx
        cases x with
        | nil =>
          rw [show mk [] = (⟨#[]⟩ : ByteArray) from rfl] at c0
          go_wp2_with (first | (go_at_call 6; refine (alive_any _).mono ?_; rintro e w2 ⟨rfl, hb2⟩))
          go_ret
          exact ⟨rfl, hb1.trans (hb2.mono s1)⟩
        | cons y t =>
          have hq : ((mk (y :: t)).toList == []) = false := by rw [mk_nil_eq]; simp
          have hsz : (mk (y :: t)).size = t.length + 1 := by rw [mk_size]; rfl
          have htl : t.length + 1 ≤ 20000 := hxl
          have hg : ∀ h, (mk (y :: t))[0]'h = y := fun h => by rw [mk_get]; rfl
          have hb32 : ((y.toNat : Int) == 32) = (y == 32) := by
            rw [Bool.eq_iff_iff]
            simp only [beq_iff_eq]
            constructor
            · intro h; apply UInt8.toNat_inj.1; have : y.toNat = 32 := by omega
              rw [this]; rfl
            · rintro rfl; rfl
          cases hy : (y == 32)
          · rw [hy] at hb32
            have hfl : flat (y :: t) = true := by simp [flat, bne, hy]
            have HFN : Hid (∀ x ∈ xs.take (k + 1), flat x = true) := by
              intro x hx
              rw [HTK.out] at hx
              rcases List.mem_append.1 hx with h | h
              · exact HF.out x h
              · rw [List.mem_singleton.1 h]; exact hfl
            generalize hX : (y :: t) = X at *
            have hTs : (mk T).size = T.length := mk_size T
            rcases Nat.eq_zero_or_pos k with hk0 | hk0
            · subst hk0
              have hT0 : T = [] := HT.out
              have HTN : Hid (X = joinW 32 (xs.take (0 + 1))) := by rw [HTK.out]; exact rfl
              rw [Nat.add_zero] at c0
              rw [hT0] at hTs ⊢
              rw [show mk [] = (⟨#[]⟩ : ByteArray) from rfl]
              clear hTs hTl HT hT0
              have hes : (⟨#[]⟩ : ByteArray).size = 0 := rfl
              have hea : (⟨#[]⟩ : ByteArray) ++ mk X = mk X := mk_app [] X
              go_wp2
              go_round
              case rel => exact ⟨0 + 1, X, by omega, by go_num, by first | rfl | rw [hea], HTN.out, HFN.out⟩
              case measure => (simp [intOf] <;> omega)
            · have HTN : Hid (T ++ [32] ++ X = joinW 32 (xs.take (k + 1))) := by
                have hne : xs.take k ≠ [] := by intro h; have := congrArg List.length h; rw [List.length_take, ← HZ.out.1] at this; simp at this; omega
                rw [HTK.out, join_snoc 32 _ _ hne, HT.out]
                simp [Hid]
              have hap : mk T ++ (⟨#[32]⟩ : ByteArray) = mk (T ++ [32]) := mk_app T [32]
              have has : (mk (T ++ [32])).size = T.length + 1 := by rw [mk_size, List.length_append]; rfl
              have hone : (⟨#[32]⟩ : ByteArray).size = 1 := rfl
              have hap2 : mk (T ++ [32]) ++ mk X = mk (T ++ [32] ++ X) := mk_app _ _
              go_wp2
              go_round
              case rel => exact ⟨k + 1, T ++ [32] ++ X, by omega, by go_num, by first | rfl | (rw [hap2]) | (simp [hap, hap2]), HTN.out, HFN.out⟩
              case measure => (simp [intOf] <;> omega)
          · rw [hy] at hb32
            go_wp2_with (first | (go_at_call 6; refine (alive_any _).mono ?_; rintro e w2 ⟨rfl, hb2⟩))
            go_ret
            exact ⟨rfl, hb1.trans (hb2.mono s1)⟩
      · have HE : Hid (fld xs = T) := by
          have e : xs.take k = xs := List.take_of_length_le (by rw [← HZ.out.1]; omega)
          have h1 := HF.out
          rw [e] at h1
          rw [fld_flat xs h1, HT.out, e]
          exact rfl
        have hfo := fold_any a len cap xs w1 (HZ.out.later hb1 (Nat.le_refl _)) (by omega) (by rw [HE.out]; omega)
        rw [HE.out] at hfo
        have HFO : Hid (Calls Try.prog 7 #[.slice a len cap] w1 fun e w' => e = .returned (.string (mk T)) ∧ Below w1.heap.size w1 w') := hfo
        clear hfo
        go_wp2_with fail
        refine HFO.out.mono ?_
        rintro e w2 ⟨rfl, hb2⟩
        have s2 := hb2.size
        go_wp2_with fail
        refine (alive_any _).mono ?_
        rintro e w3 ⟨rfl, hb3⟩
        go_wp2
        go_ret
        exact ⟨rfl, (hb1.trans (hb2.mono s1)).trans (hb3.mono (by omega))⟩
  · go_wp2_with fail
    refine (alive_any _).mono ?_
    rintro e w2 ⟨rfl, hb2⟩
    go_wp2
    go_ret
    exact ⟨rfl, hb1.trans (hb2.mono s1)⟩

end Go.Proofs.Ytoamfmockinknab.Blk
