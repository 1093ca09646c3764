/- grommetlaw08.much, by its contract; lengths. -/
import Derived.Test.YtoamfmockinknaaDoorBlockMem
namespace Go.Proofs.YtoamfmockinknaaDoor.Blk
open Go.RowKit
open Rws (mk mk_data mk_size mk_of mk_ext mk_get mk_inj)
set_option linter.unusedSimpArgs false
set_option linter.unusedVariables false
set_option maxRecDepth 100000

def sumL (xs : List Ln) : Nat := (xs.map List.length).sum
theorem sumL_nil : sumL [] = 0 := rfl
theorem sumL_cons (x : Ln) (r : List Ln) : sumL (x :: r) = x.length + sumL r := by simp [sumL]
theorem sumL_app (a b : List Ln) : sumL (a ++ b) = sumL a + sumL b := by simp [sumL]
theorem sumL_take (xs : List Ln) (k : Nat) : sumL (xs.take k) ≤ sumL xs := by
  conv => rhs; rw [← List.take_append_drop k xs]
  rw [sumL_app]; omega
theorem sumL_mem : ∀ (xs : List Ln) (x : Ln), x ∈ xs → x.length ≤ sumL xs
  | [], x, h => by cases h
  | y :: r, x, h => by
    rw [sumL_cons]
    rcases List.mem_cons.1 h with rfl | h
    · omega
    · have := sumL_mem r x h; omega
theorem sumL_bd (xs : List Ln) (n : Nat) (h : ∀ x ∈ xs, x.length ≤ n) : sumL xs ≤ xs.length * n := by
  induction xs with
  | nil => simp [sumL]
  | cons x r ih =>
    have h1 := h x (by simp)
    have h2 := ih (fun y hy => h y (by simp [hy]))
    rw [sumL_cons, List.length_cons, Nat.succ_mul]; omega
theorem sumL_next (xs : List Ln) (k : Nat) (h : k < xs.length) : sumL (xs.take (k + 1)) = sumL (xs.take k) + (xs.getD k []).length := by
  rw [take_getD xs k h, sumL_app]; simp [sumL]
theorem join_len (c : UInt8) : ∀ xs : List Ln, (joinW c xs).length ≤ sumL xs + xs.length
  | [] => by simp [joinW]
  | [x] => by simp [joinW, sumL]
  | x :: y :: t => by
    have ih := join_len c (y :: t)
    rw [join_cons, List.length_append, List.length_cons, sumL_cons, List.length_cons]
    omega
theorem sep_len (x : Ln) (r : List Ln) : (sep x r).length ≤ 1 := by
  unfold sep
  split
  · simp
  · split
    · split <;> simp
    · simp
theorem fld_len : ∀ xs : List Ln, (fld xs).length ≤ sumL xs + xs.length
  | [] => by simp [fld]
  | [x] => by simp [fld, sumL]
  | x :: y :: t => by
    have ih := fld_len (y :: t)
    have hs := sep_len x (y :: t)
    rw [fld_cons, List.length_append, List.length_append, sumL_cons, List.length_cons]
    omega

def muc (xs : List Ln) : Bool := decide (1000 < xs.length) || decide (20000 < sumL (xs.take 1000))
theorem muc_no {xs : List Ln} (h : muc xs = false) : xs.length ≤ 1000 ∧ sumL xs ≤ 20000 := by
  unfold muc at h
  simp only [Bool.or_eq_false_iff, decide_eq_false_iff_not] at h
  have h1 : xs.length ≤ 1000 := by omega
  rw [List.take_of_length_le h1] at h
  exact ⟨h1, by omega⟩
set_option maxHeartbeats 1000000 in
theorem much_any (a : Option Addr) (len cap : Nat) (xs : List Ln) (w : World) (h : StrsAt w a len xs) (hc : len ≤ cap) (hl : cap ≤ maxLen) (hb : ∀ x ∈ xs, x.length ≤ 140737488351232) :
    Calls Tryd.prog 10 #[.slice a len cap] w fun e w' => e = .returned (.bool (muc xs)) ∧ Below w.heap.size w w' := by
  have HZ : Hid (StrsAt w a len xs) := h
  have HB : Hid (∀ x ∈ xs, x.length ≤ 140737488351232) := hb
  unfold maxLen at hl
  clear h hb
  by_cases hle : len ≤ 1000
  · go_enter Tryd.func10, Tryd.ntmps10
    go_wp2
    go_loop [3, 12] (fun un ui => ∃ k S : Nat, k ≤ len ∧ ui = .int .i64 (k : Int) ∧ un = .int .i64 (S : Int) ∧ S = sumL (xs.take k)) (fun _ ui => len - (intOf ui).toNat)
    case atStart => exact ⟨0, 0, Nat.zero_le _, rfl, rfl, rfl⟩
    case round =>
      obtain ⟨k, S, hk, rfl, rfl, hS⟩ := hrel
      have HS : Hid (S = sumL (xs.take k)) := hS
      have hSl : S ≤ 140737488351232000 := by
        have h1 := sumL_bd (xs.take k) 140737488351232 (fun x hx => HB.out x (List.mem_of_mem_take hx))
        have h2 : (xs.take k).length ≤ 1000 := by rw [List.length_take]; omega
        generalize sumL (xs.take k) = Z at *
        generalize (xs.take k).length = Y at *
        omega
      clear hS
      by_cases hlt : k < len
      · obtain ⟨b, off, rfl, hbb, hcc⟩ := HZ.out.2 (by omega)
        have c0 := hcc k (by omega)
        have hkx : k < xs.length := by rw [← HZ.out.1]; omega
        have HN : Hid (sumL (xs.take (k + 1)) = sumL (xs.take k) + (xs.getD k []).length) := sumL_next xs k hkx
        have hxl := HB.out (xs.getD k []) (by rw [List.getD_eq_getElem?_getD, List.getElem?_eq_getElem hkx]; exact List.getElem_mem _)
        obtain ⟨x, hx⟩ : ∃ x, x = xs.getD k [] := ⟨_, rfl⟩
        rw [← hx] at c0 HN hxl
        clear hx hcc hkx
        have hsz : (mk x).size = x.length := mk_size x
        go_wp2
        go_round
        case rel => exact ⟨k + 1, S + x.length, by omega, by go_num, by go_num, by rw [HN.out, HS.out]⟩
        case measure => (simp [intOf] <;> omega)
      · have HE : Hid (muc xs = decide ((20000 : Int) < (S : Int))) := by
          unfold muc
          have hk2 : k = len := by omega
          have hxl := HZ.out.1
          rw [HS.out, hk2, hxl, List.take_of_length_le (Nat.le_refl _), List.take_of_length_le (by omega), decide_eq_false (by omega), Bool.false_or]
          exact decide_eq_decide.2 (by omega)
        have hdl : decide ((1000 : Int) < (len : Int)) = false := decide_eq_false (by omega)
        go_wp2
        go_ret
        exact ⟨ret_b HE.out.symm, Below.refl _ _⟩
  · go_enter Tryd.func10, Tryd.ntmps10
    go_wp2
    go_loop [3, 12] (fun un ui => ∃ k S : Nat, k ≤ 1000 ∧ ui = .int .i64 (k : Int) ∧ un = .int .i64 (S : Int) ∧ S = sumL (xs.take k)) (fun _ ui => 1000 - (intOf ui).toNat)
    case atStart => exact ⟨0, 0, Nat.zero_le _, rfl, rfl, rfl⟩
    case round =>
      obtain ⟨k, S, hk, rfl, rfl, hS⟩ := hrel
      have HS : Hid (S = sumL (xs.take k)) := hS
      have hSl : S ≤ 140737488351232000 := by
        have h1 := sumL_bd (xs.take k) 140737488351232 (fun x hx => HB.out x (List.mem_of_mem_take hx))
        have h2 : (xs.take k).length ≤ 1000 := by rw [List.length_take]; omega
        generalize sumL (xs.take k) = Z at *
        generalize (xs.take k).length = Y at *
        omega
      clear hS
      by_cases hlt : k < 1000
      · obtain ⟨b, off, rfl, hbb, hcc⟩ := HZ.out.2 (by omega)
        have c0 := hcc k (by omega)
        have hkx : k < xs.length := by rw [← HZ.out.1]; omega
        have HN : Hid (sumL (xs.take (k + 1)) = sumL (xs.take k) + (xs.getD k []).length) := sumL_next xs k hkx
        have hxl := HB.out (xs.getD k []) (by rw [List.getD_eq_getElem?_getD, List.getElem?_eq_getElem hkx]; exact List.getElem_mem _)
        obtain ⟨x, hx⟩ : ∃ x, x = xs.getD k [] := ⟨_, rfl⟩
        rw [← hx] at c0 HN hxl
        clear hx hcc hkx
        have hsz : (mk x).size = x.length := mk_size x
        go_wp2
        go_round
        case rel => exact ⟨k + 1, S + x.length, by omega, by go_num, by go_num, by rw [HN.out, HS.out]⟩
        case measure => (simp [intOf] <;> omega)
      · have HE : Hid (muc xs = true) := by
          unfold muc
          rw [decide_eq_true (by rw [← HZ.out.1]; omega), Bool.true_or]
          exact rfl
        have hdl : decide ((1000 : Int) < (len : Int)) = true := decide_eq_true (by omega)
        go_wp2
        go_ret
        exact ⟨ret_b HE.out.symm, Below.refl _ _⟩

end Go.Proofs.YtoamfmockinknaaDoor.Blk
