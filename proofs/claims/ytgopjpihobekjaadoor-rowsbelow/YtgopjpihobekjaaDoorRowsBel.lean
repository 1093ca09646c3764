/- rows.Below, by its contract; what it counts. -/
import Derived.Test.YtgopjpihobekjaaDoorRowsSame
namespace Go.Proofs.YtgopjpihobekjaaDoor.Rws
open Utf
open Go.RowKit
set_option linter.unusedSimpArgs false
set_option linter.unusedVariables false
set_option maxRecDepth 100000

def emR (x : R3) : Bool := emp x.2.1.data.toList
def belA (c : Int) : Nat → Nat → List R3 → Nat
  | n, _, [] => n
  | n, i, x :: r => if emR x = true then belA c n (i + 1) r else if x.1 ≤ c then n else belA c (i + 1) (i + 1) r
def bel (rs : List R3) (c : Int) : Nat := belA c 0 0 rs
theorem drop_getD (rs : List R3) (i : Nat) (h : i < rs.length) : rs.drop i = rs.getD i z3 :: rs.drop (i + 1) := by
  rw [List.getD_eq_getElem?_getD, List.getElem?_eq_getElem h]; simp
theorem belA_facts (c : Int) (r : List R3) : ∀ n i, n ≤ i → (belA c n i r = n ∨ i < belA c n i r) ∧ belA c n i r ≤ i + r.length ∧ (belA c n i r ≠ n → emR (r.getD (belA c n i r - 1 - i) z3) = false) ∧
    (∀ j, j < r.length → i + j < belA c n i r → emR (r.getD j z3) = false → c < (r.getD j z3).1) ∧
    (∀ j, j < r.length → belA c n i r ≤ i + j → (∀ k, k < j → belA c n i r ≤ i + k → emR (r.getD k z3) = true) → emR (r.getD j z3) = false → (r.getD j z3).1 ≤ c) := by
  induction r with
  | nil => intro n i h; refine ⟨.inl rfl, by simp [belA]; omega, fun h => absurd rfl h, by simp, by simp⟩
  | cons x r ih =>
    intro n i h
    rw [belA]
    by_cases he : emR x = true
    · rw [if_pos he]
      obtain ⟨h1, h2, h3, h4, h5⟩ := ih n (i + 1) (by omega)
      generalize belA c n (i + 1) r = N at *
      refine ⟨by omega, by simp; omega, fun hn => ?_, fun j hj hl hem => ?_, fun j hj hl hk hem => ?_⟩
      · have := h3 hn
        have e : N - 1 - i = (N - 1 - (i + 1)) + 1 := by omega
        rw [e, List.getD_cons_succ]; exact this
      · cases j with
        | zero => simp at hem; rw [he] at hem; cases hem
        | succ j => rw [List.getD_cons_succ] at hem ⊢; exact h4 j (by simp at hj; omega) (by omega) hem
      · cases j with
        | zero => simp at hem; rw [he] at hem; cases hem
        | succ j =>
          rw [List.getD_cons_succ] at hem ⊢
          refine h5 j (by simp at hj; omega) (by omega) (fun k hkj hkn => ?_) hem
          have := hk (k + 1) (by omega) (by omega)
          rwa [List.getD_cons_succ] at this
    · have he' : emR x = false := by simpa using he
      rw [if_neg he]
      by_cases hc : x.1 ≤ c
      · rw [if_pos hc]
        refine ⟨.inl rfl, by simp; omega, fun hn => absurd rfl hn, fun j hj hl hem => by omega, fun j hj hl hk hem => ?_⟩
        cases j with
        | zero => simpa using hc
        | succ j =>
          have := hk 0 (by omega) (by omega)
          simp at this; rw [he'] at this; cases this
      · rw [if_neg hc]
        obtain ⟨h1, h2, h3, h4, h5⟩ := ih (i + 1) (i + 1) (Nat.le_refl _)
        generalize belA c (i + 1) (i + 1) r = N at *
        refine ⟨by omega, by simp; omega, fun hn => ?_, fun j hj hl hem => ?_, fun j hj hl hk hem => ?_⟩
        · by_cases hN : N = i + 1
          · have e : N - 1 - i = 0 := by omega
            rw [e]; simpa using he'
          · have := h3 hN
            have e : N - 1 - i = (N - 1 - (i + 1)) + 1 := by omega
            rw [e, List.getD_cons_succ]; exact this
        · cases j with
          | zero => simp; omega
          | succ j => rw [List.getD_cons_succ] at hem ⊢; exact h4 j (by simp at hj; omega) (by omega) hem
        · cases j with
          | zero => omega
          | succ j =>
            rw [List.getD_cons_succ] at hem ⊢
            refine h5 j (by simp at hj; omega) (by omega) (fun k hkj hkn => ?_) hem
            have := hk (k + 1) (by omega) (by omega)
            rwa [List.getD_cons_succ] at this

theorem isEmptyS_any (c k : Int) (s : ByteArray) (w : World) : Calls Tryd.prog 20 #[.agg #[.int .i64 c, .string s, .int .i64 k]] w fun e w' => e = .returned (.bool (emp s.data.toList)) ∧ Below w.heap.size w w' := by
  have h := isEmpty_any c k s.data.toList w
  rw [mk_of] at h
  exact h

theorem ret_nat {a b : Nat} (h : a = b) : Ending.returned (.int .i64 (a : Int)) = .returned (.int .i64 (b : Int)) := by rw [h]

set_option maxHeartbeats 1000000 in
theorem below_any (a : Option Addr) (len cap : Nat) (rs : List R3) (c : Int) (w : World) (h : RowsAt w a len rs) (hl : len ≤ 4398046511104) :
    Calls Tryd.prog 9 #[.slice a len cap, .int .i64 c] w fun e w' => e = .returned (.int .i64 (bel rs c : Nat)) ∧ Below w.heap.size w w' := by
  have HZ : Hid (RowsAt w a len rs) := h
  clear h
  go_enter Tryd.func9, Tryd.ntmps9
  go_wp2
  go_loopw [5, 10] (fun n i wr => ∃ k m : Nat, k ≤ len ∧ m ≤ k ∧ i = .int .i64 k ∧ n = .int .i64 m ∧ bel rs c = belA c m k (rs.drop k) ∧ Below w.heap.size w wr) (fun _ i _ => len - (intOf i).toNat)
  case atStart => exact ⟨0, 0, Nat.zero_le _, Nat.le_refl _, rfl, rfl, rfl, Below.refl _ _⟩
  case round =>
    obtain ⟨k, m, hk, hm, rfl, rfl, ht, hbe⟩ := hrel
    have HT : Hid (bel rs c = belA c m k (rs.drop k)) := ht
    clear ht
    have hws := hbe.size
    by_cases hlt : k < len
    · obtain ⟨b, off, rfl, hb, hc⟩ := HZ.out.2 (by omega)
      obtain ⟨c0, c1, c2⟩ := hc k hlt
      replace c0 := (hbe.cell (p := ⟨b, off + k * 3, none⟩) hb).trans c0
      replace c1 := (hbe.cell (p := ⟨b, off + k * 3 + 1, none⟩) hb).trans c1
      replace c2 := (hbe.cell (p := ⟨b, off + k * 3 + 2, none⟩) hb).trans c2
      have hrl := HZ.out.1
      have HD : Hid (rs.drop k = rs.getD k z3 :: rs.drop (k + 1)) := drop_getD rs k (by omega)
      obtain ⟨x, hx⟩ : ∃ x, Hid (x = rs.getD k z3) := ⟨_, rfl⟩
      rw [← hx.out] at c0 c1 c2
      have HE : Hid (bel rs c = belA c m k (x :: rs.drop (k + 1))) := by rw [HT.out, HD.out, hx.out]; exact rfl
      obtain ⟨x1, x2, x3⟩ := x
      simp only at c0 c1 c2
      clear hc hrl HT
      have n0 := cell_new3 wr (.int .i64 x1) (.string x2) (.int .i64 x3) 31
      cases he : emp x2.data.toList
      · by_cases hcol : x1 ≤ c
        · have HN : Hid (bel rs c = m) := by rw [HE.out, belA, if_neg (by unfold emR; rw [he]; simp), if_pos hcol]; exact rfl
          go_wp2_with (first | (go_at_call 20; refine (isEmptyS_any _ _ _ _).mono ?_; rintro e w1 ⟨rfl, hb1⟩; rw [he]; have q0 := (hb1.cell (p := ⟨wr.heap.size, 0, none⟩) (by simp)).trans n0.1))
          go_ret
          exact ⟨ret_nat HN.out.symm, (hbe.alloc hws _).trans (hb1.mono (by simp; omega))⟩
        · have HN : Hid (bel rs c = belA c (k + 1) (k + 1) (rs.drop (k + 1))) := by rw [HE.out, belA, if_neg (by unfold emR; rw [he]; simp), if_neg hcol]; exact rfl
          have hcol' : c < x1 := by omega
          go_wp2_with (first | (go_at_call 20; refine (isEmptyS_any _ _ _ _).mono ?_; rintro e w1 ⟨rfl, hb1⟩; rw [he]; have q0 := (hb1.cell (p := ⟨wr.heap.size, 0, none⟩) (by simp)).trans n0.1))
          go_roundw
          case rel => exact ⟨k + 1, k + 1, by omega, by omega, by go_num, by go_num, HN.out, (hbe.alloc hws _).trans (hb1.mono (by simp; omega))⟩
          case measure => (simp [intOf] <;> omega)
      · have HN : Hid (bel rs c = belA c m (k + 1) (rs.drop (k + 1))) := by rw [HE.out, belA, if_pos (by unfold emR; rw [he])]; exact rfl
        go_wp2_with (first | (go_at_call 20; refine (isEmptyS_any _ _ _ _).mono ?_; rintro e w1 ⟨rfl, hb1⟩; rw [he]))
        go_roundw
        case rel => exact ⟨k + 1, m, by omega, by omega, by go_num, rfl, HN.out, (hbe.alloc hws _).trans (hb1.mono (by simp; omega))⟩
        case measure => (simp [intOf] <;> omega)
    · have HN : Hid (bel rs c = m) := by
        have hrl := HZ.out.1
        have := HT.out
        rw [List.drop_of_length_le (by omega)] at this
        exact this
      go_wp2
      go_ret
      exact ⟨ret_nat HN.out.symm, hbe⟩

end Go.Proofs.YtgopjpihobekjaaDoor.Rws
