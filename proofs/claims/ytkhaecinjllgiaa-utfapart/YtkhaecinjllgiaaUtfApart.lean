/- The law UtfApart: whatever two numbers, it answers true. -/
import Derived.Test.YtkhaecinjllgiaaUtfAlive
namespace Go.Proofs.Ytkhaecinjllgiaa.Utf
open Go.RowKit
set_option linter.unusedSimpArgs false
set_option linter.unusedVariables false

theorem u8_inj {l m : List Int} (hl : ∀ x ∈ l, 0 ≤ x ∧ x < 256) (hm : ∀ x ∈ m, 0 ≤ x ∧ x < 256) (h : l.map (fun n => UInt8.ofNat n.toNat) = m.map (fun n => UInt8.ofNat n.toNat)) : l = m := by
  induction l generalizing m with
  | nil => cases m with
    | nil => rfl
    | cons y m => simp at h
  | cons x l ih =>
    cases m with
    | nil => simp at h
    | cons y m =>
      simp only [List.map_cons, List.cons.injEq] at h
      have hx := hl x (List.mem_cons_self)
      have hy := hm y (List.mem_cons_self)
      have e := congrArg UInt8.toNat h.1
      simp only [UInt8.toNat_ofNat'] at e
      have e2 : x = y := by omega
      rw [e2, ih (fun z hz => hl z (List.mem_cons_of_mem _ hz)) (fun z hz => hm z (List.mem_cons_of_mem _ hz)) h.2]

theorem apart_str {a b : Int} (ha : sgn a = true) (hb : sgn b = true) (hne : a ≠ b) (i : Nat) (hi : i + (strOfNums (bytes [a])).size ≤ (strOfNums (bytes [b])).size) :
    (((strOfNums (bytes [b])).extract i (i + (strOfNums (bytes [a])).size)).toList == (strOfNums (bytes [a])).toList) = false := by
  have ea : bytes [a] = byt a := by simp [bytes]
  have eb : bytes [b] = byt b := by simp [bytes]
  obtain ⟨a0, a1, _⟩ := sgn_bd ha
  obtain ⟨b0, b1, _⟩ := sgn_bd hb
  rw [ea, eb, strOfNums_size, strOfNums_size] at hi
  rw [ea, eb]
  have h := apart_list a0 a1 b0 b1 hne i hi
  rw [beq_eq_false_iff_ne]
  intro hh
  apply h
  rw [ByteArray.toList_eq, ByteArray.toList_eq, strOfNums_size, strOfNums, ByteArray.extract_mk, strOfNums] at hh
  simp only [← List.map_drop, ← List.map_take, Nat.add_sub_cancel_left] at hh
  refine u8_inj ?_ (byt_rng a0 a1) hh
  intro x hx
  exact byt_rng b0 b1 x (List.mem_of_mem_drop (List.mem_of_mem_take hx))

theorem allS_one (n : Int) : allS [n] = sgn n := by simp [allS]
theorem apart_early (a b : Int) (w : World) (h : (encE [a] != 0) = true ∨ ((encE [a] != 0) = false ∧ (encE [b] != 0) = true) ∨ ((encE [a] != 0) = false ∧ (encE [b] != 0) = false ∧ (a == b) = true)) :
    Calls Try.prog 8 #[.int .i64 a, .int .i64 b] w fun e w' => e = .returned (.bool true) ∧ Below w.heap.size w w' := by
  rcases h with h1 | ⟨h1, h2⟩ | ⟨h1, h2, h3⟩
  all_goals
    go_enter Try.func8, Try.ntmps8
    go_wp2_with fail
    refine (encode_any _ _ _ [a] _ (ints_one _ _ _) (by decide)).mono ?_
    rintro e w1 ⟨rfl, hb1⟩
    go_wp2_with fail
    refine (encode_any _ _ _ [b] _ (ints_one _ _ _) (by decide)).mono ?_
    rintro e w2 ⟨rfl, hb2⟩
    go_wp2_with (first | (go_at_call 11; refine (alive_any _).mono ?_; rintro e w3 ⟨rfl, hb3⟩))
    go_ret
    refine ⟨rfl, ?_⟩
    have s1 := hb1.size
    have s2 := hb2.size
    simp at s1 s2
    exact ((((Below.refl _ _).alloc (Nat.le_refl _) _).trans (hb1.mono (by simp))).alloc (by omega) _).trans ((hb2.mono (by simp; omega)).trans (hb3.mono (by omega)))

theorem apart_any (a b : Int) (w : World) : Calls Try.prog 8 #[.int .i64 a, .int .i64 b] w fun e w' => e = .returned (.bool true) ∧ Below w.heap.size w w' := by
  cases ha : sgn a
  · exact apart_early a b w (.inl (by rw [encE_no (by rw [allS_one]; exact ha)]; rfl))
  cases hb : sgn b
  · exact apart_early a b w (.inr (.inl ⟨by rw [encE_yes (by rw [allS_one]; exact ha)]; rfl, by rw [encE_no (by rw [allS_one]; exact hb)]; rfl⟩))
  by_cases hab : a = b
  · exact apart_early a b w (.inr (.inr ⟨by rw [encE_yes (by rw [allS_one]; exact ha)]; rfl, by rw [encE_yes (by rw [allS_one]; exact hb)]; rfl, by simpa using hab⟩))
  have h1 : encE [a] = 0 := encE_yes (by rw [allS_one]; exact ha)
  have h2 : encE [b] = 0 := encE_yes (by rw [allS_one]; exact hb)
  have h3 : (a == b) = false := by simpa using hab
  have HP : Hid (∀ i : Nat, i + (encS [a]).size ≤ (encS [b]).size → (((encS [b]).extract i (i + (encS [a]).size)).toList == (encS [a]).toList) = false) := by
    rw [encS_yes (by rw [allS_one]; exact ha), encS_yes (by rw [allS_one]; exact hb)]
    exact apart_str ha hb hab
  have hsa : (encS [a]).size ≤ 4 := by
    rw [encS_yes (by rw [allS_one]; exact ha), strOfNums_size]; have := bytes_len [a]; simp at this; omega
  have hsb : (encS [b]).size ≤ 4 := by
    rw [encS_yes (by rw [allS_one]; exact hb), strOfNums_size]; have := bytes_len [b]; simp at this; omega
  clear ha hb hab
  go_enter Try.func8, Try.ntmps8
  go_wp2_with fail
  refine (encode_any _ _ _ [a] _ (ints_one _ _ _) (by decide)).mono ?_
  rintro e w1 ⟨rfl, hb1⟩
  generalize encS [a] = s at *
  go_wp2_with fail
  refine (encode_any _ _ _ [b] _ (ints_one _ _ _) (by decide)).mono ?_
  rintro e w2 ⟨rfl, hb2⟩
  generalize encS [b] = t at *
  go_wp2
  have HB : Hid (Below w.heap.size w w2) := by
    have s1 := hb1.size
    have s2 := hb2.size
    simp at s1 s2
    exact ((((Below.refl _ _).alloc (Nat.le_refl _) _).trans (hb1.mono (by simp))).alloc (by omega) _).trans (hb2.mono (by simp; omega))
  clear hb1 hb2 h1 h2 h3
  go_loop [9] (fun i => ∃ k : Nat, k ≤ 5 ∧ i = .int .i64 k) (fun i => (5 - intOf i).toNat)
  case atStart => exact ⟨0, by omega, rfl⟩
  case round =>
    obtain ⟨k, hk, rfl⟩ := hrel
    by_cases hlt : (k : Int) + s.size ≤ t.size
    · have hne := HP.out k (by omega)
      go_wp2
      go_round
      case rel => exact ⟨k + 1, by omega, by go_num⟩
      case measure => simp [intOf]; omega
    · go_wp2_with (first | (go_at_call 11; refine (alive_any _).mono ?_; rintro e w3 ⟨rfl, hb3⟩))
      go_ret
      exact ⟨rfl, HB.out.trans (hb3.mono HB.out.size)⟩

theorem apart_walk (a b : Int) (w : World) (_ha : (Lit.int .i64 a).wf = true) (_hb : (Lit.int .i64 b).wf = true) : Calls Try.prog 8 #[.int .i64 a, .int .i64 b] w fun e w' => e = .returned (.bool true) ∧ Below w.heap.size w w' := apart_any a b w

end Go.Proofs.Ytkhaecinjllgiaa.Utf
