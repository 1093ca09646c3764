/- quote.Double, by its contract. -/
import Derived.Test.YtiipndfogofhgaaDoorQuotePut
import Derived.Test.YtiipndfogofhgaaDoorUtfDec
namespace Go.Proofs.YtiipndfogofhgaaDoor.Quo
open Utf Rws
open Go.RowKit
set_option linter.unusedSimpArgs false
set_option linter.unusedVariables false
set_option maxRecDepth 100000

theorem escs_take (zs : List Int) (k : Nat) (h : k < zs.length) : escs (zs.take (k + 1)) = escs (zs.take k) ++ esc (zs.getD k 0) := by
  unfold escs
  rw [List.take_succ_eq_append_getElem h, List.flatMap_append, List.getD_eq_getElem?_getD, List.getElem?_eq_getElem h]
  simp
theorem u8s_le (n : Int) : (u8s (byt n)).length ≤ 4 := by rw [u8s_len]; exact (byt_len n).2
theorem ite_le {p : Prop} [Decidable p] {a b : List UInt8} {m : Nat} (ha : a.length ≤ m) (hb : b.length ≤ m) : (if p then a else b).length ≤ m := by split <;> assumption
theorem esc_le (n : Int) : (esc n).length ≤ 10 := by
  unfold esc
  refine ite_le (by decide) (ite_le (by decide) (ite_le (by decide) (ite_le (by decide) (ite_le (by decide) (ite_le (by decide) (ite_le (by have := u8s_le n; omega) (ite_le ?_ (ite_le ?_ ?_))))))))
  all_goals simp [hexL_len]
theorem escs_le (zs : List Int) : (escs zs).length ≤ 10 * zs.length := by
  unfold escs
  induction zs with
  | nil => simp
  | cons n zs ih => have := esc_le n; simp only [List.flatMap_cons, List.length_append, List.length_cons]; omega

/-- Double's answer -/
def dblS (l : List UInt8) : List UInt8 := if (dec l).2 = none then dbl l else []
def dblE (l : List UInt8) : Int := if (dec l).2 = none then 0 else 8
theorem dblS_yes {l : List UInt8} (h : (dec l).2 = none) : dblS l = dbl l := if_pos h
theorem dblE_yes {l : List UInt8} (h : (dec l).2 = none) : dblE l = 0 := if_pos h
theorem dblS_no {l : List UInt8} (h : (dec l).2 ≠ none) : dblS l = [] := if_neg h
theorem dblE_no {l : List UInt8} (h : (dec l).2 ≠ none) : dblE l = 8 := if_neg h
theorem dec_len (m : Nat) : ∀ l : List UInt8, l.length ≤ m → (dec l).1.length ≤ l.length := by
  induction m with
  | zero => intro l h; have e : l = [] := List.eq_nil_iff_length_eq_zero.2 (by omega); subst e; exact Nat.le_refl _
  | succ m ih =>
    intro l h
    by_cases e : l = []
    · subst e; exact Nat.le_refl _
    · have hp := fk_pos l e
      by_cases hn : (fst l).1 < 0
      · rw [dec_bad l e hn]; simp
      · rw [dec_next l e hn]
        have := ih (l.drop (fk l)) (by rw [List.length_drop]; omega)
        rw [List.length_drop] at this
        simp only [List.length_cons]
        omega

set_option maxHeartbeats 1000000 in
theorem double_any (l : List UInt8) (w : World) (hl : l.length ≤ 4194304) (hT : Tabs w) :
    Calls Tryd.prog 14 #[.string (mk l)] w fun e w' => e = .returned (.tuple #[.string (mk (dblS l)), .int .i64 (dblE l)]) ∧ Below w.heap.size w w' := by
  have hdl := dec_len l.length l (Nat.le_refl _)
  have HD := decode_any (mk l) w (by rw [mk_size]; omega) (by rw [mk_data]; omega)
  rw [mk_data] at HD
  cases hd : (dec l).2 with
  | some p =>
    have HV : Hid (dblS l = [] ∧ dblE l = 8) := ⟨dblS_no (by rw [hd]; simp), dblE_no (by rw [hd]; simp)⟩
    have HDD : Hid (Calls Tryd.prog 18 #[.string (mk l)] w fun e w' => ∃ v, e = .returned (.tuple #[v, .agg #[.int .i64 8, .int .i64 (p : Int)]]) ∧ Below w.heap.size w w') := HD.mono (by
      rintro e w' ⟨v, h1, h2, h3⟩
      rw [hd] at h1
      exact ⟨v, h1, h3⟩)
    clear HD hd hT hdl
    go_enter Tryd.func14, Tryd.ntmps14
    go_wp2_with fail
    refine HDD.out.mono ?_
    rintro e w1 ⟨v, rfl, hb1⟩
    go_wp2
    go_quiet (fail)
    go_wp2
    go_ret2
    rw [HV.out.1, HV.out.2]
    exact ⟨rfl, below_drewN (hb1.trans ((below_alloc _ _).mono hb1.size)) _⟩
  | none =>
    obtain ⟨zs, hz⟩ : ∃ zs, zs = (dec l).1 := ⟨_, rfl⟩
    have hS : ∀ n ∈ zs, sgn n = true := fun n hn => by
      have := ((dec_sound l.length l (Nat.le_refl _)).1 hd).1
      unfold allS at this
      exact List.all_eq_true.1 this n (by rw [← hz]; exact hn)
    have HV : Hid (mk (dblS l) = mk (34 :: (escs zs ++ [34])) ∧ dblE l = 0) := ⟨by rw [dblS_yes hd]; unfold dbl; rw [hz], dblE_yes hd⟩
    have HDD : Hid (Calls Tryd.prog 18 #[.string (mk l)] w fun e w' => ∃ a cap, e = .returned (.tuple #[.slice a zs.length cap, .agg #[.int .i64 0, .int .i64 0]]) ∧ Ints w' a zs.length zs ∧ Below w.heap.size w w') := HD.mono (by
      rintro e w' ⟨v, h1, h2, h3⟩
      rw [hd] at h1
      unfold decXs at h2
      rw [if_pos hd, ← hz] at h2
      obtain ⟨a, cap, rfl, hI⟩ := ints_of_own h2
      exact ⟨a, cap, h1, hI, h3⟩)
    rw [← hz] at hdl
    have hle := escs_le zs
    obtain ⟨M, hM⟩ : ∃ M, M = zs.length := ⟨_, rfl⟩
    have HM : Hid (M = zs.length) := hM
    rw [← hM] at HDD hdl hle
    have HS : Hid (∀ n ∈ zs, sgn n = true) := hS
    have HT : Hid (Tabs w) := hT
    rw [HV.out.1, HV.out.2]
    clear HD hd hS hz hM hT
    go_enter Tryd.func14, Tryd.ntmps14
    go_wp2_with fail
    refine HDD.out.mono ?_
    rintro e w1 ⟨a, cap, rfl, hI, hb1⟩
    have hs1 := hb1.size
    obtain ⟨w2, hw2⟩ : ∃ w2, w2 = w1.alloc (.cells #[.int .i64 0, .int .i64 0] 24) := ⟨_, rfl⟩
    obtain ⟨w3, hw3⟩ : ∃ w3, w3 = w2.alloc (.cells #[.pointer none, .slice none 0 0] 57) := ⟨_, rfl⟩
    have hs2 : w2.heap.size = w1.heap.size + 1 := by rw [hw2]; simp
    have hs3 : w3.heap.size = w1.heap.size + 2 := by rw [hw3]; simp [hs2]
    have hb12 : Below w1.heap.size w1 w2 := by rw [hw2]; exact below_alloc _ _
    have hb23 : Below w2.heap.size w2 w3 := by rw [hw3]; exact below_alloc _ _
    have hb13 : Below w1.heap.size w1 w3 := hb12.trans (hb23.mono (by omega))
    have hW3 : Wt (w1.heap.size + 1) (w1.heap.size + 1) [] w3 := by
      have q := bld_new w2 57 []
      rw [hs2, ← hw3] at q
      exact q
    have HW3 : Hid (Wt (w1.heap.size + 1) (w1.heap.size + 1) [] w3) := hW3
    have HI3 : Hid (Ints w1 a M zs) := hI
    have HB13 : Hid (Below w1.heap.size w1 w3) := hb13
    have HT3 : Hid (Tabs w3) := (HT.out.later hb1).later hb13
    have HB3 : Hid (Below w.heap.size w w3) := hb1.trans (hb13.mono hs1)
    have HW : Hid (w3 = (w1.alloc (.cells #[.int .i64 0, .int .i64 0] 24)).alloc (.cells #[.pointer none, .slice none 0 0] 57)) := by rw [← hw2, ← hw3]; exact rfl
    have h2 : 2 ≤ w1.heap.size + 1 := by have := HT.out.size; omega
    clear hI hb1 hb12 hb23 hb13 hW3 hw2 hw3 HT HDD hs2
    go_wp2_with fail
    rw [← HW.out]
    refine (wByte 34 w3 HW3.out (by simp) (by omega)).mono ?_
    rintro e w4 ⟨rfl, hW4, hF4⟩
    rw [List.nil_append] at hW4
    have HW4 : Hid (Wt (w1.heap.size + 1) (w1.heap.size + 1) [34] w4) := hW4
    have HF4 : Hid (Fr (w1.heap.size + 1) (w1.heap.size + 1) w3 w4) := hF4
    clear hW4 hF4 HW HW3
    go_wp2
    go_loopw [24] (fun i wr => ∃ k : Nat, k ≤ M ∧ i = .int .i64 (k : Int) ∧ Wt (w1.heap.size + 1) (w1.heap.size + 1) (34 :: escs (zs.take k)) wr ∧ Fr (w1.heap.size + 1) (w1.heap.size + 1) w3 wr) (fun i _ => M - (intOf i).toNat)
    case atStart => exact ⟨0, Nat.zero_le _, rfl, HW4.out, HF4.out⟩
    case round =>
      clear HW4 HF4
      obtain ⟨k, hk, rfl, hW5, hF5⟩ := hrel
      have HW5 : Hid (Wt (w1.heap.size + 1) (w1.heap.size + 1) (34 :: escs (zs.take k)) wr) := hW5
      have HF5 : Hid (Fr (w1.heap.size + 1) (w1.heap.size + 1) w3 wr) := hF5
      have hs5 := hF5.1.size
      have hel : (escs (zs.take k)).length ≤ 10 * k := by have := escs_le (zs.take k); have := List.length_take_le k zs; omega
      have HFB : Hid (∀ W, Fr (w1.heap.size + 1) (w1.heap.size + 1) w3 W → Below w.heap.size w W) := fun W hF => HB3.out.trans (hF.1.mono (by omega))
      clear hW5 hF5
      by_cases hlt : k < M
      · have hkz : k < zs.length := by rw [← HM.out]; exact hlt
        obtain ⟨b', off, rfl, hbb, hc⟩ := HI3.out.2 (by omega)
        have hck := ((HB13.out.trans (HF5.out.1.mono (by omega))).cell (p := ⟨b', off + k, none⟩) hbb).trans (hc k hlt)
        have hsn := HS.out (zs.getD k 0) (by rw [List.getD_eq_getElem?_getD, List.getElem?_eq_getElem hkz]; simp)
        have HE : Hid (34 :: escs (zs.take (k + 1)) = (34 :: escs (zs.take k)) ++ esc (zs.getD k 0)) := by rw [escs_take zs k hkz]; exact rfl
        generalize zs.getD k 0 = n at *
        have HSN : Hid (sgn n = true) := hsn
        have HT5 : Hid (Tabs wr) := HT3.out.under HF5.out.1 h2
        clear hc hsn hkz
        go_wp2_with fail
        refine (put_any n wr HW5.out HSN.out (by simp; omega) (by omega) HT5.out h2).mono ?_
        rintro e w5 ⟨rfl, hW6, hF6⟩
        rw [← HE.out] at hW6
        have HW6 : Hid (Wt (w1.heap.size + 1) (w1.heap.size + 1) (34 :: escs (zs.take (k + 1))) w5) := hW6
        have HF6 : Hid (Fr (w1.heap.size + 1) (w1.heap.size + 1) w3 w5) := HF5.out.trans hF6
        clear hW6 hF6 HW5 HF5 HT5 hck
        go_wp2
        go_roundw
        case rel => exact ⟨k + 1, by omega, by go_num, HW6.out, HF6.out⟩
        case measure => simp [intOf]; omega
      · have HE : Hid (34 :: escs (zs.take k) ++ [34] = 34 :: (escs zs ++ [34])) := by rw [List.take_of_length_le (by rw [← HM.out]; omega)]; exact rfl
        go_wp2_with fail
        refine (wByte 34 wr HW5.out (by simp; omega) (by omega)).mono ?_
        rintro e w6 ⟨rfl, hW6, hF6⟩
        rw [HE.out] at hW6
        have HW6 : Hid (Wt (w1.heap.size + 1) (w1.heap.size + 1) (34 :: (escs zs ++ [34])) w6) := hW6
        have HF6 : Hid (Fr (w1.heap.size + 1) (w1.heap.size + 1) w3 w6) := HF5.out.trans hF6
        have hs6 := hF6.1.size
        clear hW6 hF6
        go_wp2_with fail
        refine (string_any _ HW6.out (by omega)).mono ?_
        rintro e w7 ⟨rfl, _, hb7, hk7⟩
        go_wp2
        go_ret2
        exact ⟨rfl, HFB.out _ (HF6.out.trans ⟨hb7, hk7⟩)⟩

end Go.Proofs.YtiipndfogofhgaaDoor.Quo
