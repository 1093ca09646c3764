/- Several texts as one: QuoteDbl, FlowSca, FlowWr. -/
import Derived.Test.YteokhnielbmifaaGreatDoorFbR
import Derived.Test.YteokhnielbmifaaGreatDoorFbJ
import Derived.Test.YteokhnielbmifaaGreatDoorFbP
import Derived.Test.YteokhnielbmifaaGreatDoorFbI
import Derived.Test.YteokhnielbmifaaGreatDoorFbL
section
/- quote.Double, by its contract. -/
namespace Go.Proofs.YteokhnielbmifaaGreatDoor.Quo
open Utf Rws
open Go.RowKit
set_option linter.unusedSimpArgs false
set_option linter.unusedVariables false
set_option maxRecDepth 100000

theorem escs_take (zs : List Int) (k : Nat) (h : k < zs.length) : escs (zs.take (k + 1)) = escs (zs.take k) ++ esc (zs.getD k 0) := by
  unfold escs
  rw [List.take_succ_eq_append_getElem h, List.flatMap_append, List.getD_eq_getElem?_getD, List.getElem?_eq_getElem h]
  simp
theorem u8s_le (n : Int) : (u8s (byt n)).length ≤ 4 := by rw [u8s_len]; exact (byt_len n).2
theorem ite_le {p : Prop} [Decidable p] {a b : List UInt8} {m : Nat} (ha : a.length ≤ m) (hb : b.length ≤ m) : (if p then a else b).length ≤ m := by split <;> assumption
theorem esc_le (n : Int) : (esc n).length ≤ 10 := by
  unfold esc
  refine ite_le (by decide) (ite_le (by decide) (ite_le (by decide) (ite_le (by decide) (ite_le (by decide) (ite_le (by decide) (ite_le (by have := u8s_le n; omega) (ite_le ?_ (ite_le ?_ ?_))))))))
  all_goals simp [hexL_len]
theorem escs_le (zs : List Int) : (escs zs).length ≤ 10 * zs.length := by
  unfold escs
  induction zs with
  | nil => simp
  | cons n zs ih => have := esc_le n; simp only [List.flatMap_cons, List.length_append, List.length_cons]; omega

/-- Double's answer -/
def dblS (l : List UInt8) : List UInt8 := if (dec l).2 = none then dbl l else []
def dblE (l : List UInt8) : Int := if (dec l).2 = none then 0 else 8
theorem dblS_yes {l : List UInt8} (h : (dec l).2 = none) : dblS l = dbl l := if_pos h
theorem dblE_yes {l : List UInt8} (h : (dec l).2 = none) : dblE l = 0 := if_pos h
theorem dblS_no {l : List UInt8} (h : (dec l).2 ≠ none) : dblS l = [] := if_neg h
theorem dblE_no {l : List UInt8} (h : (dec l).2 ≠ none) : dblE l = 8 := if_neg h
theorem dec_len (m : Nat) : ∀ l : List UInt8, l.length ≤ m → (dec l).1.length ≤ l.length := by
  induction m with
  | zero => intro l h; have e : l = [] := List.eq_nil_iff_length_eq_zero.2 (by omega); subst e; exact Nat.le_refl _
  | succ m ih =>
    intro l h
    by_cases e : l = []
    · subst e; exact Nat.le_refl _
    · have hp := fk_pos l e
      by_cases hn : (fst l).1 < 0
      · rw [dec_bad l e hn]; simp
      · rw [dec_next l e hn]
        have := ih (l.drop (fk l)) (by rw [List.length_drop]; omega)
        rw [List.length_drop] at this
        simp only [List.length_cons]
        omega

set_option maxHeartbeats 1000000 in
theorem double_any (l : List UInt8) (w : World) (hl : l.length ≤ 4194304) (hT : Tabs w) :
    Calls Tryz.prog 31 #[.string (mk l)] w fun e w' => e = .returned (.tuple #[.string (mk (dblS l)), .int .i64 (dblE l)]) ∧ Below w.heap.size w w' := by
  have hdl := dec_len l.length l (Nat.le_refl _)
  have HD := decode_any (mk l) w (by rw [mk_size]; omega) (by rw [mk_data]; omega)
  rw [mk_data] at HD
  cases hd : (dec l).2 with
  | some p =>
    have HV : Hid (dblS l = [] ∧ dblE l = 8) := ⟨dblS_no (by rw [hd]; simp), dblE_no (by rw [hd]; simp)⟩
    have HDD : Hid (Calls Tryz.prog 52 #[.string (mk l)] w fun e w' => ∃ v, e = .returned (.tuple #[v, .agg #[.int .i64 8, .int .i64 (p : Int)]]) ∧ Below w.heap.size w w') := HD.mono (by
      rintro e w' ⟨v, h1, h2, h3⟩
      rw [hd] at h1
      exact ⟨v, h1, h3⟩)
    clear HD hd hT hdl
    go_enter Tryz.func31, Tryz.ntmps31
    go_wp2_with fail
    refine HDD.out.mono ?_
    rintro e w1 ⟨v, rfl, hb1⟩
    go_wp2
    go_quiet (fail)
    go_wp2
    go_ret2
    rw [HV.out.1, HV.out.2]
    exact ⟨rfl, below_drewN (hb1.trans ((below_alloc _ _).mono hb1.size)) _⟩
  | none =>
    obtain ⟨zs, hz⟩ : ∃ zs, zs = (dec l).1 := ⟨_, rfl⟩
    have hS : ∀ n ∈ zs, sgn n = true := fun n hn => by
      have := ((dec_sound l.length l (Nat.le_refl _)).1 hd).1
      unfold allS at this
      exact List.all_eq_true.1 this n (by rw [← hz]; exact hn)
    have HV : Hid (mk (dblS l) = mk (34 :: (escs zs ++ [34])) ∧ dblE l = 0) := ⟨by rw [dblS_yes hd]; unfold dbl; rw [hz], dblE_yes hd⟩
    have HDD : Hid (Calls Tryz.prog 52 #[.string (mk l)] w fun e w' => ∃ a cap, e = .returned (.tuple #[.slice a zs.length cap, .agg #[.int .i64 0, .int .i64 0]]) ∧ Ints w' a zs.length zs ∧ Below w.heap.size w w') := HD.mono (by
      rintro e w' ⟨v, h1, h2, h3⟩
      rw [hd] at h1
      unfold decXs at h2
      rw [if_pos hd, ← hz] at h2
      obtain ⟨a, cap, rfl, hI⟩ := ints_of_own h2
      exact ⟨a, cap, h1, hI, h3⟩)
    rw [← hz] at hdl
    have hle := escs_le zs
    obtain ⟨M, hM⟩ : ∃ M, M = zs.length := ⟨_, rfl⟩
    have HM : Hid (M = zs.length) := hM
    rw [← hM] at HDD hdl hle
    have HS : Hid (∀ n ∈ zs, sgn n = true) := hS
    have HT : Hid (Tabs w) := hT
    rw [HV.out.1, HV.out.2]
    clear HD hd hS hz hM hT
    go_enter Tryz.func31, Tryz.ntmps31
    go_wp2_with fail
    refine HDD.out.mono ?_
    rintro e w1 ⟨a, cap, rfl, hI, hb1⟩
    have hs1 := hb1.size
    obtain ⟨w2, hw2⟩ : ∃ w2, w2 = w1.alloc (.cells #[.int .i64 0, .int .i64 0] 37) := ⟨_, rfl⟩
    obtain ⟨w3, hw3⟩ : ∃ w3, w3 = w2.alloc (.cells #[.pointer none, .slice none 0 0] 83) := ⟨_, rfl⟩
    have hs2 : w2.heap.size = w1.heap.size + 1 := by rw [hw2]; simp
    have hs3 : w3.heap.size = w1.heap.size + 2 := by rw [hw3]; simp [hs2]
    have hb12 : Below w1.heap.size w1 w2 := by rw [hw2]; exact below_alloc _ _
    have hb23 : Below w2.heap.size w2 w3 := by rw [hw3]; exact below_alloc _ _
    have hb13 : Below w1.heap.size w1 w3 := hb12.trans (hb23.mono (by omega))
    have hW3 : Wt (w1.heap.size + 1) (w1.heap.size + 1) [] w3 := by
      have q := bld_new w2 83 []
      rw [hs2, ← hw3] at q
      exact q
    have HW3 : Hid (Wt (w1.heap.size + 1) (w1.heap.size + 1) [] w3) := hW3
    have HI3 : Hid (Ints w1 a M zs) := hI
    have HB13 : Hid (Below w1.heap.size w1 w3) := hb13
    have HT3 : Hid (Tabs w3) := (HT.out.later hb1).later hb13
    have HB3 : Hid (Below w.heap.size w w3) := hb1.trans (hb13.mono hs1)
    have HW : Hid (w3 = (w1.alloc (.cells #[.int .i64 0, .int .i64 0] 37)).alloc (.cells #[.pointer none, .slice none 0 0] 83)) := by rw [← hw2, ← hw3]; exact rfl
    have h2 : 2 ≤ w1.heap.size + 1 := by have := HT.out.size; omega
    clear hI hb1 hb12 hb23 hb13 hW3 hw2 hw3 HT HDD hs2
    go_wp2_with fail
    rw [← HW.out]
    refine (wByte 34 w3 HW3.out (by simp) (by omega)).mono ?_
    rintro e w4 ⟨rfl, hW4, hF4⟩
    rw [List.nil_append] at hW4
    have HW4 : Hid (Wt (w1.heap.size + 1) (w1.heap.size + 1) [34] w4) := hW4
    have HF4 : Hid (Fr (w1.heap.size + 1) (w1.heap.size + 1) w3 w4) := hF4
    clear hW4 hF4 HW HW3
    go_wp2
    go_loopw [24] (fun i wr => ∃ k : Nat, k ≤ M ∧ i = .int .i64 (k : Int) ∧ Wt (w1.heap.size + 1) (w1.heap.size + 1) (34 :: escs (zs.take k)) wr ∧ Fr (w1.heap.size + 1) (w1.heap.size + 1) w3 wr) (fun i _ => M - (intOf i).toNat)
    case atStart => exact ⟨0, Nat.zero_le _, rfl, HW4.out, HF4.out⟩
    case round =>
      clear HW4 HF4
      obtain ⟨k, hk, rfl, hW5, hF5⟩ := hrel
      have HW5 : Hid (Wt (w1.heap.size + 1) (w1.heap.size + 1) (34 :: escs (zs.take k)) wr) := hW5
      have HF5 : Hid (Fr (w1.heap.size + 1) (w1.heap.size + 1) w3 wr) := hF5
      have hs5 := hF5.1.size
      have hel : (escs (zs.take k)).length ≤ 10 * k := by have := escs_le (zs.take k); have := List.length_take_le k zs; omega
      have HFB : Hid (∀ W, Fr (w1.heap.size + 1) (w1.heap.size + 1) w3 W → Below w.heap.size w W) := fun W hF => HB3.out.trans (hF.1.mono (by omega))
      clear hW5 hF5
      by_cases hlt : k < M
      · have hkz : k < zs.length := by rw [← HM.out]; exact hlt
        obtain ⟨b', off, rfl, hbb, hc⟩ := HI3.out.2 (by omega)
        have hck := ((HB13.out.trans (HF5.out.1.mono (by omega))).cell (p := ⟨b', off + k, none⟩) hbb).trans (hc k hlt)
        have hsn := HS.out (zs.getD k 0) (by rw [List.getD_eq_getElem?_getD, List.getElem?_eq_getElem hkz]; simp)
        have HE : Hid (34 :: escs (zs.take (k + 1)) = (34 :: escs (zs.take k)) ++ esc (zs.getD k 0)) := by rw [escs_take zs k hkz]; exact rfl
        generalize zs.getD k 0 = n at *
        have HSN : Hid (sgn n = true) := hsn
        have HT5 : Hid (Tabs wr) := HT3.out.under HF5.out.1 h2
        clear hc hsn hkz
        go_wp2_with fail
        refine (put_any n wr HW5.out HSN.out (by simp; omega) (by omega) HT5.out h2).mono ?_
        rintro e w5 ⟨rfl, hW6, hF6⟩
        rw [← HE.out] at hW6
        have HW6 : Hid (Wt (w1.heap.size + 1) (w1.heap.size + 1) (34 :: escs (zs.take (k + 1))) w5) := hW6
        have HF6 : Hid (Fr (w1.heap.size + 1) (w1.heap.size + 1) w3 w5) := HF5.out.trans hF6
        clear hW6 hF6 HW5 HF5 HT5 hck
        go_wp2
        go_roundw
        case rel => exact ⟨k + 1, by omega, by go_num, HW6.out, HF6.out⟩
        case measure => simp [intOf]; omega
      · have HE : Hid (34 :: escs (zs.take k) ++ [34] = 34 :: (escs zs ++ [34])) := by rw [List.take_of_length_le (by rw [← HM.out]; omega)]; exact rfl
        go_wp2_with fail
        refine (wByte 34 wr HW5.out (by simp; omega) (by omega)).mono ?_
        rintro e w6 ⟨rfl, hW6, hF6⟩
        rw [HE.out] at hW6
        have HW6 : Hid (Wt (w1.heap.size + 1) (w1.heap.size + 1) (34 :: (escs zs ++ [34])) w6) := hW6
        have HF6 : Hid (Fr (w1.heap.size + 1) (w1.heap.size + 1) w3 w6) := HF5.out.trans hF6
        have hs6 := hF6.1.size
        clear hW6 hF6
        go_wp2_with fail
        refine (string_any _ HW6.out (by omega)).mono ?_
        rintro e w7 ⟨rfl, _, hb7, hk7⟩
        go_wp2
        go_ret2
        exact ⟨rfl, HFB.out _ (HF6.out.trans ⟨hb7, hk7⟩)⟩

end Go.Proofs.YteokhnielbmifaaGreatDoor.Quo
end

section
/- flow.Scalar, by its contract. -/
namespace Go.Proofs.YteokhnielbmifaaGreatDoor.Flw
open Utf Rws Pln
open Go.RowKit
set_option linter.unusedSimpArgs false
set_option linter.unusedVariables false
set_option maxRecDepth 100000
set_option maxHeartbeats 4000000

variable {w : World} {k : Int} {x a : Ln} {ad : Option Addr} {len cap : Nat}
theorem scalar0_any (f : Bool) (hx : x.length ≤ 65536) (hT : Tb w) : Calls Tryz.prog 16 #[tv k x a ad len cap, .bool f] w fun e w' => e = .returned (.string (mk (scl f k x))) ∧ Below w.heap.size w w' := by
  have b1 := below_alloc w (.cells #[.int .i64 k, .string (mk x), .string (mk a), .slice ad len cap] 24)
  by_cases h1 : k = 1
  · have HV : Hid (scl f k x = [110, 117, 108, 108]) := by unfold scl; rw [if_pos h1]; exact rfl
    subst h1
    clear hT b1
    go_enter Tryz.func16, Tryz.ntmps16
    go_wp2
    go_ret
    refine ⟨?_, below_alloc _ _⟩
    rw [HV.out]
    first | rfl | (simp; decide)
  by_cases h2 : k = 2 ∨ k = 3
  · have HV : Hid (scl f k x = x) := by unfold scl; rw [if_neg h1, if_pos h2]; exact rfl
    clear hT b1 h1
    rcases h2 with rfl | rfl <;>
    · go_enter Tryz.func16, Tryz.ntmps16
      go_wp2
      go_ret
      refine ⟨?_, below_alloc _ _⟩
      rw [HV.out]
      rfl
  by_cases h4 : k = 4
  · have HV : Hid (scl f k x = if isP x f = true ∧ knd x = 4 then x else Quo.dblS x) := by unfold scl; rw [if_neg h1, if_neg h2, if_pos h4]; exact rfl
    subst h4
    have hx0 := Bx.new w #[.int .i64 4, .string (mk x), .string (mk a), .slice ad len cap] 24
    obtain ⟨W, hW⟩ : ∃ W, w.alloc (.cells #[.int .i64 4, .string (mk x), .string (mk a), .slice ad len cap] 24) = W := ⟨_, rfl⟩
    rw [hW] at hx0 b1
    obtain ⟨K, hK⟩ : ∃ K, w.heap.size = K := ⟨_, rfl⟩
    rw [hK] at hx0
    have H0 : Hid (Bx W K #[.int .i64 4, .string (mk x), .string (mk a), .slice ad len cap] 24 ∧ Below w.heap.size w W ∧ Tb W) := ⟨hx0, b1, hT.later b1⟩
    have HI : Hid (∀ w', Hid (Bx w' K #[.int .i64 4, .string (mk x), .string (mk a), .slice ad len cap] 24 ∧ Below w.heap.size w w' ∧ Tb w') → Calls Tryz.prog 29 #[.string (mk x), .bool f] w' fun e w'' => e = .returned (.bool (isP x f)) ∧ Hid (Bx w'' K #[.int .i64 4, .string (mk x), .string (mk a), .slice ad len cap] 24 ∧ Below w.heap.size w w'' ∧ Tb w'')) := fun w' h => (is_any x f _ (by omega)).mono (fun e w'' g => ⟨g.1, ⟨h.out.1.later g.2, h.out.2.1.trans (g.2.mono h.out.2.1.size), h.out.2.2.later g.2⟩⟩)
    have HR : Hid (∀ w', Hid (Bx w' K #[.int .i64 4, .string (mk x), .string (mk a), .slice ad len cap] 24 ∧ Below w.heap.size w w' ∧ Tb w') → Calls Tryz.prog 30 #[.string (mk x)] w' fun e w'' => e = .returned (.int .i64 (knd x)) ∧ Hid (Bx w'' K #[.int .i64 4, .string (mk x), .string (mk a), .slice ad len cap] 24 ∧ Below w.heap.size w w'' ∧ Tb w'')) := fun w' h => (resolve_any x _ (by omega) h.out.2.2.1).mono (fun e w'' g => ⟨g.1, ⟨h.out.1.later g.2, h.out.2.1.trans (g.2.mono h.out.2.1.size), h.out.2.2.later g.2⟩⟩)
    have HD : Hid (∀ w', Hid (Bx w' K #[.int .i64 4, .string (mk x), .string (mk a), .slice ad len cap] 24 ∧ Below w.heap.size w w' ∧ Tb w') → Calls Tryz.prog 31 #[.string (mk x)] w' fun e w'' => e = .returned (.tuple #[.string (mk (Quo.dblS x)), .int .i64 (Quo.dblE x)]) ∧ Hid (Bx w'' K #[.int .i64 4, .string (mk x), .string (mk a), .slice ad len cap] 24 ∧ Below w.heap.size w w'' ∧ Tb w'')) := fun w' h => (Quo.double_any x _ (by omega) h.out.2.2.2).mono (fun e w'' g => ⟨g.1, ⟨h.out.1.later g.2, h.out.2.1.trans (g.2.mono h.out.2.1.size), h.out.2.2.later g.2⟩⟩)
    have u0 : W.cell? ⟨K, 0, none⟩ = some (.int .i64 4) := hx0.cell 0
    have u1 : W.cell? ⟨K, 1, none⟩ = some (.string (mk x)) := hx0.cell 1
    clear hT b1 h1 h2 hx0
    generalize knd x = kx at *
    generalize Quo.dblS x = ds at *
    generalize Quo.dblE x = de at *
    go_enter Tryz.func16, Tryz.ntmps16
    go_upto_region 1 with fail
    cases hip : isP x f
    · rw [hip] at HI HV
      go_wp2_with (first | (go_at_call 29; refine (HI.out _ H0).mono ?_; rintro e w5 ⟨rfl, H5⟩; have v1 : w5.cell? ⟨K, 1, none⟩ = some (.string (mk x)) := H5.out.1.cell 1) | (go_at_call 31; refine (HD.out _ H5).mono ?_; rintro e w7 ⟨rfl, H7⟩))
      go_ret
      refine ⟨?_, hK ▸ H7.out.2.1⟩
      rw [HV.out, if_neg (fun h => Bool.noConfusion h.1)]
      rfl
    rw [hip] at HI HV
    by_cases hk : kx = 4
    · subst hk
      go_wp2_with (first | (go_at_call 29; refine (HI.out _ H0).mono ?_; rintro e w5 ⟨rfl, H5⟩; have v1 : w5.cell? ⟨K, 1, none⟩ = some (.string (mk x)) := H5.out.1.cell 1) | (go_at_call 30; refine (HR.out _ H5).mono ?_; rintro e w6 ⟨rfl, H6⟩; have z1 : w6.cell? ⟨K, 1, none⟩ = some (.string (mk x)) := H6.out.1.cell 1))
      go_ret
      refine ⟨?_, hK ▸ H6.out.2.1⟩
      rw [HV.out, if_pos (by simp)]
      rfl
    · have ek : (kx == 4) = false := by simpa using hk
      have HV2 : Hid (scl f 4 x = ds) := HV.out.trans (if_neg fun h => hk h.2)
      clear hk HV
      go_wp2_with (first | (go_at_call 29; refine (HI.out _ H0).mono ?_; rintro e w5 ⟨rfl, H5⟩; have v1 : w5.cell? ⟨K, 1, none⟩ = some (.string (mk x)) := H5.out.1.cell 1) | (go_at_call 30; refine (HR.out _ H5).mono ?_; rintro e w6 ⟨rfl, H6⟩; have z1 : w6.cell? ⟨K, 1, none⟩ = some (.string (mk x)) := H6.out.1.cell 1) | (go_at_call 31; refine (HD.out _ H6).mono ?_; rintro e w7 ⟨rfl, H7⟩))
      go_ret
      refine ⟨?_, hK ▸ H7.out.2.1⟩
      rw [HV2.out]
      rfl
  · have HV : Hid (scl f k x = []) := by unfold scl; rw [if_neg h1, if_neg h2, if_neg h4]; exact rfl
    have e1 : (k == 1) = false := by simpa using h1
    have e2 : (k == 2) = false := by simpa using fun e => h2 (.inl e)
    have e3 : (k == 3) = false := by simpa using fun e => h2 (.inr e)
    have e4 : (k == 4) = false := by simpa using h4
    clear h1 h2 h4 hT b1
    go_enter Tryz.func16, Tryz.ntmps16
    go_wp2
    go_ret
    exact ⟨by rw [HV.out]; rfl, below_alloc _ _⟩
end Go.Proofs.YteokhnielbmifaaGreatDoor.Flw
end

section
/- a strings.Builder of one's own, as flow.write uses it. -/
namespace Go.Proofs.YteokhnielbmifaaGreatDoor.Flw
open Utf Rws Pln
open Go.RowKit
set_option linter.unusedSimpArgs false
set_option linter.unusedVariables false
set_option maxRecDepth 100000

theorem embB : Quo.Emb 47 2 := ⟨by decide, by kernel_rfl⟩
/-- a builder in block b that has built out -/
def Wb (B b : Nat) (out : Ln) (w : World) : Prop := Quo.Bld 47 B b [] (Lib.byteCells out) w
variable {B b KB : Nat} {out : Ln} {w w1 w2 : World}
theorem Wb.lt (h : Wb B b out w) : b < w.heap.size := Quo.Bld.lt h
theorem Wb.later (h : Wb B b out w) (hb : Below w.heap.size w w1) : Wb B b out w1 := Quo.Bld.later h hb
theorem Wb.base (h : Wb B b out w) : B ≤ b := by rcases h with ⟨h, _⟩ | ⟨h, _⟩ <;> exact h
theorem wStr (s : Ln) (w : World) (h : Wb B b out w) (hlen : out.length + s.length ≤ 140737488355328) (hBw : B ≤ w.heap.size) :
    Calls Tryz.prog 40 #[.pointer (some ⟨b, 0, none⟩), .string (mk s)] w fun e w' => e = .returned (.tuple #[.int .i64 (s.length : Int), .nilIface]) ∧ Wb B b (out ++ s) w' ∧ Quo.Fr B b w w' := by
  refine (Quo.writeString_any embB (mk s) h (by rw [Quo.cells_len, mk_size]; exact hlen) hBw).mono ?_
  rintro e w' ⟨h1, h2, h3, h4⟩
  rw [mk_size] at h1
  refine ⟨h1, ?_, h3, h4⟩
  have e : Lib.byteCells out ++ Lib.strCells (mk s) = Lib.byteCells (out ++ s) := by
    simp [Lib.byteCells, Lib.strCells, mk_data]
  rw [e] at h2
  exact h2
/-- a builder, a tree's box beside it, in a world behind W (what lies below B has stayed) -/
structure Wk (W w0 w : World) (B b KB : Nat) (out : Ln) (tc : Array Value) : Prop where
  g : Wb B b out w
  t : Bx w KB tc 24
  bl : Below W.heap.size W w
  f : Quo.Fr B b w0 w
  hB : W.heap.size ≤ B
  hs : B ≤ w.heap.size
  hk : KB ≠ b
theorem Wk.later {W w0 : World} {tc : Array Value} (h : Wk W w0 w B b KB out tc) (hb : Below w.heap.size w w1) : Wk W w0 w1 B b KB out tc :=
  ⟨h.g.later hb, h.t.later hb, h.bl.trans (hb.mono h.bl.size), h.f.trans (Quo.Fr.of hb h.hs), h.hB, Nat.le_trans h.hs hb.size, h.hk⟩
theorem Wk.fr {W w0 : World} {tc : Array Value} {out' : Ln} (h : Wk W w0 w B b KB out tc) (hw : Wb B b out' w1) (hf : Quo.Fr B b w w1) : Wk W w0 w1 B b KB out' tc :=
  ⟨hw, hf.keep h.t h.hk (fun c fz e => by cases e), h.bl.trans (hf.1.mono h.hB), h.f.trans hf, h.hB, Nat.le_trans h.hs hf.1.size, h.hk⟩
/-- .. when a string is written -/
theorem wk_str {W w0 : World} {tc : Array Value} (s : Ln) (h : Wk W w0 w B b KB out tc) (hlen : out.length + s.length ≤ 140737488355328) :
    Calls Tryz.prog 40 #[.pointer (some ⟨b, 0, none⟩), .string (mk s)] w fun e w' => e = .returned (.tuple #[.int .i64 (s.length : Int), .nilIface]) ∧ Hid (Wk W w0 w' B b KB (out ++ s) tc) :=
  (wStr s w h.g hlen h.hs).mono (fun e w' g => ⟨g.1, h.fr g.2.1 g.2.2⟩)
theorem Wk.new {W : World} {tc : Array Value} (h : Wb B b out w) (hb : Below W.heap.size W w) (hB : W.heap.size ≤ B) (hs : B ≤ w.heap.size) : Wk W w (w.alloc (.cells tc 24)) B b w.heap.size out tc :=
  ⟨h.later (below_alloc _ _), Bx.new _ _ _, hb.trans ((below_alloc _ _).mono hb.size), Quo.Fr.of (below_alloc _ _) hs, hB, by rw [World.size_alloc]; omega, by have := h.lt; omega⟩
end Go.Proofs.YteokhnielbmifaaGreatDoor.Flw
end
