/- What is wrong with a frame's beginning. -/
import Derived.Test.YthmoapigjafijaaFrameBy
import Derived.BigQuiet
import Derived.Deep.QuietTactic
import Derived.Deep.RegionWith
namespace Go.Proofs.Ythmoapigjafijaa.Frm
open Go.RowKit Crc
set_option linter.unusedSimpArgs false
set_option linter.unusedVariables false

/-- what is wrong with a beginning, whatever stands behind it -/
def hfE (b : List UInt8) : Nat :=
  if beg b = false then 3 else if b.length < 20 then 4
  else if val (cut b 4 8) > most then 5 else if val (cut b 8 16) < 1 ∨ val (cut b 8 16) > maxSeq then 1 else 0

theorem mk_toList (l : List UInt8) : (mk l).toList = l := by rw [ByteArray.toList_eq, mk_data]
theorem yrec_take (n : Nat) : ((⟨#[89, 82, 69, 67]⟩ : ByteArray).extract 0 n).toList = magic.take n := by
  rw [ByteArray.toList_eq]
  simp [magic]
theorem beg_short (l : List UInt8) (n : Nat) (h : n = l.length) (h4 : n ≤ 4) : ((mk l).toList == ((⟨#[89, 82, 69, 67]⟩ : ByteArray).extract 0 n).toList) = beg l := by
  subst h
  unfold beg
  rw [mk_toList, yrec_take, List.take_of_length_le (l := l) h4]
theorem beg_long (l : List UInt8) (h4 : 4 < l.length) : ((mk (l.take 4)).toList == ((⟨#[89, 82, 69, 67]⟩ : ByteArray).extract 0 4).toList) = beg l := by
  rw [mk_toList, yrec_take, beg_magic (by omega)]
  rfl
theorem hf_short (a : Option Addr) (len cap : Nat) (l : List UInt8) (w : World) (hl : Bys w a len l) (hlc : len ≤ cap) (hm : cap ≤ maxLen) (h4 : len ≤ 4) :
    Calls Try.prog 24 #[.slice a len cap] w fun e w' => e = .returned (.int .i64 (hfE l)) ∧ Below w.heap.size w w' := by
  have HZ : Hid (Bys w a len l) := hl
  have HL : Hid (len = l.length) := hl.1
  unfold maxLen at hm
  clear hl
  have hcv := conv_bys (cap := cap) (show Bys w.drew a len l from HZ.out)
  have h4' : ((len : Int) ≤ 4) := by omega
  have hd : decide ((len : Int) < 20) = true := decide_eq_true (by omega)
  have hq := beg_short l len HL.out h4
  cases hb : beg l with
  | false =>
    rw [hb] at hq
    have HE : Hid ((3 : Int) = (hfE l : Int)) := by
      show _ = _
      unfold hfE
      rw [if_pos hb]
      rfl
    clear hb
    go_enter Try.func24, Try.ntmps24
    go_upto_region 2 with fail
    go_region_with (fail)
    all_goals clear hcv
    all_goals go_wp2
    all_goals go_ret
    all_goals exact ⟨by rw [← HE.out]; rfl, (Below.refl _ w).drew⟩
  | true =>
    rw [hb] at hq
    have HE : Hid ((4 : Int) = (hfE l : Int)) := by
      show _ = _
      unfold hfE
      rw [if_neg (by rw [hb]; decide), if_pos (by rw [← HL.out]; omega)]
      rfl
    clear hb
    go_enter Try.func24, Try.ntmps24
    go_upto_region 2 with fail
    go_region_with (fail)
    all_goals clear hcv
    all_goals go_wp2
    all_goals go_ret
    all_goals exact ⟨by rw [← HE.out]; rfl, (Below.refl _ w).drew⟩
theorem hf_long (a : Option Addr) (len cap : Nat) (l : List UInt8) (w : World) (hl : Bys w a len l) (hlc : len ≤ cap) (hm : cap ≤ maxLen) (h4 : 4 < len) :
    Calls Try.prog 24 #[.slice a len cap] w fun e w' => e = .returned (.int .i64 (hfE l)) ∧ Below w.heap.size w w' := by
  have HZ : Hid (Bys w a len l) := hl
  have HL : Hid (len = l.length) := hl.1
  unfold maxLen at hm
  clear hl
  have hcv := conv_bys (cap := cap) (show Bys w.drew a 4 (l.take 4) from bys_take HZ.out 4 (by omega))
  have h4c : (4 : Int) ≤ (cap : Int) := by omega
  have h4' : (4 < (len : Int)) := by omega
  have hq := beg_long l (by rw [← HL.out]; exact h4)
  cases hb : beg l with
  | false =>
    rw [hb] at hq
    have HE : Hid ((3 : Int) = (hfE l : Int)) := by
      show _ = _
      unfold hfE
      rw [if_pos hb]
      rfl
    clear hb
    go_enter Try.func24, Try.ntmps24
    go_upto_region 2 with fail
    go_region_with (fail)
    all_goals clear hcv
    all_goals go_wp2
    all_goals go_ret
    all_goals exact ⟨by rw [← HE.out]; rfl, (Below.refl _ w).drew⟩
  | true =>
    rw [hb] at hq
    by_cases h20 : len < 20
    · have hd : decide ((len : Int) < 20) = true := decide_eq_true (by omega)
      have HE : Hid ((4 : Int) = (hfE l : Int)) := by
        show _ = _
        unfold hfE
        rw [if_neg (by rw [hb]; decide), if_pos (by rw [← HL.out]; omega)]
        rfl
      clear hb
      go_enter Try.func24, Try.ntmps24
      go_upto_region 2 with fail
      go_region_with (fail)
      all_goals clear hcv
      all_goals go_wp2
      all_goals go_ret
      all_goals exact ⟨by rw [← HE.out]; rfl, (Below.refl _ w).drew⟩
    · have hd : decide ((len : Int) < 20) = false := decide_eq_false (by omega)
      obtain ⟨b, off, rfl, hX, hY⟩ := HZ.out.2 (by omega)
      clear hX hY
      obtain ⟨n, HN⟩ : ∃ n, Hid (n = val (cut l 4 8)) := ⟨_, rfl⟩
      obtain ⟨q, HQ⟩ : ∃ q, Hid (q = val (cut l 8 16)) := ⟨_, rfl⟩
      have HV1 : Hid (Bys w.drew (some ⟨b, off + 4, none⟩) 4 (cut l 4 8)) := bys_cut HZ.out 4 8 (by omega) (by omega) _ (fun _ b' off' e => by cases e; rfl)
      have HV2 : Hid (Bys w.drew (some ⟨b, off + 8, none⟩) 8 (cut l 8 16)) := bys_cut HZ.out 8 16 (by omega) (by omega) _ (fun _ b' off' e => by cases e; rfl)
      have HE : Hid (hfE l = if val (cut l 4 8) > most then 5 else if val (cut l 8 16) < 1 ∨ val (cut l 8 16) > maxSeq then 1 else 0) := by
        show _ = _
        unfold hfE
        rw [if_neg (by rw [hb]; decide), if_neg (by rw [← HL.out]; omega)]
      unfold most maxSeq at HE
      rw [← HN.out, ← HQ.out] at HE
      have hn1 : n < 4294967296 := by
        rw [HN.out]; have := val_lt (cut l 4 8); rw [HV1.out.1.symm] at this; exact this
      have hq1 : q < 18446744073709551616 := by
        rw [HQ.out]; have := val_lt (cut l 8 16); rw [HV2.out.1.symm] at this; exact this
      clear hb
      go_enter Try.func24, Try.ntmps24
      go_upto_region 2 with fail
      go_region_with (fail)
      all_goals clear hcv
      go_wp2_with fail
      refine (number_any _ _ _ _ _ HV1.out (by decide)).mono ?_
      rintro e w' ⟨rfl, rfl⟩
      rw [← HN.out]
      by_cases hA : 262144 < n
      · have hA' : decide ((262144 : Int) < (n : Int)) = true := decide_eq_true (by omega)
        have HF : Hid ((5 : Int) = (hfE l : Int)) := by show _ = _; rw [HE.out, if_pos hA]; rfl
        clear HE hA
        go_wp2
        go_ret
        exact ⟨by rw [← HF.out]; rfl, (Below.refl _ w).drew⟩
      have hA' : decide ((262144 : Int) < (n : Int)) = false := decide_eq_false (by omega)
      go_wp2_with fail
      refine (number_any _ _ _ _ _ HV2.out (by decide)).mono ?_
      rintro e w' ⟨rfl, rfl⟩
      rw [← HQ.out]
      by_cases hB : q < 1
      · have hB' : decide ((q : Int) < 1) = true := decide_eq_true (by omega)
        have HF : Hid ((1 : Int) = (hfE l : Int)) := by show _ = _; rw [HE.out, if_neg hA, if_pos (.inl hB)]; rfl
        clear HE hA hB
        go_wp2
        go_ret
        exact ⟨by rw [← HF.out]; rfl, (Below.refl _ w).drew⟩
      have hB' : decide ((q : Int) < 1) = false := decide_eq_false (by omega)
      by_cases hC : 4611686018427387904 < q
      · have hC' : decide ((4611686018427387904 : Int) < (q : Int)) = true := decide_eq_true (by omega)
        have HF : Hid ((1 : Int) = (hfE l : Int)) := by show _ = _; rw [HE.out, if_neg hA, if_pos (.inr hC)]; rfl
        clear HE hA hB hC
        go_wp2
        go_ret
        exact ⟨by rw [← HF.out]; rfl, (Below.refl _ w).drew⟩
      have hC' : decide ((4611686018427387904 : Int) < (q : Int)) = false := decide_eq_false (by omega)
      have HF : Hid ((0 : Int) = (hfE l : Int)) := by show _ = _; rw [HE.out, if_neg hA, if_neg (by omega)]; rfl
      clear HE hA hB hC
      go_wp2
      go_ret
      exact ⟨by rw [← HF.out]; rfl, (Below.refl _ w).drew⟩
theorem headFault_any (a : Option Addr) (len cap : Nat) (l : List UInt8) (w : World) (hl : Bys w a len l) (hlc : len ≤ cap) (hm : cap ≤ maxLen) :
    Calls Try.prog 24 #[.slice a len cap] w fun e w' => e = .returned (.int .i64 (hfE l)) ∧ Below w.heap.size w w' := by
  by_cases h : len ≤ 4
  · exact hf_short a len cap l w hl hlc hm h
  · exact hf_long a len cap l w hl hlc hm (by omega)

end Go.Proofs.Ythmoapigjafijaa.Frm
