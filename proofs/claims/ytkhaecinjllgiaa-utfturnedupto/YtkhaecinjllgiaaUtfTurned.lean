/- The law UtfTurned, of texts that are not too long: it answers true. -/
import Derived.Test.YtkhaecinjllgiaaUtfBack
namespace Go.Proofs.Ytkhaecinjllgiaa.Utf
open Go.RowKit
set_option linter.unusedSimpArgs false
set_option linter.unusedVariables false

theorem turned_bad (s : ByteArray) (w : World) (hs : s.size ≤ 1048576) (p : Nat) (hd : (dec s.data.toList).2 = some p) :
    Calls Try.prog 7 #[.string s] w fun e w' => e = .returned (.bool true) ∧ Below w.heap.size w w' := by
  have hl := len_data s
  have hdl := dec_len s.data.toList.length s.data.toList (Nat.le_refl _)
  have hp := (dec_sound s.data.toList.length s.data.toList (Nat.le_refl _)).2 p hd
  have hx : decXs s.data.toList = [] := by unfold decXs; rw [hd]; rfl
  have HX : Hid (decXs s.data.toList = []) := hx
  have HD : Hid ((dec s.data.toList).2 = some p) := hd
  have hps : (p : Int) < s.size := by omega
  have hlen : Hid ((dec s.data.toList).1.length ≤ 17592186044416) := by unfold Hid; omega
  clear hl hdl hp hx hd
  go_enter Try.func7, Try.ntmps7
  go_wp2_with fail
  refine (decode_any s _ (by omega) hlen.out).mono ?_
  rintro e w2 ⟨v, rfl, hown, hb2⟩
  rw [HD.out]
  rw [HX.out] at hown
  obtain ⟨a2, cap2, rfl, hi2⟩ := ints_of_own (zs := []) hown
  clear hown hi2
  have hwn : why (some p) = 8 := rfl
  have hpn : pos (some p) = p := rfl
  go_wp2_with (first | (go_at_call 11; refine (alive_any _).mono ?_; rintro e w5 ⟨rfl, hb5⟩))
  go_ret
  refine ⟨rfl, ?_⟩
  have s2 := hb2.size
  exact (hb2.alloc s2 _).trans (hb5.mono (by simp; omega))

theorem turned_good (s : ByteArray) (w : World) (hs : s.size ≤ 1048576) (hd : (dec s.data.toList).2 = none) :
    Calls Try.prog 7 #[.string s] w fun e w' => e = .returned (.bool true) ∧ Below w.heap.size w w' := by
  have hl := len_data s
  have hdl := dec_len s.data.toList.length s.data.toList (Nat.le_refl _)
  obtain ⟨d1, d2⟩ := (dec_sound s.data.toList.length s.data.toList (Nat.le_refl _)).1 hd
  obtain ⟨zs, hzs⟩ : ∃ zs, zs = (dec s.data.toList).1 := ⟨_, rfl⟩
  rw [← hzs] at d1 d2 hdl
  have hx : decXs s.data.toList = zs := by unfold decXs; rw [hd, hzs]; rfl
  have HX : Hid (decXs s.data.toList = zs) := hx
  have HD : Hid ((dec s.data.toList).2 = none) := hd
  have h1 : encE zs = 0 := encE_yes d1
  have h2 : encS zs = s := by
    rw [encS_yes d1]
    have e : strOfNums (bytes zs) = ⟨(u8s (bytes zs)).toArray⟩ := rfl
    rw [e, d2]
  have hzl : zs.length ≤ 1048576 := by omega
  have hlen : Hid ((dec s.data.toList).1.length ≤ 17592186044416) := by unfold Hid; rw [← hzs]; omega
  clear hl hdl d1 d2 hx hd hzs
  go_enter Try.func7, Try.ntmps7
  go_wp2_with fail
  refine (decode_any s _ (by omega) hlen.out).mono ?_
  rintro e w2 ⟨v, rfl, hown, hb2⟩
  rw [HD.out]
  rw [HX.out] at hown
  obtain ⟨a2, cap2, rfl, hi2⟩ := ints_of_own hown
  clear hown
  have hwn : why none = 0 := rfl
  have hpn : pos none = 0 := rfl
  go_wp2_with fail
  have hb3 : Below w2.heap.size w2 (w2.alloc (Obj.cells #[Value.int IntKind.i64 0, Value.int IntKind.i64 0] 31)) := (Below.refl _ _).alloc (Nat.le_refl _) _
  refine (encode_any _ _ _ zs _ (hi2.later hb3 (Nat.le_refl _)) (by omega)).mono ?_
  rintro e w4 ⟨rfl, hb4⟩
  go_wp2_with (first | (go_at_call 11; refine (alive_any _).mono ?_; rintro e w5 ⟨rfl, hb5⟩))
  go_ret
  refine ⟨rfl, ?_⟩
  have s3 := hb3.size
  have s4 := hb4.size
  have s2 := hb2.size
  exact ((hb2.trans (hb3.mono s2)).trans (hb4.mono (by omega))).trans (hb5.mono (by omega))

theorem turned_walk (s : ByteArray) (w : World) (hs : s.size ≤ 1048576) : Calls Try.prog 7 #[.string s] w fun e w' => e = .returned (.bool true) ∧ Below w.heap.size w w' := by
  cases h : (dec s.data.toList).2 with
  | none => exact turned_good s w hs h
  | some p => exact turned_bad s w hs p h

end Go.Proofs.Ytkhaecinjllgiaa.Utf
