/- The law UtfBack: it answers true. -/
import Derived.Test.YtkhaecinjllgiaaUtfInts
import Derived.Test.YtkhaecinjllgiaaUtfAlive
namespace Go.Proofs.Ytkhaecinjllgiaa.Utf
open Go.RowKit
set_option linter.unusedSimpArgs false
set_option linter.unusedVariables false


theorem strOf_list (l : List Int) : (strOfNums l).data.toList = u8s l := rfl

set_option maxHeartbeats 1000000 in
theorem back_no (a : Option Addr) (len cap : Nat) (zs : List Int) (w : World) (hz : Ints w a len zs) (hl : len ≤ 17592186044416) (hs : allS zs = false) :
    Calls Try.prog 6 #[.slice a len cap] w fun e w' => e = .returned (.bool true) ∧ Below w.heap.size w w' := by
  have HZ : Hid (Ints w a len zs) := hz
  clear hz
  have h1 : encE zs = 8 := encE_no hs
  have h2 : encS zs = ⟨#[]⟩ := encS_no hs
  clear hs
  go_enter Try.func6, Try.ntmps6
  go_wp2_with fail
  refine (encode_any _ _ _ zs _ HZ.out hl).mono ?_
  rintro e w1 ⟨rfl, hb1⟩
  go_wp2_with (first | (go_at_call 11; refine (alive_any _).mono ?_; rintro e w3 ⟨rfl, hb3⟩))
  go_ret
  exact ⟨rfl, hb1.trans (hb3.mono hb1.size)⟩

set_option maxHeartbeats 1000000 in
theorem back_yes (a : Option Addr) (len cap : Nat) (zs : List Int) (w : World) (hz : Ints w a len zs) (hl : len ≤ 17592186044416) (hs : allS zs = true) :
    Calls Try.prog 6 #[.slice a len cap] w fun e w' => e = .returned (.bool true) ∧ Below w.heap.size w w' := by
  have HZ : Hid (Ints w a len zs) := hz
  have hlen := hz.1
  clear hz
  have h1 : encE zs = 0 := encE_yes hs
  obtain ⟨d1, d2⟩ := dec_enc zs hs
  rw [← strOf_list, ← encS_yes hs] at d1 d2
  have hsz : (encS zs).size ≤ 4 * len := by rw [encS_yes hs, strOfNums_size]; have := bytes_len zs; omega
  obtain ⟨s, hes⟩ : ∃ s, encS zs = s := ⟨_, rfl⟩
  rw [hes] at d1 d2 hsz
  have HD : Hid (dec s.data.toList = (zs, none)) := d1
  have HC : Hid (cnt s.data.toList = zs.length) := d2
  have HL : Hid (len = zs.length) := hlen
  clear d1 d2 hs hlen
  go_enter Try.func6, Try.ntmps6
  go_wp2_with fail
  refine (encode_any _ _ _ zs _ HZ.out hl).mono ?_
  rintro e w1 ⟨rfl, hb1⟩
  go_wp2_with fail
  refine (decode_any s _ (by omega) (by rw [HD.out]; rw [← HL.out]; exact hl)).mono ?_
  rintro e w2 ⟨v, rfl, hown, hb2⟩
  rw [HD.out]
  have e2 : decXs s.data.toList = zs := by unfold decXs; rw [HD.out]; rfl
  rw [e2] at hown
  obtain ⟨a2, cap2, rfl, hi2⟩ := ints_of_own hown
  rw [← HL.out] at hi2 ⊢
  clear hown e2
  have hwn : why none = 0 := rfl
  have hpn : pos none = 0 := rfl
  have hbw : Below w.heap.size w w2 := hb1.trans (hb2.mono hb1.size)
  have hmx : s.size ≤ maxLen := by unfold maxLen; omega
  have hcc : cnt s.data.toList = len := by rw [HC.out, HL.out]
  clear hes h1 hb1 hb2
  go_wp2_with fail
  have hb3 : Below w2.heap.size w2 (w2.alloc (Obj.cells #[Value.int IntKind.i64 0, Value.int IntKind.i64 0] 31)) := (Below.refl _ _).alloc (Nat.le_refl _) _
  refine (ints_same a2 a len cap2 cap zs _ (hi2.later hb3 (Nat.le_refl _)) ((HZ.out.later hbw (Nat.le_refl _)).later hb3 (Nat.le_refl _)) hl).mono ?_
  rintro e w4 ⟨rfl, hb4⟩
  go_wp2_with (first | (go_at_call 11; refine (alive_any _).mono ?_; rintro e w5 ⟨rfl, hb5⟩) | (go_at_call 21; refine (count_any _ _ hmx).mono ?_; rintro e w' ⟨rfl, rfl⟩))
  go_ret
  refine ⟨rfl, ?_⟩
  have s3 := hb3.size
  have s4 := hb4.size
  have s2 := hbw.size
  exact ((hbw.trans (hb3.mono s2)).trans (hb4.mono (by omega))).trans (hb5.mono (by omega))

theorem back_walk (a : Option Addr) (len cap : Nat) (zs : List Int) (w : World) (h : Ints w a len zs ∧ len * 8 ≤ 140737488351232) :
    Calls Try.prog 6 #[.slice a len cap] w fun e w' => e = .returned (.bool true) ∧ Below w.heap.size w w' := by
  cases hs : allS zs
  · exact back_no a len cap zs w h.1 (by omega) hs
  · exact back_yes a len cap zs w h.1 (by omega) hs

end Go.Proofs.Ytkhaecinjllgiaa.Utf
