/- utf.Encode, by its contract, and the law's own probe 'alive': it answers true. -/
import Derived.Test.YtkhaecinjllgiabUtfEnc
namespace Go.Proofs.Ytkhaecinjllgiab.Utf
open Go.RowKit
set_option linter.unusedSimpArgs false
set_option linter.unusedVariables false

theorem conv_own {w : World} {base n : Nat} {v : Value} {xs : List Int} (h : w.ownsRow base 5 1 v n (xs.map (Value.int .u8))) :
    (convert 42 9 v).run Try.prog w = .ok (.string (strOfNums xs)) w := by
  obtain ⟨hl, h⟩ := h
  rcases h with ⟨rfl, rfl⟩ | ⟨g, cap, cur, rfl, hb, hg, hn, hm, hs, ht⟩
  · have e : xs = [] := by simpa using hl
    subst e
    exact run_convert_bytes_nil w 42 5 Try.underlying42 Try.underlying5 0 0 9 Try.underlying9
  · have hx : xs.length = n := by simpa using hl
    refine run_convert_bytes_arg w 42 5 Try.underlying42 Try.underlying5 g 0 n cap xs hx ?_ 9 Try.underlying9
    intro i hi
    rw [Nat.zero_add, cell_of_row w g i cur 5 (0, 0) hg]
    have h1 : (cur.toList.take (n * 1))[i]? = some (.int .u8 (xs.getD i 0)) := by
      rw [ht, List.getElem?_map, List.getD_eq_getElem?_getD, List.getElem?_eq_getElem (by omega)]; rfl
    rw [List.getElem?_take, if_pos (by omega)] at h1
    simpa using h1

theorem encode_no (a : Option Addr) (len cap : Nat) (zs : List Int) (w : World) (hz : Ints w a len zs) (hl : len ≤ 17592186044416) (hs : allS zs = false) :
    Calls Try.prog 9 #[.slice a len cap] w fun e w' => e = .returned (.tuple #[.string ⟨#[]⟩, .int .i64 8]) ∧ w = w' := by
  have HZ : Hid (Ints w a len zs) := hz
  clear hz
  go_enter Try.func9, Try.ntmps9
  go_wp2_with (first | (go_at_call 15; refine (areSigns_any _ _ _ zs _ HZ.out hl).mono ?_; rintro e w' ⟨rfl, rfl⟩))
  go_ret2
  exact ⟨rfl, rfl⟩

theorem encode_yes (a : Option Addr) (len cap : Nat) (zs : List Int) (w : World) (hz : Ints w a len zs) (hl : len ≤ 17592186044416) (hs : allS zs = true) :
    Calls Try.prog 9 #[.slice a len cap] w fun e w' => e = .returned (.tuple #[.string (strOfNums (bytes zs)), .int .i64 0]) ∧ Below w.heap.size w w' := by
  have HZ : Hid (Ints w a len zs) := hz
  clear hz
  go_enter Try.func9, Try.ntmps9
  go_wp2_with (first | (go_at_call 15; refine (areSigns_any _ _ _ zs _ HZ.out hl).mono ?_; rintro e w' ⟨rfl, rfl⟩) | (go_at_call 16; refine (appendSigns_any _ _ _ zs _ HZ.out hl hs).mono ?_; rintro e w' ⟨v, rfl, hown, hbe⟩; have hcv := conv_own hown; clear hown))
  go_ret2
  exact ⟨rfl, hbe⟩

def encS (zs : List Int) : ByteArray := if allS zs = true then strOfNums (bytes zs) else ⟨#[]⟩
def encE (zs : List Int) : Int := if allS zs = true then 0 else 8
theorem encode_any (a : Option Addr) (len cap : Nat) (zs : List Int) (w : World) (hz : Ints w a len zs) (hl : len ≤ 17592186044416) :
    Calls Try.prog 9 #[.slice a len cap] w fun e w' => e = .returned (.tuple #[.string (encS zs), .int .i64 (encE zs)]) ∧ Below w.heap.size w w' := by
  unfold encS encE
  cases hs : allS zs
  · refine (encode_no a len cap zs w hz hl hs).mono ?_
    rintro e w' ⟨rfl, rfl⟩
    exact ⟨by simp, Below.refl _ _⟩
  · refine (encode_yes a len cap zs w hz hl hs).mono ?_
    rintro e w' ⟨rfl, hb⟩
    exact ⟨by simp, hb⟩
theorem encE_no {zs : List Int} (h : allS zs = false) : encE zs = 8 := by unfold encE; rw [h]; rfl
theorem encE_yes {zs : List Int} (h : allS zs = true) : encE zs = 0 := by unfold encE; rw [h]; rfl
theorem encS_no {zs : List Int} (h : allS zs = false) : encS zs = ⟨#[]⟩ := by unfold encS; rw [h]; rfl
theorem encS_yes {zs : List Int} (h : allS zs = true) : encS zs = strOfNums (bytes zs) := by unfold encS; rw [h]; rfl

theorem ints_one (w : World) (n : Int) (t : TypeId) : Ints (w.alloc (.cells #[.int .i64 n] t)) (some ⟨w.heap.size, 0, none⟩) 1 [n] := by
  refine ⟨rfl, fun _ => ⟨_, _, rfl, by simp, ?_⟩⟩
  intro i hi
  obtain rfl : i = 0 := by omega
  rw [cell_of_row _ w.heap.size (0 + 0) #[.int .i64 n] t (0, 0) (heap_alloc_new w _)]
  rfl

theorem euro : strOfNums (bytes [8364]) = ⟨#[226, 130, 172]⟩ := by decide +kernel
theorem euro_first : fst ((⟨#[226, 130, 172]⟩ ++ ⟨#[97]⟩ : ByteArray)).data.toList = (8364, 3) := by decide +kernel
theorem prn97 : prn 97 = true := by decide +kernel
theorem prn0 : prn 0 = false := by decide +kernel

theorem alive_any (w : World) : Calls Try.prog 5 #[] w fun e w' => e = .returned (.bool true) ∧ Below w.heap.size w w' := by
  have hp1 := prn97
  have hp0 := prn0
  go_enter Try.func5, Try.ntmps5
  go_wp2_with fail
  refine (encode_yes _ _ _ [8364] _ (ints_one _ _ _) (by decide) (by decide)).mono ?_
  rintro e w1 ⟨rfl, hb1⟩
  rw [euro]
  go_wp2_with fail
  refine (first_any _ _ (by decide +kernel)).mono ?_
  rintro e w2 ⟨rfl, rfl⟩
  rw [euro_first]
  go_wp2_with (first | (go_at_call 10; refine (printable_any _ _).mono ?_; rintro e w' ⟨rfl, rfl⟩))
  go_ret
  exact ⟨rfl, ((Below.refl _ _).alloc (Nat.le_refl _) _).trans (hb1.mono (by simp))⟩

end Go.Proofs.Ytkhaecinjllgiab.Utf
