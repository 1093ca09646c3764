/- quote.stands, quote.Simple, (*quote.builder).putSign, by their contracts. -/
import Derived.Test.YtiipndfogofhgaaDoorQuoteBld
import Derived.Test.YtiipndfogofhgaaDoorQuotePlain3
import Derived.Test.YtiipndfogofhgaaDoorUtfEncd
import Derived.Test.YtiipndfogofhgaaDoorUtfAt
namespace Go.Proofs.YtiipndfogofhgaaDoor.Quo
open Utf Rws
open Go.RowKit
set_option linter.unusedSimpArgs false
set_option linter.unusedVariables false
set_option maxRecDepth 100000

theorem stands_any (n : Int) (w : World) : Calls Tryd.prog 32 #[.int .i64 n] w fun e w' => e = .returned (.bool (may n)) ∧ w = w' := by
  have HM : Hid (may n = (prn n && !(n == 9) && !(n == 10) && !(n == 13))) := rfl
  cases c1 : (n == 9)
  · cases c2 : (n == 10)
    · cases c3 : (n == 13)
      · go_enter Tryd.func32, Tryd.ntmps32
        go_wp2_with (first | (go_at_call 33; refine (printable_any _ _).mono ?_; rintro e w' ⟨rfl, rfl⟩))
        go_ret
        exact ⟨by rw [HM.out, c1, c2, c3]; simp, rfl⟩
      · go_enter Tryd.func32, Tryd.ntmps32
        go_wp2
        go_ret
        exact ⟨by rw [HM.out, c3]; simp, rfl⟩
    · go_enter Tryd.func32, Tryd.ntmps32
      go_wp2
      go_ret
      exact ⟨by rw [HM.out, c2]; simp, rfl⟩
  · go_enter Tryd.func32, Tryd.ntmps32
    go_wp2
    go_ret
    exact ⟨by rw [HM.out, c1]; simp, rfl⟩

/-! ### Simple, a sign at a time -/
theorem smp_nil : smp [] = true := rfl
theorem smp_next {l : List UInt8} (h : l ≠ []) : smp l = (may (fst l).1 && smp (l.drop (fk l))) := by
  unfold smp
  by_cases hn : (fst l).1 < 0
  · rw [dec_bad l h hn]
    have e : may (fst l).1 = false := by
      cases h : may (fst l).1
      · rfl
      · have := may_fst h; omega
    rw [e]; simp
  · rw [dec_next l h hn]
    simp only [List.all_cons, Option.isNone_map]
    rw [Bool.and_assoc]
theorem simple_any (l : List UInt8) (w : World) (hs : l.length ≤ 9223372036854775000) : Calls Tryd.prog 16 #[.string (mk l)] w fun e w' => e = .returned (.bool (smp l)) ∧ w = w' := by
  have hs' : (mk l).size ≤ maxLen := by rw [mk_size]; unfold maxLen; omega
  have hsz := mk_size l
  have HS : Hid ((mk l).size = l.length) := hsz
  have HD : Hid ((mk l).data.toList = l) := mk_data l
  obtain ⟨N, hN⟩ : ∃ N, N = l.length := ⟨_, rfl⟩
  rw [← hN] at hsz hs
  have HN : Hid (N = l.length) := hN
  clear hN
  go_enter Tryd.func16, Tryd.ntmps16
  go_wp2
  go_loop [3] (fun i => ∃ p : Nat, p ≤ N ∧ i = .int .i64 p ∧ smp l = smp (l.drop p)) (fun i => N - (intOf i).toNat)
  case atStart => exact ⟨0, Nat.zero_le _, rfl, by simp⟩
  case round =>
    obtain ⟨p, hp, rfl, hc⟩ := hrel
    have HC : Hid (smp l = smp (l.drop p)) := hc
    clear hc
    by_cases hlt : p < N
    · have hne : l.drop p ≠ [] := by intro e; have := congrArg List.length e; rw [List.length_drop, ← HN.out] at this; simp at this; omega
      have hf := fk_pos _ hne
      have hcn := smp_next hne
      rw [List.drop_drop] at hcn
      rw [List.length_drop, ← HN.out] at hf
      obtain ⟨f1, f2, f3, f4⟩ := hf
      obtain ⟨n, hn⟩ : ∃ n, n = (fst (l.drop p)).1 := ⟨_, rfl⟩
      obtain ⟨k, hk⟩ : ∃ k, k = fk (l.drop p) := ⟨_, rfl⟩
      have hF : Hid (∀ w, Calls Tryd.prog 20 #[.string ((mk l).extract p (mk l).size)] w fun e w' => e = .returned (.tuple #[.int .i64 n, .int .i64 (k : Int)]) ∧ w = w') := fun w => by
        have h := firstAt_any (mk l) p w hs'
        rw [mk_data, ← f4, ← hn, ← hk] at h
        exact h
      rw [hsz] at hF
      rw [← hk] at f1 f2 f3 hcn
      rw [← hn] at hcn
      clear f4 hn hk hne
      cases hm : may n
      · rw [hm] at hcn
        have HX : Hid (smp l = false) := by rw [HC.out, hcn]; rfl
        clear hcn
        go_wp2_with (first | (go_at_call 20; refine (hF.out _).mono ?_; rintro e w' ⟨rfl, rfl⟩) | (go_at_call 32; refine (stands_any _ _).mono ?_; rintro e w' ⟨rfl, rfl⟩))
        go_ret
        exact ⟨by rw [HX.out]; rfl, rfl⟩
      · rw [hm] at hcn
        have HX : Hid (smp l = smp (l.drop (p + k))) := by rw [HC.out, hcn]; rfl
        clear hcn
        go_wp2_with (first | (go_at_call 20; refine (hF.out _).mono ?_; rintro e w' ⟨rfl, rfl⟩) | (go_at_call 32; refine (stands_any _ _).mono ?_; rintro e w' ⟨rfl, rfl⟩))
        go_round
        case rel => exact ⟨p + k, by omega, by go_num, HX.out⟩
        case measure => simp [intOf]; omega
    · have HX : Hid (smp l = true) := by rw [HC.out, List.drop_of_length_le (by rw [← HN.out]; omega)]; rfl
      go_wp2
      go_ret
      exact ⟨by rw [HX.out]; rfl, rfl⟩

/-! ### putSign -/
theorem str_u8s (l : List Int) : strOfNums l = mk (u8s l) := rfl
theorem bytes_one (n : Int) : Utf.bytes [n] = byt n := by simp [Utf.bytes]
theorem allS_one (n : Int) : allS [n] = sgn n := by simp [allS]
theorem cells_app (a b : List UInt8) : Lib.byteCells (a ++ b) = Lib.byteCells a ++ Lib.byteCells b := by simp [Lib.byteCells]
theorem strCells_mk (l : List UInt8) : Lib.strCells (mk l) = Lib.byteCells l := rfl
/-- what putSign builds on -/
def sgb (n : Int) : List UInt8 := if sgn n = true then u8s (byt n) else []
theorem sgb_len (n : Int) : (sgb n).length ≤ 4 := by
  unfold sgb; split
  · simp [u8s]; exact (byt_len n).2
  · simp

variable {T : TypeId} {B b : Nat} {tl : List Value} {w : World}
theorem putSign_any (hT : Emb T (tl.length + 2)) (n : Int) (out : List UInt8) (h : Bld T B b tl (Lib.byteCells out) w) (hlen : out.length + 4 ≤ 140737488355328) (hBw : B ≤ w.heap.size) :
    Calls Tryd.prog 50 #[.pointer (some ⟨b, 0, none⟩), .int .i64 n] w fun e w' => e = .returned (.bool (sgn n)) ∧ (Bld T B b tl (Lib.byteCells (out ++ sgb n)) w' ∧ Below B w w' ∧ Lib.OthersKept 5 (some b) w w') := by
  have HE := encode_any (some ⟨w.heap.size, 0, none⟩) 1 1 [n] (w.alloc (.cells #[.int .i64 n] 3)) (ints_one w n 3) (by decide)
  have hb0 : Below w.heap.size w (w.alloc (.cells #[.int .i64 n] 3)) := (Below.refl _ _).alloc (Nat.le_refl _) _
  have hsl := sgb_len n
  have e1 : encS [n] = mk (sgb n) := by
    unfold encS sgb
    rw [allS_one, bytes_one]
    split <;> rfl
  have e2 : (encE [n] == 0) = sgn n := by
    unfold encE
    rw [allS_one]
    cases sgn n <;> rfl
  obtain ⟨E, hE⟩ : ∃ E, E = encE [n] := ⟨_, rfl⟩
  obtain ⟨S, hS⟩ : ∃ S, S = sgb n := ⟨_, rfl⟩
  obtain ⟨V, hV⟩ : ∃ V, V = sgn n := ⟨_, rfl⟩
  rw [e1, ← hE, ← hS] at HE
  rw [← hE, ← hV] at e2
  rw [← hS, ← hV]
  rw [← hS] at hsl
  clear e1 hE hS hV
  have HC : Hid (Calls Tryd.prog 63 #[.slice (some ⟨w.heap.size, 0, none⟩) 1 1] (w.alloc (.cells #[.int .i64 n] 3)) fun e w' => e = .returned (.tuple #[.string (mk S), .int .i64 E]) ∧ Below w.heap.size w w' ∧ Bld T B b tl (Lib.byteCells out) w') := HE.mono (by
    rintro e w' ⟨h1, h2⟩
    have h3 : Below w.heap.size w w' := hb0.trans (h2.mono (by simp))
    exact ⟨h1, h3, h.later h3⟩)
  clear HE hb0 h
  have HT : Hid (Emb T (tl.length + 2)) := hT
  clear hT
  go_enter Tryd.func50, Tryd.ntmps50
  go_wp2_with (first | (go_at_call 63; refine HC.out.mono ?_; rintro e w1 ⟨rfl, hb1, hB1⟩) | (go_at_call 60; refine (writeString_any HT.out (mk S) hB1 (by rw [cells_len, mk_size]; omega) (by have := hb1.size; omega)).mono ?_; rintro e w2 ⟨rfl, hB2, hb2, hk2⟩))
  go_ret
  rw [strCells_mk, ← cells_app] at hB2
  exact ⟨rfl, hB2, (hb1.mono hBw).trans hb2, (kept_of_below hb1).trans hk2⟩

end Go.Proofs.YtiipndfogofhgaaDoor.Quo
