/- The law QuoteDouble: it answers true. -/
import Derived.Test.YtiipndfogofhgaaDoorQuoteAlive
import Derived.Test.YtiipndfogofhgaaDoorUtfChk
namespace Go.Proofs.YtiipndfogofhgaaDoor.Quo
open Utf Rws
open Go.RowKit
set_option linter.unusedSimpArgs false
set_option linter.unusedVariables false
set_option maxRecDepth 100000

theorem cat_mk2 (a b : List UInt8) : mk a ++ mk b = mk (a ++ b) := by
  apply ByteArray.ext
  apply Array.ext'
  simp [mk]
theorem dbl_len (l : List UInt8) : (dbl l).length ≤ 10 * l.length + 2 := by
  unfold dbl
  have h1 := escs_le (dec l).1
  have h2 := dec_len l.length l (Nat.le_refl _)
  simp only [List.length_cons, List.length_append, List.length_nil]
  omega
set_option maxHeartbeats 1000000 in
theorem double_walk (s rest : ByteArray) (w : World) (hs : s.size ≤ 1048576) (hr : rest.size ≤ 1048576) (hT : Tabs w) :
    Calls Tryd.prog 6 #[.string s, .string rest] w fun e w' => e = .returned (.bool true) ∧ Below w.heap.size w w' := by
  obtain ⟨l, rfl⟩ := mk_ex s
  obtain ⟨r, rfl⟩ := mk_ex rest
  rw [mk_size] at hs hr
  have hDB := double_any l w (by omega) hT
  have hdl := dec_len l.length l (Nat.le_refl _)
  have HT : Hid (Tabs w) := hT
  clear hT
  cases hd : (dec l).2 with
  | some p =>
    have HDB : Hid (Calls Tryd.prog 14 #[.string (mk l)] w fun e w' => e = .returned (.tuple #[.string ⟨#[]⟩, .int .i64 8]) ∧ Below w.heap.size w w') := by
      rw [dblS_no (by rw [hd]; simp), dblE_no (by rw [hd]; simp)] at hDB; exact hDB
    have HDC : Hid (∀ w, Calls Tryd.prog 18 #[.string (mk l)] w fun e w' => ∃ a len cap, e = .returned (.tuple #[.slice a len cap, .agg #[.int .i64 8, .int .i64 (p : Int)]]) ∧ Below w.heap.size w w') := fun w => by
      have q := decode_any (mk l) w (by rw [mk_size]; omega) (by rw [mk_data]; omega)
      rw [mk_data] at q
      refine q.mono ?_
      rintro e w' ⟨v, h1, h2, h3⟩
      rw [hd] at h1
      obtain ⟨a, cap, rfl, _⟩ := ints_of_own h2
      exact ⟨a, _, cap, h1, h3⟩
    have hne := neq_fault 8 0 (p : Int) 0
    have hne' : ∀ w, (binOp .neq 24 (.agg #[.int .i64 8, .int .i64 (p : Int)]) (.agg #[.int .i64 0, .int .i64 0])).run Tryd.prog w = .ok (.bool true) w := fun w => by rw [hne]; simp
    clear hDB hd hne hdl
    go_enter Tryd.func6, Tryd.ntmps6
    go_wp2_with fail
    refine HDB.out.mono ?_
    rintro e w1 ⟨rfl, b1⟩
    go_wp2_with fail
    refine (HDC.out _).mono ?_
    rintro e w2 ⟨a, len, cap, rfl, b2⟩
    have b12 := b1.trans (b2.mono b1.size)
    have b3 : Below w2.heap.size w2 (w2.alloc (.cells #[.int .i64 8, .int .i64 (p : Int)] 24)) := below_alloc _ _
    have b13 := b12.trans (b3.mono b12.size)
    have HT3 : Hid (Tabs (w2.alloc (.cells #[.int .i64 8, .int .i64 (p : Int)] 24))) := HT.out.later b13
    have HB3 : Hid (Below w.heap.size w (w2.alloc (.cells #[.int .i64 8, .int .i64 (p : Int)] 24))) := b13
    clear b1 b2 b12 b3 b13
    go_wp2_with (first | (go_at_call 11; refine (alive_any _ HT3.out).mono ?_; rintro e w4 ⟨rfl, b4⟩))
    go_ret
    exact ⟨rfl, HB3.out.trans (b4.mono HB3.out.size)⟩
  | none =>
    obtain ⟨Q, hQ⟩ : ∃ Q, Q = dbl l := ⟨_, rfl⟩
    have hql := dbl_len l
    have HDB : Hid (Calls Tryd.prog 14 #[.string (mk l)] w fun e w' => e = .returned (.tuple #[.string (mk Q), .int .i64 0]) ∧ Below w.heap.size w w') := by
      rw [dblS_yes hd, dblE_yes hd, ← hQ] at hDB; exact hDB
    rw [← hQ] at hql
    have hrz := mk_size r
    have hQz : (mk Q).size = Q.length := mk_size Q
    have hrd := rd_double l r hd
    rw [← hQ] at hrd
    have hRD := fun w hT => read_any (Q ++ r) w (by rw [List.length_append]; omega) hT
    unfold rdV at hRD
    rw [hrd] at hRD
    have HRD : Hid (∀ w, Tabs w → Calls Tryd.prog 9 #[.string (mk Q ++ mk r)] w fun e w' => e = .returned (.tuple #[.string (mk l), .int .i64 (Q.length : Int), .agg #[.int .i64 0, .int .i64 0]]) ∧ Below w.heap.size w w') := fun w hT => by rw [cat_mk2]; exact hRD w hT
    have he := eql_fault 0 0 0 0
    have HCK : Hid (∀ w, Calls Tryd.prog 19 #[.string (mk Q)] w fun e w' => e = .returned (.agg #[.int .i64 0, .int .i64 0]) ∧ Below w.heap.size w w') := fun w => by
      have q := check_any (mk Q) w (by rw [mk_size]; unfold maxLen; omega)
      rw [mk_data, hQ, chk_dbl l hd] at q
      rw [hQ]
      exact q
    clear hDB hd hQ hrd hRD hdl
    go_enter Tryd.func6, Tryd.ntmps6
    go_wp2_with fail
    refine HDB.out.mono ?_
    rintro e w1 ⟨rfl, b1⟩
    go_wp2_with fail
    refine (HRD.out _ (HT.out.later b1)).mono ?_
    rintro e w2 ⟨rfl, b2⟩
    have b12 := b1.trans (b2.mono b1.size)
    have b3 : Below w2.heap.size w2 (w2.alloc (.cells #[.int .i64 0, .int .i64 0] 24)) := below_alloc _ _
    have b13 := b12.trans (b3.mono b12.size)
    have HB3 : Hid (Below w.heap.size w (w2.alloc (.cells #[.int .i64 0, .int .i64 0] 24))) := b13
    clear b1 b2 b12 b3 b13
    go_wp2_with fail
    refine (HCK.out _).mono ?_
    rintro e w3 ⟨rfl, b5⟩
    have b15 := HB3.out.trans (b5.mono HB3.out.size)
    have HT3 : Hid (Tabs w3) := HT.out.later b15
    have HB5 : Hid (Below w.heap.size w w3) := b15
    clear b5 b15
    go_wp2_with (first | (go_at_call 11; refine (alive_any _ HT3.out).mono ?_; rintro e w4 ⟨rfl, b4⟩))
    go_ret
    exact ⟨rfl, HB5.out.trans (b4.mono HB5.out.size)⟩

end Go.Proofs.YtiipndfogofhgaaDoor.Quo
