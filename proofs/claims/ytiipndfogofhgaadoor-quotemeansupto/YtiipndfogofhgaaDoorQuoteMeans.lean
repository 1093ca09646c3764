/- The law QuoteMeans: it answers true. -/
import Derived.Test.YtiipndfogofhgaaDoorQuoteAlive
namespace Go.Proofs.YtiipndfogofhgaaDoor.Quo
open Utf Rws
open Go.RowKit
set_option linter.unusedSimpArgs false
set_option linter.unusedVariables false
set_option maxRecDepth 100000

theorem dbl_len2 (l : List UInt8) : (dbl l).length ≤ 10 * l.length + 2 := by
  unfold dbl
  have h1 := escs_le (dec l).1
  have h2 := dec_len l.length l (Nat.le_refl _)
  simp only [List.length_cons, List.length_append, List.length_nil]
  omega
theorem rdF_olen (q : UInt8) : ∀ (f : Nat) (l : List UInt8) (at_ : Nat) (out : List UInt8), out.length ≤ at_ → (rdF q f l at_ out).1.length ≤ at_ + l.length
  | 0, l, at_, out, h => by simp [rdF]
  | f + 1, l, at_, out, h => by
    rw [rdF]
    by_cases h0 : (stp q l).1 = 0
    · rw [if_pos h0]; simp only; omega
    rw [if_neg h0]
    by_cases h1 : (stp q l).1 = 1
    · rw [if_pos h1]
      obtain ⟨n, _, _, h2, h3⟩ := stp_out h1
      have hle := stp_le h1
      have := rdF_olen q f (l.drop (stp q l).2.2) (at_ + (stp q l).2.2) (out ++ (stp q l).2.1) (by rw [List.length_append]; omega)
      rw [List.length_drop] at this
      omega
    rw [if_neg h1]
    split <;> simp
theorem rd_olen (l : List UInt8) : (rd l).1.length ≤ l.length := by
  unfold rd
  split
  · simp
  split
  · rename_i h _
    have h1 := rdF_olen (l.getD 0 0) l.length (l.drop 1) 1 [] (by simp)
    have : 0 < l.length := List.length_pos_iff.2 h
    rw [List.length_drop] at h1
    omega
  · simp

set_option maxHeartbeats 1000000 in
theorem means_walk (s : ByteArray) (w : World) (hs : s.size ≤ 1048576) (hT : Tabs w) :
    Calls Tryd.prog 8 #[.string s] w fun e w' => e = .returned (.bool true) ∧ Below w.heap.size w w' := by
  obtain ⟨l, rfl⟩ := mk_ex s
  rw [mk_size] at hs
  have hsz := mk_size l
  have hRD := fun w hT => read_any l w (by omega) hT
  unfold rdV at hRD
  have HT : Hid (Tabs w) := hT
  clear hT
  by_cases hz : (rd l).2.2.1 = 0
  · have hz2 := rd_zero l hz
    obtain ⟨m1, m2, m3⟩ := rd_means l hz
    have hol := rd_olen l
    rw [hz, hz2] at hRD
    generalize (rd l).2.1 = P at *
    generalize (rd l).1 = t at *
    have HRD : Hid (∀ w, Tabs w → Calls Tryd.prog 9 #[.string (mk l)] w fun e w' => e = .returned (.tuple #[.string (mk t), .int .i64 (P : Int), .agg #[.int .i64 0, .int .i64 0]]) ∧ Below w.heap.size w w') := hRD
    have hne := neq_fault 0 0 0 0
    have he := eql_fault 0 0 0 0
    obtain ⟨Q, hQ⟩ : ∃ Q, Q = dbl t := ⟨_, rfl⟩
    have hql := dbl_len2 t
    have HDB : Hid (∀ w, Tabs w → Calls Tryd.prog 14 #[.string (mk t)] w fun e w' => e = .returned (.tuple #[.string (mk Q), .int .i64 0]) ∧ Below w.heap.size w w') := fun w hT => by
      have q := double_any t w (by omega) hT
      rw [dblS_yes m1, dblE_yes m1, ← hQ] at q; exact q
    have hrd := rd_double t [] m1
    rw [List.append_nil, ← hQ] at hrd
    rw [← hQ] at hql
    have hR2 := fun w hT => read_any Q w (by omega) hT
    unfold rdV at hR2
    rw [hrd] at hR2
    have HR2 : Hid (∀ w, Tabs w → Calls Tryd.prog 9 #[.string (mk Q)] w fun e w' => e = .returned (.tuple #[.string (mk t), .int .i64 (Q.length : Int), .agg #[.int .i64 0, .int .i64 0]]) ∧ Below w.heap.size w w') := hR2
    have hQz : (mk Q).size = Q.length := mk_size Q
    clear hRD hz hz2 m1 hQ hrd hR2
    go_enter Tryd.func8, Tryd.ntmps8
    go_wp2_with fail
    refine (HRD.out _ HT.out).mono ?_
    rintro e w1 ⟨rfl, b1⟩
    have b2 : Below w1.heap.size w1 (w1.alloc (.cells #[.int .i64 0, .int .i64 0] 24)) := below_alloc _ _
    have b12 := b1.trans (b2.mono b1.size)
    have HB2 : Hid (Below w.heap.size w (w1.alloc (.cells #[.int .i64 0, .int .i64 0] 24))) := b12
    clear b1 b2 b12
    go_wp2_with fail
    refine (HDB.out _ (HT.out.later HB2.out)).mono ?_
    rintro e w3 ⟨rfl, b3⟩
    have HB3 : Hid (Below w.heap.size w w3) := HB2.out.trans (b3.mono HB2.out.size)
    clear b3 HB2
    go_wp2_with fail
    refine (HR2.out _ (HT.out.later HB3.out)).mono ?_
    rintro e w4 ⟨rfl, b4⟩
    have b5 : Below w4.heap.size w4 (w4.alloc (.cells #[.int .i64 0, .int .i64 0] 24)) := below_alloc _ _
    have b14 := HB3.out.trans (b4.mono HB3.out.size)
    have b15 := b14.trans (b5.mono b14.size)
    have HB5 : Hid (Below w.heap.size w (w4.alloc (.cells #[.int .i64 0, .int .i64 0] 24))) := b15
    have HT5 : Hid (Tabs (w4.alloc (.cells #[.int .i64 0, .int .i64 0] 24))) := HT.out.later b15
    clear b4 b5 b14 b15 HB3
    go_wp2_with (first | (go_at_call 11; refine (alive_any _ HT5.out).mono ?_; rintro e w6 ⟨rfl, b6⟩))
    go_ret
    exact ⟨rfl, HB5.out.trans (b6.mono HB5.out.size)⟩
  · obtain ⟨hO, hP⟩ := rd_none l hz
    rw [hO, hP] at hRD
    have hYn : ((rd l).2.2.1 : Int) ≠ 0 := by omega
    generalize ((rd l).2.2.1 : Int) = Y at *
    generalize ((rd l).2.2.2 : Int) = A at *
    have HRD : Hid (∀ w, Tabs w → Calls Tryd.prog 9 #[.string (mk l)] w fun e w' => e = .returned (.tuple #[.string ⟨#[]⟩, .int .i64 0, .agg #[.int .i64 Y, .int .i64 A]]) ∧ Below w.heap.size w w') := hRD
    have hne : ∀ w, (binOp .neq 24 (.agg #[.int .i64 Y, .int .i64 A]) (.agg #[.int .i64 0, .int .i64 0])).run Tryd.prog w = .ok (.bool true) w := fun w => by
      rw [neq_fault]
      have : (Y == 0) = false := by simpa using hYn
      rw [this]; rfl
    clear hRD hO hP hYn hz
    go_enter Tryd.func8, Tryd.ntmps8
    go_wp2_with fail
    refine (HRD.out _ HT.out).mono ?_
    rintro e w1 ⟨rfl, b1⟩
    have b2 : Below w1.heap.size w1 (w1.alloc (.cells #[.int .i64 Y, .int .i64 A] 24)) := below_alloc _ _
    have b12 := b1.trans (b2.mono b1.size)
    have HB2 : Hid (Below w.heap.size w (w1.alloc (.cells #[.int .i64 Y, .int .i64 A] 24))) := b12
    have HT2 : Hid (Tabs (w1.alloc (.cells #[.int .i64 Y, .int .i64 A] 24))) := HT.out.later b12
    clear b1 b2 b12
    go_wp2_with (first | (go_at_call 11; refine (alive_any _ HT2.out).mono ?_; rintro e w6 ⟨rfl, b6⟩))
    go_ret
    exact ⟨rfl, HB2.out.trans (b6.mono HB2.out.size)⟩

end Go.Proofs.YtiipndfogofhgaaDoor.Quo
