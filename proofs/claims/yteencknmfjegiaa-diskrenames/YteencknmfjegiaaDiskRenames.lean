/- The walk of DiskRenames: behind a loss the old file is there, or the young one, as a whole. -/
import Derived.Test.YteencknmfjegiaaDiskRen0
import Derived.Lib.ConvBytes
namespace Go.Proofs.Yteencknmfjegiaa.Dsk
open Go Go.RowKit Go.Maps
set_option linter.unusedSimpArgs false
set_option linter.unusedVariables false

theorem five_calls (m : M) (y : List UInt8) (h : m.calls ≤ 100) : (five m y).m1.calls ≤ 101 ∧ (five m y).m2.calls ≤ 102 ∧ (five m y).m3.calls ≤ 103 ∧ (five m y).m4.calls ≤ 104 ∧ (five m y).m5.calls ≤ 105 := by
  have hd : ∀ (m : M) (f : M → M), (∀ s, (f s).calls = s.calls) → (m.does f).1.calls ≤ m.calls + 1 := by
    intro m f hf
    unfold M.does
    split
    · show m.calls ≤ _; omega
    · show (f m.spent).calls ≤ _
      rw [hf]
      exact Nat.le_refl _
  have h1 : ∀ (m : M) n, (m.create n).1.calls ≤ m.calls + 1 := by
    intro m n
    unfold M.create
    split
    · exact Nat.le_succ _
    split
    · exact Nat.le_succ _
    split
    · exact Nat.le_succ _
    exact hd _ _ fun s => rfl
  have h2 : ∀ (m : M) n b, (m.append n b).1.calls ≤ m.calls + 1 := by
    intro m n b
    unfold M.append
    split
    · exact Nat.le_succ _
    split
    · exact Nat.le_succ _
    split
    · exact Nat.le_succ _
    exact hd _ _ fun s => rfl
  have h3 : ∀ (m : M) n, (m.sync n).1.calls ≤ m.calls + 1 := by
    intro m n
    unfold M.sync
    split
    · exact Nat.le_succ _
    split
    · exact Nat.le_succ _
    exact hd _ _ fun s => rfl
  have h4 : ∀ (m : M) a b, (m.rename a b).1.calls ≤ m.calls + 1 := by
    intro m a b
    unfold M.rename
    split
    · exact Nat.le_succ _
    split
    · exact Nat.le_succ _
    split
    · exact Nat.le_succ _
    split
    · exact hd _ _ fun s => rfl
    exact hd _ _ fun s => rfl
  have h5 : ∀ (m : M), m.syncDir.1.calls ≤ m.calls + 1 := by
    intro m
    unfold M.syncDir
    split
    · exact Nat.le_succ _
    exact hd _ _ fun s => rfl
  have e1 := h1 m [116]
  have e2 := h2 (five m y).m1 [116] y
  have e3 := h3 (five m y).m2 [116]
  have e4 := h4 (five m y).m3 [116] [102]
  have e5 := h5 (five m y).m4
  have q1 : (five m y).m1.calls ≤ m.calls + 1 := e1
  have q2 : (five m y).m2.calls ≤ (five m y).m1.calls + 1 := e2
  have q3 : (five m y).m3.calls ≤ (five m y).m2.calls + 1 := e3
  have q4 : (five m y).m4.calls ≤ (five m y).m3.calls + 1 := e4
  have q5 : (five m y).m5.calls ≤ (five m y).m4.calls + 1 := e5
  omega
theorem zeros_at (l : List Nat) (j x : Nat) (h : l[j]? = some x) : zeros (l.take (j + 1)) = zeros (l.take j) + (if x = 0 then 1 else 0) := by
  rw [List.take_add_one, h]
  unfold zeros
  rw [List.filter_append, List.length_append]
  congr 1
  by_cases e : x = 0 <;> simp [e]
theorem zeros_le (f : Five) (j : Nat) : zeros (f.codes.take j) ≤ 5 := by
  unfold zeros
  refine Nat.le_trans (List.length_filter_le _ _) ?_
  rw [List.length_take]
  exact Nat.min_le_right _ _
theorem lost_calls (o y : List UInt8) (k : Nat) : (lostM o y k).calls ≤ 9 := by
  unfold lostM
  split <;> simp [M.off, T0, T1, T2, T3, T4, T5]
theorem lost_off (o y : List UInt8) (k : Nat) : (lostM o y k).on = false := by
  unfold lostM
  split <;> rfl
theorem fuse_of (z : Int) : ∃ k : Nat, (wrap64 (z.tmod 6 + 6)).tmod 6 = (k : Int) ∧ k ≤ 5 := by
  have h1 : -6 < z.tmod 6 ∧ z.tmod 6 < 6 := ⟨by have := Int.tmod_lt_of_pos (-z) (show (0 : Int) < 6 by decide); rw [Int.neg_tmod] at this; omega, Int.tmod_lt_of_pos z (by decide)⟩
  have h2 : wrap64 (z.tmod 6 + 6) = z.tmod 6 + 6 := IntWalk.wrap64_in _ (by omega)
  rw [h2]
  have h3 := Int.tmod_nonneg 6 (show 0 ≤ z.tmod 6 + 6 by omega)
  have h4 := Int.tmod_lt_of_pos (z.tmod 6 + 6) (show (0 : Int) < 6 by decide)
  exact ⟨((z.tmod 6 + 6).tmod 6).toNat, by omega, by omega⟩
section
variable {w0 w : World} {d : Nat} {m m' : M} {c : Nat}
theorem Mine.create' (h : Mine w0 w d m) (hc : m.calls < 1099511627776) (n : Nm) (hn : n.length ≤ maxLen) (q : m.create n = (m', c)) : Calls Try.prog 29 #[.pointer (some ⟨d, 0, none⟩), .string (str n)] w fun e w' => e = .returned (.int .i64 c) ∧ Mine w0 w' d m' := by
  have r := h.create hc n hn; rw [q] at r; exact r
theorem Mine.append' (h : Mine w0 w d m) (hc : m.calls < 1099511627776) (n : Nm) (hn : n.length ≤ maxLen) (a : Option Addr) (len cap : Nat) (bs : List UInt8) (hS : Bys w0 a len bs) (hl : len ≤ 140737488355328) (q : m.append n bs = (m', c)) : Calls Try.prog 30 #[.pointer (some ⟨d, 0, none⟩), .string (str n), .slice a len cap] w fun e w' => e = .returned (.int .i64 c) ∧ Mine w0 w' d m' := by
  have r := h.append (Below.refl _ w) hc n hn a len cap bs (hS.later h.bel) hl (fun b off ha hp => by
    obtain ⟨b', off', e, hlt, _⟩ := hS.2 hp
    rw [ha] at e
    cases e
    exact .inl hlt)
  rw [q] at r; exact r
theorem Mine.sync' (h : Mine w0 w d m) (hc : m.calls < 1099511627776) (n : Nm) (hn : n.length ≤ maxLen) (q : m.sync n = (m', c)) : Calls Try.prog 26 #[.pointer (some ⟨d, 0, none⟩), .string (str n)] w fun e w' => e = .returned (.int .i64 c) ∧ Mine w0 w' d m' := by
  have r := h.sync hc n hn; rw [q] at r; exact r
theorem Mine.rename' (h : Mine w0 w d m) (hc : m.calls < 1099511627776) (a b : Nm) (ha : a.length ≤ maxLen) (hb : b.length ≤ maxLen) (q : m.rename a b = (m', c)) : Calls Try.prog 31 #[.pointer (some ⟨d, 0, none⟩), .string (str a), .string (str b)] w fun e w' => e = .returned (.int .i64 c) ∧ Mine w0 w' d m' := by
  have r := h.rename hc a b ha hb; rw [q] at r; exact r
theorem Mine.syncDir' (h : Mine w0 w d m) (hc : m.calls < 1099511627776) (q : m.syncDir = (m', c)) : Calls Try.prog 27 #[.pointer (some ⟨d, 0, none⟩)] w fun e w' => e = .returned (.int .i64 c) ∧ Mine w0 w' d m' := by
  have r := h.syncDir hc; rw [q] at r; exact r
theorem Mine.arm' (h : Mine w0 w d m) (n : Int) (hn : n ≤ 9223372036854775807) (q : m.arm n = m') : Calls Try.prog 25 #[.pointer (some ⟨d, 0, none⟩), .int .i64 n] w fun e w' => e = .returned (.tuple #[]) ∧ Mine w0 w' d m' := by
  have r := h.arm n hn; rw [q] at r; exact r
end
set_option maxRecDepth 100000 in
set_option maxHeartbeats 4000000 in
theorem diskRenames_any (oa : Option Addr) (ol oc : Nat) (o : List UInt8) (ya : Option Addr) (yl yc : Nat) (y : List UInt8) (z c : Int) (w : World) (ho : Bys w oa ol o ∧ ol ≤ 140737488351232) (hy : Bys w ya yl y ∧ yl ≤ 140737488351232) (hzc : (-9223372036854775808 ≤ z ∧ z ≤ 9223372036854775807) ∧ -9223372036854775808 ≤ c ∧ c ≤ 9223372036854775807) :
    Calls Try.prog 5 #[.slice oa ol oc, .slice ya yl yc, .agg #[.int .i64 z, .int .i64 c]] w fun e w' => e = .returned (.bool true) ∧ Below w.heap.size w w' := by
  have HO : Hid (Bys w oa ol o) := ho.1
  have HY : Hid (Bys w ya yl y) := hy.1
  have hol := ho.2
  have hyl := hy.2
  obtain ⟨⟨hz1, hz2⟩, hc1, hc2⟩ := hzc
  have HLO : Hid (ol = o.length) := ho.1.1
  have HLY : Hid (yl = y.length) := hy.1.1
  clear ho hy
  obtain ⟨W, HW⟩ : ∃ W, Hid (W = w.alloc (.cells #[.int .i64 z, .int .i64 c] 58)) := ⟨_, rfl⟩
  have h0 : Calls Try.prog 11 #[.int .i64 1048576] W fun e w' => ∃ d, e = .returned (.tuple #[.pointer (some ⟨d, 0, none⟩), .int .i64 0]) ∧ Mine W w' d (M.new 1048576) := mine_new 1048576 W (by decide)
  have HN1 : Hid (([102] : Nm).length ≤ maxLen) := by unfold Hid maxLen; decide
  have HN2 : Hid (([116] : Nm).length ≤ maxLen) := by unfold Hid maxLen; decide
  have HS1 : Hid (str [102] = ⟨#[102]⟩) := rfl
  have HS2 : Hid (str [116] = ⟨#[116]⟩) := rfl
  obtain ⟨bx, HX⟩ : ∃ x, Hid (x = w.heap.size) := ⟨_, rfl⟩
  have HRX : Hid (Row W bx 58 [.int .i64 z, .int .i64 c]) := by rw [HW.out, HX.out]; exact Row.mk w [.int .i64 z, .int .i64 c] _
  have HBW : Hid (Below w.heap.size w W) := by rw [HW.out]; exact (Below.refl _ w).alloc (Nat.le_refl _) _
  go_enter Try.func5, Try.ntmps5
  go_wp2_with fail
  rw [← HW.out, ← HX.out]
  refine h0.mono ?_
  rintro e w1 ⟨d, rfl, M0⟩
  have HM0 : Hid (Mine W w1 d (M.new 1048576)) := M0
  clear h0 M0
  by_cases hbig : (524288 : Int) < (ol : Int) + (yl : Int)
  · have hd : decide ((524288 : Int) < (ol : Int) + (yl : Int)) = true := decide_eq_true hbig
    go_wp2_with fail
    refine (alive_any _).mono ?_
    rintro e w2 ⟨rfl, hB2⟩
    have HBf : Hid (Below w.heap.size w w2) := HBW.out.trans ((HM0.out.bel.trans (hB2.mono HM0.out.bel.size)).mono HBW.out.size)
    clear hB2
    go_wp2
    go_ret
    exact ⟨rfl, HBf.out⟩
  · have hd : decide ((524288 : Int) < (ol : Int) + (yl : Int)) = false := decide_eq_false hbig
    have HU : Hid (o.length + y.length ≤ 1048576) := by
      unfold Hid
      have := HLO.out
      have := HLY.out
      omega
    have HSO : Hid (Bys W oa ol o) := HO.out.later HBW.out
    have HSY : Hid (Bys W ya yl y) := HY.out.later HBW.out
    have h1 : Calls Try.prog 29 #[.pointer (some ⟨d, 0, none⟩), .string ⟨#[102]⟩] w1 fun e w' => e = .returned (.int .i64 0) ∧ Mine W w' d S1 := HM0.out.create' (by decide) [102] HN1.out s1
    clear HM0
    go_wp2_with fail
    refine h1.mono ?_
    rintro e w2 ⟨rfl, M1⟩
    have h2 : Calls Try.prog 30 #[.pointer (some ⟨d, 0, none⟩), .string ⟨#[102]⟩, .slice oa ol oc] w2 fun e w' => e = .returned (.int .i64 0) ∧ Mine W w' d (S2 o) := M1.append' (by decide) [102] HN1.out oa ol oc o HSO.out (by omega) (s2 o (by have := HU.out; omega))
    clear h1 M1
    go_wp2_with fail
    refine h2.mono ?_
    rintro e w3 ⟨rfl, M2⟩
    have h3 : Calls Try.prog 26 #[.pointer (some ⟨d, 0, none⟩), .string ⟨#[102]⟩] w3 fun e w' => e = .returned (.int .i64 0) ∧ Mine W w' d (S3 o) := M2.sync' (by show 2 < 1099511627776; decide) [102] HN1.out (s3 o)
    clear h2 M2
    go_wp2_with fail
    refine h3.mono ?_
    rintro e w4 ⟨rfl, M3⟩
    have h4 : Calls Try.prog 27 #[.pointer (some ⟨d, 0, none⟩)] w4 fun e w' => e = .returned (.int .i64 0) ∧ Mine W w' d (T0 o (-1)) := M3.syncDir' (by show 3 < 1099511627776; decide) (s4 o)
    clear h3 M3
    go_wp2_with fail
    refine h4.mono ?_
    rintro e w5 ⟨rfl, M4⟩
    have b0 : w5.cell? ⟨bx, 0, none⟩ = some (.int .i64 z) := (HRX.out.at_ (M4.bel.block _ HRX.out.lt)).cell 0
    have HM4 : Hid (Mine W w5 d (T0 o (-1))) := M4
    clear h4 M4
    obtain ⟨k, hk, hk5⟩ : ∃ k : Nat, (wrap64 (z.tmod 6 + 6)).tmod 6 = (k : Int) ∧ k ≤ 5 := fuse_of z
    have h5 : Calls Try.prog 25 #[.pointer (some ⟨d, 0, none⟩), .int .i64 k] w5 fun e w' => e = .returned (.tuple #[]) ∧ Mine W w' d (T0 o k) := HM4.out.arm' k (by omega) (s5 o k (by omega))
    clear HM4
    go_wp2_with fail
    clear hk
    refine h5.mono ?_
    rintro e w6 ⟨rfl, M5⟩
    obtain ⟨f, HF⟩ : ∃ f, Hid (f = five (T0 o k) y) := ⟨_, rfl⟩
    have HCC : Hid (f.m1.calls ≤ 101 ∧ f.m2.calls ≤ 102 ∧ f.m3.calls ≤ 103 ∧ f.m4.calls ≤ 104 ∧ f.m5.calls ≤ 105) := by rw [HF.out]; exact five_calls _ _ (by show 4 ≤ 100; decide)
    have HOK : Hid (zeros f.codes = k ∧ (if k = 5 then f.m5 = T5 o y 0 else f.m5 = lostM o y k)) := by rw [HF.out]; exact five_ok o y HU.out k hk5
    have h6 : Calls Try.prog 29 #[.pointer (some ⟨d, 0, none⟩), .string ⟨#[116]⟩] w6 fun e w' => e = .returned (.int .i64 f.c1) ∧ Mine W w' d f.m1 := M5.create' (by show 4 < 1099511627776; decide) [116] HN2.out (by rw [HF.out]; rfl)
    clear h5 M5 b0 hz1 hz2
    go_wp2_with fail
    refine h6.mono ?_
    rintro e w7 ⟨rfl, M6⟩
    have h7 : Calls Try.prog 30 #[.pointer (some ⟨d, 0, none⟩), .string ⟨#[116]⟩, .slice ya yl yc] w7 fun e w' => e = .returned (.int .i64 f.c2) ∧ Mine W w' d f.m2 := M6.append' (by have := HCC.out.1; omega) [116] HN2.out ya yl yc y HSY.out (by omega) (by rw [HF.out]; rfl)
    clear h6 M6
    go_wp2_with fail
    refine h7.mono ?_
    rintro e w8 ⟨rfl, M7⟩
    have h8 : Calls Try.prog 26 #[.pointer (some ⟨d, 0, none⟩), .string ⟨#[116]⟩] w8 fun e w' => e = .returned (.int .i64 f.c3) ∧ Mine W w' d f.m3 := M7.sync' (by have := HCC.out.2.1; omega) [116] HN2.out (by rw [HF.out]; rfl)
    clear h7 M7
    go_wp2_with fail
    refine h8.mono ?_
    rintro e w9 ⟨rfl, M8⟩
    have h9 : Calls Try.prog 31 #[.pointer (some ⟨d, 0, none⟩), .string ⟨#[116]⟩, .string ⟨#[102]⟩] w9 fun e w' => e = .returned (.int .i64 f.c4) ∧ Mine W w' d f.m4 := M8.rename' (by have := HCC.out.2.2.1; omega) [116] [102] HN2.out HN1.out (by rw [HF.out]; rfl)
    clear h8 M8
    go_wp2_with fail
    refine h9.mono ?_
    rintro e w10 ⟨rfl, M9⟩
    have h10 : Calls Try.prog 27 #[.pointer (some ⟨d, 0, none⟩)] w10 fun e w' => e = .returned (.int .i64 f.c5) ∧ Mine W w' d f.m5 := M9.syncDir' (by have := HCC.out.2.2.2.1; omega) (by rw [HF.out]; rfl)
    clear h9 M9
    go_wp2_with fail
    refine h10.mono ?_
    rintro e w11 ⟨rfl, M10⟩
    obtain ⟨V, HV⟩ : ∃ V, Hid (V = w11.alloc (.cells #[.int .i64 f.c1, .int .i64 f.c2, .int .i64 f.c3, .int .i64 f.c4, .int .i64 f.c5] 26)) := ⟨_, rfl⟩
    have HM : Hid (Mine W V d f.m5) := by rw [HV.out]; exact M10.later ((Below.refl _ w11).alloc (Nat.le_refl _) _)
    have HRC : Hid (Row V w11.heap.size 26 [.int .i64 f.c1, .int .i64 f.c2, .int .i64 f.c3, .int .i64 f.c4, .int .i64 f.c5]) := by rw [HV.out]; exact Row.mk w11 [.int .i64 f.c1, .int .i64 f.c2, .int .i64 f.c3, .int .i64 f.c4, .int .i64 f.c5] _
    clear h10 M10
    go_wp2_with fail
    rw [← HV.out]
    clear HV
    generalize w11.heap.size = g at *
    go_loopw [10, 78] (fun dn i wr => ∃ j : Nat, j ≤ 5 ∧ i = .int .i64 j ∧ dn = .int .i64 (zeros (f.codes.take j) : Nat) ∧ V = wr) (fun _ i _ => 5 - (intOf i).toNat)
    case atStart => exact ⟨0, Nat.zero_le _, rfl, rfl, rfl⟩
    case round =>
      obtain ⟨j, hj, rfl, rfl, rfl⟩ := hrel
      by_cases hlt : j < 5
      · obtain ⟨x, hx, hcx⟩ : ∃ x : Nat, zeros (f.codes.take (j + 1)) = zeros (f.codes.take j) + (if x = 0 then 1 else 0) ∧ V.cell? ⟨g, j, none⟩ = some (.int .i64 x) := by
          have h1 := HRC.out.cell j
          rcases (by omega : j = 0 ∨ j = 1 ∨ j = 2 ∨ j = 3 ∨ j = 4) with q | q | q | q | q <;> rw [q] at h1 ⊢
          · exact ⟨f.c1, zeros_at f.codes 0 f.c1 rfl, h1⟩
          · exact ⟨f.c2, zeros_at f.codes 1 f.c2 rfl, h1⟩
          · exact ⟨f.c3, zeros_at f.codes 2 f.c3 rfl, h1⟩
          · exact ⟨f.c4, zeros_at f.codes 3 f.c4 rfl, h1⟩
          · exact ⟨f.c5, zeros_at f.codes 4 f.c5 rfl, h1⟩
        have hz5 : zeros (f.codes.take j) ≤ 5 := zeros_le f j
        by_cases hx0 : x = 0
        · subst hx0
          go_wp2
          go_roundw
          case rel => exact ⟨j + 1, by omega, by go_num, by rw [hx]; go_num, trivial⟩
          case measure => simp [intOf]; omega
        · rw [if_neg hx0] at hx
          have hxi : ((x : Int) == 0) = false := by simp; omega
          go_wp2
          go_roundw
          case rel => exact ⟨j + 1, by omega, by go_num, by rw [hx]; rfl, trivial⟩
          case measure => simp [intOf]; omega
      · obtain rfl : j = 5 := by omega
        have hzk : zeros (f.codes.take 5) = k := HOK.out.1
        rw [hzk]
        by_cases hk : k = 5
        · subst hk
          have hm5 : f.m5 = T5 o y 0 := HOK.out.2
          rw [hm5] at HM
          have h11 : Calls Try.prog 16 #[.pointer (some ⟨d, 0, none⟩)] V fun e w' => e = .returned (.bool true) ∧ V = w' := HM.out.on
          have h12 : Calls Try.prog 25 #[.pointer (some ⟨d, 0, none⟩), .int .i64 0] V fun e w' => e = .returned (.tuple #[]) ∧ Mine W w' d (T5 o y 0) := HM.out.arm' 0 (by decide) (t7 o y)
          go_wp2_with (first | (go_at_call 16; refine h11.mono ?_; rintro e w' ⟨rfl, rfl⟩))
          refine h12.mono ?_
          rintro e w12 ⟨rfl, M12⟩
          have h13 : Calls Try.prog 27 #[.pointer (some ⟨d, 0, none⟩)] w12 fun e w' => e = .returned (.int .i64 15) ∧ Mine W w' d (lostM o y 5) := M12.syncDir' (by show 9 < 1099511627776; decide) (t6 o y)
          clear h11 h12 M12 HM
          go_wp2_with fail
          refine h13.mono ?_
          rintro e w13 ⟨rfl, M13⟩
          have ML : Hid (Mine W w13 d (lostM o y 5)) := M13
          clear h13 M13
          have b1 : w13.cell? ⟨bx, 1, none⟩ = some (.int .i64 c) := (HRX.out.at_ (ML.out.bel.block _ HRX.out.lt)).cell 1
          obtain ⟨x, hr, hs, hxo, hx5, hx3⟩ := lost_read o y 5 hk5 c
          have h14 : Calls Try.prog 28 #[.pointer (some ⟨d, 0, none⟩), .int .i64 c, .slice none 0 0] w13 fun e w' => e = .returned (.int .i64 0) ∧ Mine W w' d ((lostM o y 5).start c []).1 := by
            have r := ML.out.start_nil (Nat.lt_of_le_of_lt (lost_calls o y 5) (by decide)) c
            rw [hs] at r
            exact r
          clear ML
          go_wp2_with fail
          refine h14.mono ?_
          rintro e w14 ⟨rfl, M14⟩
          have h15 := M14.read [102] HN1.out
          rw [hr, HS1.out] at h15
          have HM14 : Hid (Mine W w14 d ((lostM o y 5).start c []).1) := M14
          clear h14 M14 b1 hr hs
          go_wp2_with fail
          refine h15.mono ?_
          rintro e w15 ⟨v, rfl, hFr, hB15⟩
          obtain ⟨va, vc, hva, hby, _⟩ := hFr.1.bys
          subst hva
          have HB15 : Hid (Below W.heap.size W w15) := HM14.out.bel.trans (hB15.mono HM14.out.bel.size)
          have hcx := conv_bys (cap := vc) hby
          have hco := conv_bys (cap := oc) (HSO.out.later HB15.out)
          have hcy := conv_bys (cap := yc) (HSY.out.later HB15.out)
          obtain ⟨p, hp⟩ : ∃ p, ((str x).toList == (str o).toList) = p := ⟨_, rfl⟩
          obtain ⟨q, hq⟩ : ∃ q, ((str x).toList == (str y).toList) = q := ⟨_, rfl⟩
          have hpo : x = o → p = true := fun e => by rw [← hp, e]; exact beq_self_eq_true _
          have hqy : x = y → q = true := fun e => by rw [← hq, e]; exact beq_self_eq_true _
          have hal := alive_any w15
          generalize str x = X at *
          generalize str o = O at *
          generalize str y = Y at *
          generalize x.length = xl at *
          clear h15 hFr hby hB15 HM14
          have hq1 : q = true := hqy (hx5 trivial)
          subst hq1
          clear hxo hx5 hx3 hpo hqy
          cases p <;>
            (go_wp2_with fail
             refine hal.mono ?_
             rintro e w16 ⟨rfl, hB16⟩
             have HBf : Hid (Below w.heap.size w w16) := HBW.out.trans ((HB15.out.trans (hB16.mono HB15.out.size)).mono HBW.out.size)
             clear hal hB16
             go_wp2
             go_ret
             exact ⟨rfl, HBf.out⟩)
        · have hm5 : f.m5 = lostM o y k := by have h := HOK.out.2; rw [if_neg hk] at h; exact h
          rw [hm5] at HM
          have hoff : (lostM o y k).on = false := lost_off o y k
          have h11 : Calls Try.prog 16 #[.pointer (some ⟨d, 0, none⟩)] V fun e w' => e = .returned (.bool false) ∧ V = w' := by
            have r := HM.out.on
            rw [hoff] at r
            exact r
          have ML : Hid (Mine W V d (lostM o y k)) := HM.out
          have hmin : min (k : Int) 5 = k := by omega
          clear HM hm5 hoff
          have b1 : V.cell? ⟨bx, 1, none⟩ = some (.int .i64 c) := (HRX.out.at_ (ML.out.bel.block _ HRX.out.lt)).cell 1
          obtain ⟨x, hr, hs, hxo, hx5, hx3⟩ := lost_read o y k hk5 c
          have h14 : Calls Try.prog 28 #[.pointer (some ⟨d, 0, none⟩), .int .i64 c, .slice none 0 0] V fun e w' => e = .returned (.int .i64 0) ∧ Mine W w' d ((lostM o y k).start c []).1 := by
            have r := ML.out.start_nil (Nat.lt_of_le_of_lt (lost_calls o y k) (by decide)) c
            rw [hs] at r
            exact r
          clear ML
          go_wp2_with (first | (go_at_call 16; refine h11.mono ?_; rintro e w' ⟨rfl, rfl⟩))
          clear h11
          refine h14.mono ?_
          rintro e w14 ⟨rfl, M14⟩
          have h15 := M14.read [102] HN1.out
          rw [hr, HS1.out] at h15
          have HM14 : Hid (Mine W w14 d ((lostM o y k).start c []).1) := M14
          clear h14 M14 b1 hr hs
          go_wp2_with fail
          refine h15.mono ?_
          rintro e w15 ⟨v, rfl, hFr, hB15⟩
          obtain ⟨va, vc, hva, hby, _⟩ := hFr.1.bys
          subst hva
          have HB15 : Hid (Below W.heap.size W w15) := HM14.out.bel.trans (hB15.mono HM14.out.bel.size)
          have hcx := conv_bys (cap := vc) hby
          have hco := conv_bys (cap := oc) (HSO.out.later HB15.out)
          have hcy := conv_bys (cap := yc) (HSY.out.later HB15.out)
          obtain ⟨p, hp⟩ : ∃ p, ((str x).toList == (str o).toList) = p := ⟨_, rfl⟩
          obtain ⟨q, hq⟩ : ∃ q, ((str x).toList == (str y).toList) = q := ⟨_, rfl⟩
          have hpo : x = o → p = true := fun e => by rw [← hp, e]; exact beq_self_eq_true _
          have hqy : x = y → q = true := fun e => by rw [← hq, e]; exact beq_self_eq_true _
          have hal := alive_any w15
          generalize str x = X at *
          generalize str o = O at *
          generalize str y = Y at *
          generalize x.length = xl at *
          clear h15 hFr hby hB15 HM14
          by_cases hk4 : k = 4
          · subst hk4
            have hpq : p = true ∨ (p = false ∧ q = true) := by
              rcases hxo with e | e
              · exact .inl (hpo e)
              · cases p
                · exact .inr ⟨rfl, hqy e⟩
                · exact .inl rfl
            clear hxo hx5 hx3 hpo hqy
            rcases hpq with e | ⟨e, e'⟩
            · subst e
              (go_wp2_with fail
               refine hal.mono ?_
               rintro e w16 ⟨rfl, hB16⟩
               have HBf : Hid (Below w.heap.size w w16) := HBW.out.trans ((HB15.out.trans (hB16.mono HB15.out.size)).mono HBW.out.size)
               clear hal hB16
               go_wp2
               go_ret
               exact ⟨rfl, HBf.out⟩)
            · subst e
              subst e'
              (go_wp2_with fail
               refine hal.mono ?_
               rintro e w16 ⟨rfl, hB16⟩
               have HBf : Hid (Below w.heap.size w w16) := HBW.out.trans ((HB15.out.trans (hB16.mono HB15.out.size)).mono HBW.out.size)
               clear hal hB16
               go_wp2
               go_ret
               exact ⟨rfl, HBf.out⟩)
          · have hp1 : p = true := hpo (hx3 (by omega))
            subst hp1
            have hd1 : decide ((k : Int) < 5) = true := decide_eq_true (by omega)
            have hd2 : decide ((3 : Int) < (k : Int)) = false := decide_eq_false (by omega)
            clear hxo hx5 hx3 hpo hqy
            (go_wp2_with fail
             refine hal.mono ?_
             rintro e w16 ⟨rfl, hB16⟩
             have HBf : Hid (Below w.heap.size w w16) := HBW.out.trans ((HB15.out.trans (hB16.mono HB15.out.size)).mono HBW.out.size)
             clear hal hB16
             go_wp2
             go_ret
             exact ⟨rfl, HBf.out⟩)
end Go.Proofs.Yteencknmfjegiaa.Dsk
