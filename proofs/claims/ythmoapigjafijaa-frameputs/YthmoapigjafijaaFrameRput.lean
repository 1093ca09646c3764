/- The reference's Put. -/
import Derived.Test.YthmoapigjafijaaFrameStep
import Derived.Test.YthmoapigjafijaaFrameAlive
import Derived.Test.YthmoapigjafijaaCrcRef
import Derived.ArgAppend
import Derived.Deep.CutRange
import Derived.Lib.SlBytesConst
namespace Go.Proofs.Ythmoapigjafijaa.Frm
open Go.RowKit Crc
set_option linter.unusedSimpArgs false
set_option linter.unusedVariables false

theorem rput_arg (s : Int) (a : Option Addr) (len cap : Nat) (w : World) (hs : s < 1 ∨ 4611686018427387904 < s) :
    Calls Try.prog 11 #[.agg #[.int .i64 s, .slice a len cap]] w fun e w' => e = .returned (.tuple #[.slice none 0 0, .int .i64 1]) ∧ Below w.heap.size w w' := by
  have hbe : Below w.heap.size w (w.alloc (.cells #[.int .i64 s, .slice a len cap] 24)) := (Below.refl _ w).alloc (Nat.le_refl _) _
  by_cases h1 : s < 1
  · have hd : decide (s < 1) = true := decide_eq_true h1
    clear h1 hs
    go_enter Try.func11, Try.ntmps11
    go_wp2
    refine bodyPost_ret (results_tmp2 rfl _ _ _) rfl ?_
    exact ⟨rfl, hbe⟩
  · have hd : decide (s < 1) = false := decide_eq_false h1
    have hd2 : decide (4611686018427387904 < s) = true := decide_eq_true (by omega)
    clear h1 hs
    go_enter Try.func11, Try.ntmps11
    go_wp2
    refine bodyPost_ret (results_tmp2 rfl _ _ _) rfl ?_
    exact ⟨rfl, hbe⟩
theorem rput_many (s : Nat) (a : Option Addr) (len cap : Nat) (w : World) (h1 : 1 ≤ s) (h2 : s ≤ 4611686018427387904) (hm : 262144 < len) :
    Calls Try.prog 11 #[.agg #[.int .i64 s, .slice a len cap]] w fun e w' => e = .returned (.tuple #[.slice none 0 0, .int .i64 5]) ∧ Below w.heap.size w w' := by
  have hbe : Below w.heap.size w (w.alloc (.cells #[.int .i64 s, .slice a len cap] 24)) := (Below.refl _ w).alloc (Nat.le_refl _) _
  have hd1 : decide ((s : Int) < 1) = false := decide_eq_false (by omega)
  have hd2 : decide (4611686018427387904 < (s : Int)) = false := decide_eq_false (by omega)
  have hd3 : decide (262144 < (len : Int)) = true := decide_eq_true (by omega)
  clear h1 h2 hm
  go_enter Try.func11, Try.ntmps11
  go_wp2
  refine bodyPost_ret (results_tmp2 rfl _ _ _) rfl ?_
  exact ⟨rfl, hbe⟩
theorem own_lower {w : World} {B B' : Nat} {e : TypeId} {k n : Nat} {v : Value} {xs : List Value} (h : w.ownsRow B e k v n xs) (hb : B' ≤ B) : w.ownsRow B' e k v n xs := by
  obtain ⟨h1, h2⟩ := h
  refine ⟨h1, ?_⟩
  rcases h2 with h2 | ⟨g, cap, cur, hv, hg, rest⟩
  · exact .inl h2
  · exact .inr ⟨g, cap, cur, hv, Nat.le_trans hb hg, rest⟩
theorem own_belowR {w w' : World} {B : Nat} {e : TypeId} {k n : Nat} {v : Value} {xs : List Value} (h : w.ownsRow B e k v n xs) (hb : Below w.heap.size w w') : w'.ownsRow B e k v n xs := by
  obtain ⟨h1, h2⟩ := h
  refine ⟨h1, ?_⟩
  rcases h2 with h2 | ⟨g, cap, cur, hv, hg, hh, rest⟩
  · exact .inl h2
  · refine .inr ⟨g, cap, cur, hv, hg, ?_, rest⟩
    rw [hb.block g (Array.getElem?_eq_some_iff.1 hh).1]
    exact hh
theorem bys_cells {w : World} {a : Option Addr} {len : Nat} {l : List UInt8} (h : Bys w a len l) {ad : Addr} (ha : a = some ad) : ∀ j u, (byC l)[j]? = some u → w.cell? (ad.add j) = some u := by
  intro j u hu
  have hj : j < l.length := by
    have := (List.getElem?_eq_some_iff.1 hu).1
    rwa [byC_len] at this
  obtain ⟨b, off, ha', _, hc⟩ := h.2 (by rw [h.1]; omega)
  rw [ha] at ha'
  cases ha'
  rw [byC_at l j hj] at hu
  rw [Addr.add_mid, ← hu]
  exact hc j (by rw [h.1]; exact hj)
theorem own_row {w : World} {g B n : Nat} {l : List UInt8} (h : Row w g 5 (byC l)) (hB : B ≤ g) (hn : n = l.length) (hm : n ≤ maxLen) : w.ownsRow B 5 1 (.slice (some ⟨g, 0, none⟩) n n) n (byC l) := by
  refine ⟨by rw [byC_len, Nat.mul_one]; exact hn.symm, .inr ⟨g, n, (byC l).toArray, rfl, hB, h, Nat.le_refl _, hm, ?_, ?_⟩⟩
  · rw [List.size_toArray, byC_len, Nat.mul_one]; exact hn.symm
  · rw [List.take_of_length_le]; simp [byC_len]; omega

set_option maxHeartbeats 1000000 in
theorem rput_ok (s : Nat) (a : Option Addr) (len cap : Nat) (l : List UInt8) (w : World) (h1 : 1 ≤ s) (h2 : s ≤ 4611686018427387904) (hl : Bys w a len l) (hm : len ≤ 262144) (hnil : a = none → len = 0 ∧ cap = 0) :
    Calls Try.prog 11 #[.agg #[.int .i64 s, .slice a len cap]] w fun e w' => ∃ v, e = .returned (.tuple #[v, .int .i64 0]) ∧ w'.ownsRow w.heap.size 5 1 v (20 + len) (byC (frm s l)) ∧ Below w.heap.size w w' := by
  have HZ : Hid (Bys w a len l) := hl
  have HLL : Hid (len = l.length) := hl.1
  have HNIL : Hid (a = none → len = 0 ∧ cap = 0) := hnil
  have hd1 : decide ((s : Int) < 1) = false := decide_eq_false (by omega)
  have hd2 : decide (4611686018427387904 < (s : Int)) = false := decide_eq_false (by omega)
  have hd3 : decide (262144 < (len : Int)) = false := decide_eq_false (by omega)
  obtain ⟨g, HGG⟩ : ∃ g, Hid (g = w.heap.size) := ⟨_, rfl⟩
  obtain ⟨i0, hi, hz0, hz1, hz2⟩ := info_parts infoByte
  clear hl hnil
  go_enter Try.func11, Try.ntmps11
  go_upto_region 5 with fail
  obtain ⟨W, HW⟩ : ∃ W, Hid (W = w.alloc (.cells #[.int .i64 s, .slice a len cap] 24)) := ⟨_, rfl⟩
  have hW2 : Hid (Row W g 24 [.int .i64 s, .slice a len cap]) := by
    rw [HW.out, HGG.out]
    exact Row.mk w [.int .i64 s, .slice a len cap] _
  have hW3 : Hid (Below w.heap.size w W) := by
    rw [HW.out]
    exact (Below.refl _ w).alloc (Nat.le_refl _) _
  rw [← HW.out, ← HGG.out]
  clear HW hd1 hd2 hd3
  have hc0 : W.cell? ⟨g, 0, none⟩ = some (.int .i64 s) := by rw [hW2.out.cell]; rfl
  have hc1 : W.cell? ⟨g, 1, none⟩ = some (.slice a len cap) := by rw [hW2.out.cell]; rfl
  have hgW : g < W.heap.size := hW2.out.lt
  have hwl : IntKind.u64.wrap (len : Int) = (len : Int) := by rw [IntKind.wrap_u64]; omega
  have hws : IntKind.u64.wrap (s : Int) = (s : Int) := by rw [IntKind.wrap_u64]; omega
  go_cut [4] from 19 to 28 (fun v wx => wx.ownsRow W.heap.size 5 1 v 12 (byC (hed len s)) ∧ Below W.heap.size W wx)
  case first =>
    go_region_law (first
      | (refine step_call rfl 22 _ _ rfl #[.int .u64 len, .int .i64 (4 : Nat)] (cf_rnum _ _) (by simp [Act.eval, Act.put]) (rnumber_any len 4 _ (by omega) (by decide) (by decide)) ?_; rintro e w1 ⟨rfl, hR1, hB1⟩; refine ⟨_, rfl, ?_⟩; have hd0 := (hB1.cell (p := ⟨g, 0, none⟩) hgW).trans hc0; have hd1 := (hB1.cell (p := ⟨g, 1, none⟩) hgW).trans hc1)
      | (refine step_call rfl 22 _ _ rfl #[.int .u64 s, .int .i64 (8 : Nat)] (cf_rnum _ _) (by simp [Act.eval, Act.put]) (rnumber_any s 8 _ (by omega) (by decide) (by decide)) ?_; rintro e w2 ⟨rfl, hR2, hB2⟩; refine ⟨_, rfl, ?_⟩)
      | (refine step_append_own rfl (.tmp 23) (.tmp 27) 22 rfl W.heap.size 5 i0 (.int .u8 0) 1 1 Try.underlying22 hi hz0 hz1 hz2 rfl (by decide) (.slice (some ⟨W.heap.size, 0, none⟩) 4 4) 4 (byC (be 4 len)) (by simp [Act.eval, Act.put]) (own_row (hR1.below hB2 hR1.lt) (Nat.le_refl _) (be_len _ _).symm (by decide)) ⟨w1.heap.size, 0, none⟩ 8 8 (byC (be 8 s)) (by simp [Act.eval, Act.put]) (by rw [byC_len, be_len]) (fun j u hu => by rw [Addr.add_mid, Nat.zero_add, hR2.cell]; exact hu) (byC_one _) (by decide) (by decide) (Nat.le_trans hB1.size hB2.size) ?_; intro v' w3 hown' hgrow))
    all_goals (
      have hbe3 : Below W.heap.size W w3 := (((Below.refl _ W).drew.trans hB1).trans (hB2.mono hB1.size)).grown hgrow (Nat.le_trans hB1.size hB2.size) (fun k hk => by simp [Value.ownBlock] at hk; rw [← hk]; exact Nat.le_refl _)
      have hown3 : w3.ownsRow W.heap.size 5 1 v' 12 (byC (hed len s)) := by
        rw [show byC (hed len s) = byC (be 4 len) ++ byC (be 8 s) by unfold byC hed; rw [List.map_append]]
        exact hown'
      clear hown' hgrow
      go_wp2_with fail
      go_meet
      exact ⟨hown3, hbe3⟩)
  case rest =>
  obtain ⟨hown, hbe⟩ := hcut
  rcases hown.2 with ⟨_, h12⟩ | ⟨gh, ch, curh, rfl, hgh, hbh, hch, hchm, hcs, hct⟩
  · omega
  have hRh : Row wc gh 5 curh.toList := by unfold Row; simpa using hbh
  have htkh : curh.toList.take (hed len s).length = byC (hed len s) := by rw [hed_len]; simpa using hct
  have HBH : Hid (Bys wc (some ⟨gh, 0, none⟩) 12 (hed len s)) := by
    have h := row_bys0 hRh (hed len s) htkh
    rwa [hed_len] at h
  have HBW : Hid (Below w.heap.size w wc) := hW3.out.trans (hbe.mono hW3.out.size)
  have HBL : Hid (Bys wc a len l) := HZ.out.later HBW.out (Nat.le_refl _)
  have HRh : Hid (Row wc gh 5 curh.toList) := hRh
  have HTk : Hid (curh.toList.take 12 = byC (hed len s)) := by rw [hed_len] at htkh; exact htkh
  have HWb : Hid (Below W.heap.size W wc) := hbe
  have hd1 : wc.cell? ⟨g, 1, none⟩ = some (.slice a len cap) := (hbe.cell (p := ⟨g, 1, none⟩) hgW).trans hc1
  have HHd : Hid (wc.cell? ⟨g, 1, none⟩ = some (.slice a len cap)) := hd1
  obtain ⟨N, HN⟩ : ∃ N, Hid (N = (sum (hed len s ++ l)).toNat) := ⟨_, rfl⟩
  have hN : N < 4294967296 := by rw [HN.out]; exact sum_lt _
  clear hown hbe hRh htkh hbh hcs hct hc0 hc1 hwl hws
  go_wp2_with fail
  have hP : Parts (wc.alloc (.cells #[.slice (some ⟨gh, 0, none⟩) 12 ch, .slice a len cap] 22)) (some ⟨wc.heap.size, 0, none⟩) 2 [hed len s, l] := parts_two (cap := ch) (cap' := cap) _ HBH.out (by decide) HBL.out (by unfold maxLen; omega)
  refine (rsum_any _ 2 2 [hed len s, l] _ hP (by decide)).mono ?_
  rintro e w' ⟨rfl, rfl⟩
  rw [show nm (sums [hed len s, l]) = (N : Int) by rw [HN.out, nm_eq, show sums [hed len s, l] = sum (hed len s ++ l) from (sum_app (hed len s) l).symm]]
  clear hP
  obtain ⟨W2, HW2⟩ : ∃ W2, Hid (W2 = wc.alloc (.cells #[.slice (some ⟨gh, 0, none⟩) 12 ch, .slice a len cap] 22)) := ⟨_, rfl⟩
  rw [← HW2.out]
  have hBW2 : Hid (Below wc.heap.size wc W2) := by rw [HW2.out]; exact (Below.refl _ wc).alloc (Nat.le_refl _) _
  have hcst := Lib.run_convert_bytes_const (P := Try.prog) W2 22 5 #[.int .u8 89, .int .u8 82, .int .u8 69, .int .u8 67] 4 4 Try.underlying22 Try.underlying5
  clear HW2
  go_wp2_with (at_builtin; refine wpList_append_grows _ rfl (.tmp 35) (.tmp 36) 22 rfl 5 i0 (.int .u8 0) 1 1 Try.underlying22 hi hz0 hz1 hz2 rfl (by decide) (some ⟨W2.heap.size, 0, none⟩) 4 4 (byC magic) rfl (fun h => by cases h) (by rw [byC_len]; rfl) ?_ ⟨gh, 0, none⟩ 12 ch (byC (hed len s)) rfl (by rw [byC_len, hed_len]) ?_ (byC_one _) (by decide) (by decide) (by decide) ?_)
  · intro b' e j u hu
    cases e
    rw [Addr.add_mid, Nat.zero_add, cell_of_row _ W2.heap.size j #[.int .u8 89, .int .u8 82, .int .u8 69, .int .u8 67] 5 (4, 5) (heap_alloc_last W2 _), ← hu]
    simp [byC, magic, nm_wd]
  · intro j u hu
    have hb2 : Below W2.heap.size W2 (W2.alloc (.cells #[.int .u8 89, .int .u8 82, .int .u8 69, .int .u8 67] 5 (4, 5))) := (Below.refl _ W2).alloc (Nat.le_refl _) _
    have hR := (HRh.out.below hBW2.out HRh.out.lt).below hb2 (Nat.lt_of_lt_of_le HRh.out.lt hBW2.out.size)
    rw [Addr.add_mid, Nat.zero_add, hR.cell]
    rw [← HTk.out, List.getElem?_take] at hu
    split at hu
    · exact hu
    · cases hu
  intro v6 w4 hown6 hgrow
  have hb2 : Below W2.heap.size W2 (W2.alloc (.cells #[.int .u8 89, .int .u8 82, .int .u8 69, .int .u8 67] 5 (4, 5))) := (Below.refl _ W2).alloc (Nat.le_refl _) _
  have hB4 : Below W2.heap.size W2 w4 := hb2.grown hgrow (by simp) (fun k hk => by cases hk)
  have HB4 : Hid (Below w.heap.size w w4) := (HBW.out.trans (hBW2.out.mono HBW.out.size)).trans (hB4.mono (Nat.le_trans HBW.out.size hBW2.out.size))
  have HO6 : Hid (w4.ownsRow (g + 1) 5 1 v6 16 (byC (magic ++ hed len s))) := by
    rw [show byC (magic ++ hed len s) = byC magic ++ byC (hed len s) by unfold byC; rw [List.map_append]]
    exact own_lower hown6 (by have h1 := HWb.out.size; have h2 := hBW2.out.size; omega)
  have hd4 : w4.cell? ⟨g, 1, none⟩ = some (.slice a len cap) := by
    have h1 := HWb.out.size
    have h2 := hBW2.out.size
    rw [hB4.cell (p := ⟨g, 1, none⟩) (by show g < _; omega), hBW2.out.cell (p := ⟨g, 1, none⟩) (by show g < _; omega)]
    exact HHd.out
  have hg4 : g < w4.heap.size := by have h1 := HWb.out.size; have h2 := hBW2.out.size; have h3 := hB4.size; omega
  have HZ4 : Hid (Bys w4 a len l) := HZ.out.later HB4.out (Nat.le_refl _)
  have hwN : IntKind.u64.wrap (N : Int) = (N : Int) := by rw [IntKind.wrap_u64]; omega
  have HS4 : Hid (w.heap.size ≤ w4.heap.size) := HB4.out.size
  have hgw : w.heap.size ≤ g + 1 := by rw [HGG.out]; exact Nat.le_succ _
  clear hown6 hgrow hb2 hB4 hcst hd1
  go_upto_region 8 with fail
  go_cut [2, 3] from 38 to 45 (fun v e wx => e = .int .i64 0 ∧ wx.ownsRow (g + 1) 5 1 v (20 + len) (byC (frm s l)) ∧ Below w.heap.size w wx)
  case first =>
    go_region_law (first
      | (refine step_call rfl 22 _ _ rfl #[.int .u64 N, .int .i64 (4 : Nat)] (cf_rnum _ _) (by simp [Act.eval, Act.put]) (rnumber_any N 4 _ (by omega) (by decide) (by decide)) ?_; rintro e w5 ⟨rfl, hR5, hB5⟩; refine ⟨_, rfl, ?_⟩; have hd5 := (hB5.cell (p := ⟨g, 1, none⟩) hg4).trans hd4; have hR5' : Row w5 w4.heap.size 5 (byC (be 4 N)) := hR5; have hB5' : Below w4.heap.size w4 w5 := (Below.refl _ w4).drew.trans hB5)
      | (refine step_append_own rfl (.tmp 38) (.tmp 41) 22 rfl (g + 1) 5 i0 (.int .u8 0) 1 1 Try.underlying22 hi hz0 hz1 hz2 rfl (by decide) v6 16 (byC (magic ++ hed len s)) (by simp [Act.eval, Act.put]) (own_belowR HO6.out hB5') ⟨w4.heap.size, 0, none⟩ 4 4 (byC (be 4 N)) (by simp [Act.eval, Act.put]) (by rw [byC_len, be_len]) (fun j u hu => by rw [Addr.add_mid, Nat.zero_add, hR5'.cell]; exact hu) (byC_one _) (by decide) (by decide) (Nat.le_trans hg4 hB5.size) ?_; intro v7 w6 hown7 hgrow7; have hBg : Below (g + 1) w4 w6 := (hB5'.mono hg4).grown hgrow7 (Nat.le_trans hg4 hB5.size) (fun k hk => (HO6.out.lt k hk).1); have hd6 := (hBg.cell (p := ⟨g, 1, none⟩) (Nat.lt_succ_self g)).trans hd4; have hZ6 : Bys w6 a len l := HZ.out.later (HB4.out.trans (hBg.mono hgw)) (Nat.le_refl _); have hgs6 : g + 1 ≤ w6.heap.size := Nat.le_trans hg4 hBg.size)
      | (refine step_append_any rfl (.tmp 42) (.tmp 44) 22 rfl (g + 1) 5 i0 (.int .u8 0) 1 1 Try.underlying22 hi hz0 hz1 hz2 rfl (by decide) v7 20 (byC (magic ++ hed len s) ++ byC (be 4 N)) (by simp [Act.eval, Act.put]) hown7 a len cap (byC l) (by simp [Act.eval, Act.put]) HNIL.out (by rw [byC_len, Nat.mul_one]; exact HLL.out.symm) (fun ad e => bys_cells hZ6 e) (byC_one _) (by unfold maxLen; omega) (by omega) hgs6 ?_; intro v8 w8 hown8 hgrow8))
    all_goals (
      have hB8 : Below (g + 1) w6 w8 := (Below.refl _ w6).grown hgrow8 hgs6 (fun k hk => (hown7.lt k hk).1)
      have hb8 : Below w.heap.size w w8 := (HB4.out.trans (hBg.mono hgw)).trans (hB8.mono hgw)
      have hown9 : w8.ownsRow (g + 1) 5 1 v8 (20 + len) (byC (frm s l)) := by
        have e : byC (frm s l) = byC (magic ++ hed len s) ++ byC (be 4 N) ++ byC l := by
          unfold frm sm
          rw [← HLL.out, ← HN.out]
          unfold byC
          simp only [List.map_append, List.append_assoc]
        rw [e]
        exact hown8
      clear hown8 hgrow8 hown7 hgrow7
      go_wp2_with fail
      go_meet
      exact ⟨rfl, hown9, hb8⟩)
  case rest =>
  obtain ⟨rfl, hown, hbe⟩ := hcut
  go_wp2
  refine bodyPost_ret (results_tmp2 rfl _ _ _) rfl ?_
  exact ⟨_, rfl, own_lower hown hgw, hbe⟩

end Go.Proofs.Ythmoapigjafijaa.Frm
