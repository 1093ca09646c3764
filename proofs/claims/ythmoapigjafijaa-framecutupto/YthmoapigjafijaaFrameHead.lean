/- A frame's beginning. -/
import Derived.Test.YthmoapigjafijaaFramePutn
import Derived.BigQuiet
import Derived.Deep.QuietTactic
import Derived.Deep.MidRow
import Derived.Deep.RegionWith
import Derived.Lib.BufferWrite
namespace Go.Proofs.Ythmoapigjafijaa.Frm
open Go.RowKit Crc
set_option linter.unusedSimpArgs false
set_option linter.unusedVariables false

def zer (n : Nat) : List Value := List.replicate n (.int .u8 0)
theorem zer_len (n : Nat) : (zer n).length = n := by simp [zer]
theorem info8 : (Try.prog.info? 5).map (·.size) = some 1 := by kernel_rfl
theorem info20 : (Try.prog.info? 56).map (·.size) = some 20 := by kernel_rfl
theorem Row.below {w w' : World} {g B : Nat} {t : TypeId} {cur : List Value} (h : Row w g t cur) (hb : Below B w w') (hg : g < B) : Row w' g t cur := by
  unfold Row at *
  rw [hb.block g hg]; exact h
theorem Row.lt {w : World} {g : Nat} {t : TypeId} {cur : List Value} (h : Row w g t cur) : g < w.heap.size := lt_of_heap h
theorem size_alloc (w : World) (o : Obj) : (w.alloc o).heap.size = w.heap.size + 1 := by simp
theorem Row.mk (w : World) (cur : List Value) (t : TypeId) : Row (w.alloc (.cells cur.toArray t)) w.heap.size t cur := heap_alloc_last w _
theorem Row.old {w : World} {g : Nat} {t : TypeId} {cur : List Value} (h : Row w g t cur) (o : Obj) : Row (w.alloc o) g t cur := h.below ((Below.refl _ w).alloc (Nat.le_refl _) o) h.lt
theorem magicC : byC magic = Lib.byteCells [89, 82, 69, 67] := by simp [byC, magic, Lib.byteCells, nm_wd]

theorem head_cut (n s : Nat) : ((splice (splice (splice (zer 20) 0 (byC magic)) 4 (byC (be 4 n))) 8 (byC (be 8 s))).drop 4).take 12 = byC (hed n s) := by
  have h1 := be_len 4 n
  have h2 := be_len 8 s
  unfold hed
  generalize be 4 n = x at *
  generalize be 8 s = y at *
  match x, h1 with
  | [x0, x1, x2, x3], _ =>
  match y, h2 with
  | [y0, y1, y2, y3, y4, y5, y6, y7], _ => simp [splice, zer, byC, magic, List.replicate]
theorem head_all (n s m : Nat) : splice (splice (splice (splice (zer 20) 0 (byC magic)) 4 (byC (be 4 n))) 8 (byC (be 8 s))) 16 (byC (be 4 m)) = byC (magic ++ (hed n s ++ be 4 m)) := by
  have h1 := be_len 4 n
  have h2 := be_len 8 s
  have h3 := be_len 4 m
  unfold hed
  generalize be 4 n = x at *
  generalize be 8 s = y at *
  generalize be 4 m = z at *
  match x, h1 with
  | [x0, x1, x2, x3], _ =>
  match y, h2 with
  | [y0, y1, y2, y3, y4, y5, y6, y7], _ =>
  match z, h3 with
  | [z0, z1, z2, z3], _ => simp [splice, zer, byC, magic, List.replicate]
theorem row_bys {w : World} {g : Nat} {t : TypeId} {cur : List Value} (h : Row w g t cur) (off len : Nat) (l : List UInt8) (hl : len = l.length) (hc : (cur.drop off).take len = byC l) : Bys w (some ⟨g, off, none⟩) len l := by
  refine ⟨hl, fun _ => ⟨g, off, rfl, h.lt, fun i hi => ?_⟩⟩
  rw [h.cell, ← byC_at l i (by omega), ← hc, List.getElem?_take, if_pos hi, List.getElem?_drop]
theorem sum_two_drew {w : World} {a a' : Option Addr} {len cap len' cap' : Nat} {l l' : List UInt8} (b N : Nat) (hb : b = w.heap.size) (h : Bys w a len l) (hm : len ≤ maxLen) (h' : Bys w a' len' l') (hm' : len' ≤ maxLen) (hN : N = (sum (l ++ l')).toNat) :
    Calls Try.prog 26 #[.slice (some ⟨b, 0, none⟩) 2 2] (w.alloc (.cells #[.slice a len cap, .slice a' len' cap'] 22)).drew fun e w' => e = .returned (.int .u32 (N : Int)) ∧ Below w.heap.size w w' := by
  subst hb
  have hP : Parts (w.alloc (.cells #[.slice a len cap, .slice a' len' cap'] 22)).drew (some ⟨w.heap.size, 0, none⟩) 2 [l, l'] := parts_two (cap := cap) (cap' := cap') _ h hm h' hm'
  refine (sum_any _ 2 2 [l, l'] _ hP (by decide)).mono ?_
  rintro e w' ⟨rfl, hbe⟩
  refine ⟨?_, ((((Below.refl _ w).alloc (Nat.le_refl _) _).drew).trans (hbe.mono (by show w.heap.size ≤ (w.alloc _).heap.size; simp)))⟩
  rw [hN, nm_eq, show sums [l, l'] = sum (l ++ l') from (sum_app l l').symm]

theorem headOf_any (s : Nat) (a : Option Addr) (len cap : Nat) (l : List UInt8) (w : World) (hl : Bys w a len l) (hm : len ≤ 262144) (hs : s ≤ 4611686018427387904) :
    Calls Try.prog 21 #[.agg #[.int .i64 s, .slice a len cap]] w fun e w' => e = .returned (.agg (byC (magic ++ (hed l.length s ++ sm l.length s l))).toArray) ∧ Below w.heap.size w w' := by
  have HZ : Hid (Bys w a len l) := hl
  have HLL : Hid (len = l.length) := hl.1
  clear hl
  go_enter Try.func21, Try.ntmps21
  go_wp2_with fail
  obtain ⟨g, HGG⟩ : ∃ g, Hid (g = w.heap.size) := ⟨_, rfl⟩
  obtain ⟨W, HW⟩ : ∃ W, Hid (W = ((w.alloc (.cells #[.int .i64 s, .slice a len cap] 28)).alloc (.cells (zer 20).toArray 56)).alloc (.cells (zer 20).toArray 56)) := ⟨_, rfl⟩
  have hW2 : Hid (Row W g 28 [.int .i64 s, .slice a len cap]) := by
    rw [HW.out, HGG.out]
    exact ((Row.mk w [.int .i64 s, .slice a len cap] _).old _).old _
  have hW1 : Hid (Row W (g + 1) 56 (zer 20)) := by
    rw [HW.out, HGG.out]
    have := (Row.mk (w.alloc (.cells #[.int .i64 s, .slice a len cap] 28)) (zer 20) 56).old (.cells (zer 20).toArray 56)
    rw [size_alloc] at this
    exact this
  have hW0 : Hid (Row W (g + 1 + 1) 56 (zer 20)) := by
    rw [HW.out, HGG.out]
    have := Row.mk ((w.alloc (.cells #[.int .i64 s, .slice a len cap] 28)).alloc (.cells (zer 20).toArray 56)) (zer 20) 56
    rw [size_alloc, size_alloc] at this
    exact this
  have hW3 : Hid (Below w.heap.size w W) := by
    rw [HW.out]
    exact ((((Below.refl _ w).alloc (Nat.le_refl _) _).alloc (by rw [size_alloc]; omega) _).alloc (by rw [size_alloc, size_alloc]; omega) _)
  have hW4 : Hid (W.heap.size = g + 1 + 1 + 1) := by
    show _ = _
    rw [HW.out, HGG.out, size_alloc, size_alloc, size_alloc]
  rw [show (((w.alloc (.cells #[.int .i64 s, .slice a len cap] 28)).alloc (.cells #[.int .u8 0, .int .u8 0, .int .u8 0, .int .u8 0, .int .u8 0, .int .u8 0, .int .u8 0, .int .u8 0, .int .u8 0, .int .u8 0, .int .u8 0, .int .u8 0, .int .u8 0, .int .u8 0, .int .u8 0, .int .u8 0, .int .u8 0, .int .u8 0, .int .u8 0, .int .u8 0] 56)).alloc (.cells #[.int .u8 0, .int .u8 0, .int .u8 0, .int .u8 0, .int .u8 0, .int .u8 0, .int .u8 0, .int .u8 0, .int .u8 0, .int .u8 0, .int .u8 0, .int .u8 0, .int .u8 0, .int .u8 0, .int .u8 0, .int .u8 0, .int .u8 0, .int .u8 0, .int .u8 0, .int .u8 0] 56)) = W from HW.out.symm, ← HGG.out]
  clear HW
  rw [Lib.run_copy_row_string (P := Try.prog) W 22 9 3 5 (g + 1 + 1) 0 20 20 _ (zer 20).toArray 56 Try.underlying22 info8 hW0.out (by decide) (by decide)]
  obtain ⟨W1, HW1⟩ : ∃ W1, Hid (W1 = W.setRow (g + 1 + 1) (splice (zer 20) 0 (byC magic)).toArray) := ⟨_, rfl⟩
  rw [show (W.setRow (g + 1 + 1) (List.take 0 (zer 20).toArray.toList ++ Lib.byteCells (ByteArray.mk #[89, 82, 69, 67]).data.toList ++ List.drop (0 + (ByteArray.mk #[89, 82, 69, 67]).size) (zer 20).toArray.toList).toArray) = W1 by
    rw [HW1.out, magicC]; rfl]
  have h1R : Hid (Row W1 (g + 1 + 1) 56 (splice (zer 20) 0 (byC magic))) := by
    rw [HW1.out]; exact setRow_heap W _ _ _ _ _ hW0.out
  have h1B : Hid (Below (g + 1 + 1) W W1) := by rw [HW1.out]; exact below_setRow (Below.refl _ _) (Nat.le_refl _) _
  have hc0 : W1.cell? ⟨g, 0, none⟩ = some (.int .i64 s) := by rw [h1B.out.cell (p := ⟨g, 0, none⟩) (by show g < _; omega), hW2.out.cell]; rfl
  have hc1 : W1.cell? ⟨g, 1, none⟩ = some (.slice a len cap) := by rw [h1B.out.cell (p := ⟨g, 1, none⟩) (by show g < _; omega), hW2.out.cell]; rfl
  clear HW1
  go_wp2_with fail
  obtain ⟨c1, HC1⟩ : ∃ c1, Hid (c1 = splice (zer 20) 0 (byC magic)) := ⟨_, rfl⟩
  have HL1 : Hid (c1.length = 20) := by
    show c1.length = 20
    rw [HC1.out, splice_len _ _ _ (by rw [zer_len, byC_len]; decide), zer_len]
  rw [← HC1.out] at h1R
  have hwr : IntKind.u64.wrap (len : Int) = (len : Int) := by rw [IntKind.wrap_u64]; omega
  have h1D : Hid (Row W1.drew (g + 1 + 1) 56 c1) := h1R.out
  go_region_with (go_at_call 33; refine (putNumber_any _ 4 4 _ len c1 _ _ h1D.out (by rw [HL1.out]; decide) (by decide) (by omega)).mono ?_; rintro e w2 ⟨rfl, hR2, hB2⟩)
  have h2R : Hid (Row w2 (g + 1 + 1) 56 (splice c1 4 (byC (be 4 len)))) := hR2
  have h2B : Hid (Below (g + 1 + 1) W w2) := h1B.out.trans (by exact ((Below.refl _ W1).drew).trans hB2)
  clear hR2 hB2 h1B h1D h1R hc0 hc1
  have hc0 : w2.cell? ⟨g, 0, none⟩ = some (.int .i64 s) := by rw [h2B.out.cell (p := ⟨g, 0, none⟩) (by show g < _; omega), hW2.out.cell]; rfl
  have hc1 : w2.cell? ⟨g, 1, none⟩ = some (.slice a len cap) := by rw [h2B.out.cell (p := ⟨g, 1, none⟩) (by show g < _; omega), hW2.out.cell]; rfl
  obtain ⟨c2, HC2⟩ : ∃ c2, Hid (c2 = splice c1 4 (byC (be 4 len))) := ⟨_, rfl⟩
  have HL2 : Hid (c2.length = 20) := by
    show c2.length = 20
    rw [HC2.out, splice_len _ _ _ (by rw [byC_len, be_len, HL1.out]; decide), HL1.out]
  rw [← HC2.out] at h2R
  have h2D : Hid (Row w2.drew (g + 1 + 1) 56 c2) := h2R.out
  have hws : IntKind.u64.wrap (s : Int) = (s : Int) := by rw [IntKind.wrap_u64]; omega
  go_upto_region 4 with fail
  go_region_with (go_at_call 33; refine (putNumber_any _ 8 8 _ s c2 _ _ h2D.out (by rw [HL2.out]; decide) (by decide) (by omega)).mono ?_; rintro e w3 ⟨rfl, hR3, hB3⟩)
  have h3R : Hid (Row w3 (g + 1 + 1) 56 (splice c2 8 (byC (be 8 s)))) := hR3
  have h3B : Hid (Below (g + 1 + 1) W w3) := h2B.out.trans (by exact ((Below.refl _ w2).drew).trans hB3)
  clear hR3 hB3 h2B h2D h2R hc0 hc1 hws hwr
  have hc0 : w3.cell? ⟨g, 0, none⟩ = some (.int .i64 s) := by rw [h3B.out.cell (p := ⟨g, 0, none⟩) (by show g < _; omega), hW2.out.cell]; rfl
  have hc1 : w3.cell? ⟨g, 1, none⟩ = some (.slice a len cap) := by rw [h3B.out.cell (p := ⟨g, 1, none⟩) (by show g < _; omega), hW2.out.cell]; rfl
  obtain ⟨c3, HC3⟩ : ∃ c3, Hid (c3 = splice c2 8 (byC (be 8 s))) := ⟨_, rfl⟩
  have HL3 : Hid (c3.length = 20) := by
    show c3.length = 20
    rw [HC3.out, splice_len _ _ _ (by rw [byC_len, be_len, HL2.out]; decide), HL2.out]
  rw [← HC3.out] at h3R
  go_upto_region 5 with fail
  have HD : Hid (Bys w3 (some ⟨g + 1 + 1, 4, none⟩) 12 (hed len s)) := row_bys h3R.out 4 12 _ (hed_len _ _).symm (by rw [HC3.out, HC2.out, HC1.out]; exact head_cut len s)
  have HZ3 : Hid (Bys w3 a len l) := HZ.out.later (hW3.out.trans (h3B.out.mono (by rw [HGG.out]; omega))) (Nat.le_refl _)
  obtain ⟨N, HN⟩ : ∃ N, Hid (N = (sum (hed len s ++ l)).toNat) := ⟨_, rfl⟩
  have hN : N < 4294967296 := by rw [HN.out]; exact sum_lt _
  have hwn : IntKind.u64.wrap (N : Int) = (N : Int) := by rw [IntKind.wrap_u64]; omega
  have hg3 : g + 1 + 1 < w3.heap.size := h3R.out.lt
  go_region_with (first | (go_at_call 26; refine (sum_two_drew _ N rfl HD.out (by decide) HZ3.out (by unfold maxLen; omega) HN.out).mono ?_; rintro e w4 ⟨rfl, hB4⟩) | (go_at_call 33; refine (putNumber_any _ 16 4 _ N c3 _ _ (h3R.out.below hB4 hg3) (by rw [HL3.out]; decide) (by decide) (by omega)).mono ?_; rintro e w5 ⟨rfl, hR5, hB5⟩))
  have hbW : Below (g + 1 + 1) W w5 := h3B.out.trans ((hB4.mono (by omega)).trans hB5)
  obtain ⟨C, HC⟩ : ∃ C, Hid (C = byC (magic ++ (hed len s ++ be 4 N))) := ⟨_, rfl⟩
  have hR : Row w5 (g + 1 + 1) 56 C := by
    rw [HC.out, ← head_all, ← HC1.out, ← HC2.out, ← HC3.out]
    exact hR5
  have hCL : Hid (C.length = 20) := by
    show C.length = 20
    rw [HC.out, byC_len, List.length_append, List.length_append, hed_len, be_len]
    rfl
  have hr : w5.rangeAt (g + 1 + 1) 0 C := by
    intro j v hv
    rw [Nat.zero_add, hR.cell, hv]
  have hR1 : Row w5 (g + 1) 56 (zer 20) := hW1.out.below hbW (by omega)
  have ht : w5.there (g + 1) 0 C.toArray.size := by
    intro j hj
    rw [List.size_toArray, hCL.out] at hj
    rw [Nat.zero_add, hR1.cell, hR1.free]
    exact ⟨by rw [List.getElem?_eq_getElem (by rw [zer_len]; exact hj)]; rfl, rfl⟩
  have hone : ∀ v ∈ C.toArray, v.oneCell' = true := by
    intro v hv
    rw [HC.out] at hv
    exact byC_one _ v (by simpa using hv)
  clear hR5 hB5 hB4 h3B h3R hc0 hc1 HD HZ3 HZ
  go_upto_region 6 with fail
  refine wp_region_lit ?_
  refine wpList_load_mid rfl 56 (.tmp 3) rfl (g + 1 + 1) 0 rfl C _ hr Try.underlying56 rfl (by rw [hCL.out]; exact info20) ?_
  refine wpList_store_mid rfl 56 (.tmp 2) (.tmp 25) rfl (g + 1) 0 C.toArray rfl rfl ht (by rw [List.size_toArray, hCL.out]; exact info20) (by simpa using hone) ?_
  refine wpList_nil ?_
  have hrt : (w5.setCells (g + 1) 0 C.toArray.toList).rangeAt (g + 1) 0 C := World.rangeAt_setCells_same _ _ _ C (by simpa using ht)
  have hbe : Below w.heap.size w (w5.setCells (g + 1) 0 C.toArray.toList) :=
    below_setCells (by rw [HGG.out]; omega) _ _ _ _ (hW3.out.trans (hbW.mono (by rw [HGG.out]; omega)))
  generalize (w5.setCells (g + 1) 0 C.toArray.toList) = W6 at *
  have HR : Hid (W6.rangeAt (g + 1) 0 C) := hrt
  clear hrt hr ht hone
  go_wp2
  refine bodyPost_ret (v := .agg C.toArray) ?_ rfl ⟨by rw [HC.out, sm, HN.out, HLL.out], hbe⟩
  have hl := run_loadVar_mid (P := Try.prog) W6 (g + 1) 0 56 C _ HR.out Try.underlying56 rfl (by rw [hCL.out]; exact info20)
  simp only [results, Try.results21]
  simp [Act.put, Sem.run_bind, asAddr, hl, Result.andThen]

end Go.Proofs.Ythmoapigjafijaa.Frm
