/- alive: a frame of two bytes. -/
import Derived.Test.YthmoapigjafijaaFramePut
import Derived.Test.YthmoapigjafijaaFrameNext
import Derived.Lib.SlBytesConst
namespace Go.Proofs.Ythmoapigjafijaa.Frm
open Go.RowKit Crc
set_option linter.unusedSimpArgs false
set_option linter.unusedVariables false

theorem row_bys0 {w : World} {g : Nat} {t : TypeId} {cur : List Value} (h : Row w g t cur) (l : List UInt8) (hc : cur.take l.length = byC l) : Bys w (some ⟨g, 0, none⟩) l.length l :=
  row_bys h 0 l.length l rfl (by rw [List.drop_zero]; exact hc)
theorem row_byC {w : World} {g : Nat} {t : TypeId} {l : List UInt8} (h : Row w g t (byC l)) (n : Nat) (hn : n = l.length) : Bys w (some ⟨g, 0, none⟩) n l := by
  subst hn
  exact row_bys0 h l (by rw [← byC_len l, List.take_length])
theorem byte_row (w : World) (l : List UInt8) (C : Array Value) (t : TypeId) (fr : Nat × Nat) (hC : C = (byC l).toArray) : Bys (w.alloc (.cells C t fr)) (some ⟨w.heap.size, 0, none⟩) l.length l := by
  exact bys_of_block (heap_alloc_last w _) l (by rw [hC]; rfl)
/-- a frame of one's own is got -/
theorem nxt_one (s : Nat) (d : List UInt8) (h1 : 1 ≤ s) (h2 : s ≤ 4611686018427387904) (hd : d.length ≤ 262144) : nxtE (frm s d) = 0 ∧ nxtS (frm s d) = s ∧ nxtD (frm s d) = d ∧ nxtN (frm s d) = 20 + d.length := by
  have := nxt_frm s d [] h1 h2 hd
  rwa [List.append_nil] at this

set_option maxHeartbeats 1000000 in
theorem alive_any (w : World) : Calls Try.prog 12 #[] w fun e w' => e = .returned (.bool true) ∧ Below w.heap.size w w' := by
  have h1 := Lib.run_convert_bytes_const (P := Try.prog) w 22 5 #[.int .u8 97, .int .u8 98] 2 2 Try.underlying22 Try.underlying5
  go_enter Try.func12, Try.ntmps12
  go_wp2_with fail
  clear h1
  have hb0 : Bys (w.alloc (.cells #[.int .u8 97, .int .u8 98] 5 (2, 3))) (some ⟨w.heap.size, 0, none⟩) 2 [97, 98] := byte_row w [97, 98] _ _ _ (by simp [byC, nm_wd])
  have hB0 : Below w.heap.size w (w.alloc (.cells #[.int .u8 97, .int .u8 98] 5 (2, 3))) := (Below.refl _ w).alloc (Nat.le_refl _) _
  refine (put_ok 7 _ 2 2 [97, 98] _ (by decide) (by decide) hb0 (by decide)).mono ?_
  rintro e w1 ⟨g, hg, rfl, hR, hB1⟩
  have HB1 : Hid (Below w.heap.size w w1) := hB0.trans (hB1.mono hB0.size)
  have HR : Hid (Row w1 g 5 (byC (frm 7 [97, 98]))) := hR
  clear hB0 hb0 hB1 hR hg
  go_wp2_with fail
  obtain ⟨n1, n2, n3, n4⟩ := nxt_one 7 [97, 98] (by decide) (by decide) (by decide)
  have hbl : Bys w1 (some ⟨g, 0, none⟩) 22 (frm 7 [97, 98]) := row_byC HR.out 22 (by rw [frm_len]; rfl)
  refine (next_ok _ 22 22 (frm 7 [97, 98]) _ hbl (by decide) (by decide) n1 7 22 [97, 98] n2 n4 n3).mono ?_
  rintro e w2 ⟨gv, cv, cur, rfl, hgv, hRv, htk, hlc, hcm, hB2⟩
  have HB2 : Hid (Below w.heap.size w w2) := HB1.out.trans (hB2.mono HB1.out.size)
  have hbl2 : Bys w2 (some ⟨g, 0, none⟩) 4 magic := by
    have h := bys_take (hbl.later hB2 (Nat.le_refl _)) 4 (by decide)
    have e := (parts_frm 7 [97, 98] []).1
    rw [List.append_nil] at e
    rwa [e] at h
  have hbv2 : Bys w2 (some ⟨gv, 0, none⟩) 2 [97, 98] := row_bys0 hRv [97, 98] htk
  have hBa : Below w2.heap.size w2 (w2.alloc (.cells #[.int .i64 7, .slice (some ⟨gv, 0, none⟩) 2 cv] 28)) := (Below.refl _ w2).alloc (Nat.le_refl _) _
  have hcv1 := conv_bys (cap := 22) (hbl2.later hBa (Nat.le_refl _))
  have hcv2 := conv_bys (cap := cv) (hbv2.later hBa (Nat.le_refl _))
  have hs1 : ((mk magic).toList == [89, 82, 69, 67]) = true := by rw [mk_toList]; rfl
  have hs2 : ((mk [97, 98]).toList == [97, 98]) = true := by rw [mk_toList]; rfl
  have HB3 : Hid (Below w.heap.size w (w2.alloc (.cells #[.int .i64 7, .slice (some ⟨gv, 0, none⟩) 2 cv] 28))) := HB2.out.alloc HB2.out.size _
  clear hbl hbl2 hbv2 hBa hB2 htk hRv HB2 HB1 HR n1 n2 n3 n4
  rw [show ([97, 98] : List UInt8).length = 2 from rfl] at hlc ⊢
  go_wp2
  all_goals go_ret
  all_goals exact ⟨rfl, HB3.out⟩

end Go.Proofs.Ythmoapigjafijaa.Frm
