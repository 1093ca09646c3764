/- The walk of FramePuts: any frame's bytes are the document's, or refused. -/
import Derived.Test.YthmoapigjafijaaFrameRput
namespace Go.Proofs.Ythmoapigjafijaa.Frm
open Go.RowKit Crc
set_option linter.unusedSimpArgs false
set_option linter.unusedVariables false

theorem theirs_any (s : Int) (a : Option Addr) (len cap : Nat) (w : World) :
    Calls Try.prog 10 #[.agg #[.int .i64 s, .slice a len cap]] w fun e w' => e = .returned (.agg #[.int .i64 s, .slice a len cap]) ∧ Below w.heap.size w w' := by
  go_enter Try.func10, Try.ntmps10
  go_wp2
  have hR : Row ((w.alloc (.cells #[.int .i64 s, .slice a len cap] 24)).alloc (.cells #[.int .i64 s, .slice a len cap] 28)) (w.heap.size + 1) 28 [.int .i64 s, .slice a len cap] := by
    have h := Row.mk (w.alloc (.cells #[.int .i64 s, .slice a len cap] 24)) [.int .i64 s, .slice a len cap] 28
    rw [size_alloc] at h
    exact h
  have hc0 := hR.cell 0
  have hc1 := hR.cell 1
  have hb : Below w.heap.size w ((w.alloc (.cells #[.int .i64 s, .slice a len cap] 24)).alloc (.cells #[.int .i64 s, .slice a len cap] 28)) := ((Below.refl _ w).alloc (Nat.le_refl _) _).alloc (by simp) _
  refine bodyPost_ret (v := .agg #[.int .i64 s, .slice a len cap]) ?_ rfl ⟨rfl, hb⟩
  simp [results, Try.results10, go_sem, hc0, hc1]
theorem own_bysP {w : World} {B n : Nat} {v : Value} {l : List UInt8} (h : w.ownsRow B 5 1 v n (byC l)) : ∃ a c, v = .slice a n c ∧ Bys w a n l := by
  obtain ⟨h1, h2⟩ := h
  rw [byC_len, Nat.mul_one] at h1
  rcases h2 with ⟨rfl, rfl⟩ | ⟨g, cap, cur, rfl, hB, hg, h3, h4, h5, h6⟩
  · exact ⟨none, 0, rfl, ⟨h1.symm, fun h => absurd h (by decide)⟩⟩
  · have hR : Row w g 5 cur.toList := by unfold Row; simpa using hg
    rw [Nat.mul_one] at h6
    refine ⟨_, cap, rfl, ?_⟩
    have := row_bys0 hR l (by rw [h1]; exact h6)
    rwa [h1] at this
/-- a frame that came in -/
def FArg (w : World) (a : Option Addr) (len cap : Nat) (l : List UInt8) : Prop := Bys w a len l ∧ (a = none → len = 0 ∧ cap = 0)

set_option maxHeartbeats 1000000 in
theorem framePuts_any (s : Int) (a : Option Addr) (len cap : Nat) (l : List UInt8) (w : World) (h : FArg w a len cap l) (hs : (Lit.int .i64 s).wf = true) :
    Calls Try.prog 3 #[.agg #[.int .i64 s, .slice a len cap]] w fun e w' => e = .returned (.bool true) ∧ Below w.heap.size w w' := by
  have HZ : Hid (Bys w a len l) := h.1
  have HLL : Hid (len = l.length) := h.1.1
  have HNIL : Hid (a = none → len = 0 ∧ cap = 0) := h.2
  clear h hs
  obtain ⟨g, HGG⟩ : ∃ g, Hid (g = w.heap.size) := ⟨_, rfl⟩
  go_enter Try.func3, Try.ntmps3
  go_wp2_with fail
  obtain ⟨W, HW⟩ : ∃ W, Hid (W = w.alloc (.cells #[.int .i64 s, .slice a len cap] 24)) := ⟨_, rfl⟩
  have hW2 : Hid (Row W g 24 [.int .i64 s, .slice a len cap]) := by
    rw [HW.out, HGG.out]
    exact Row.mk w [.int .i64 s, .slice a len cap] _
  have hW3 : Hid (Below w.heap.size w W) := by
    rw [HW.out]
    exact (Below.refl _ w).alloc (Nat.le_refl _) _
  rw [← HW.out, ← HGG.out]
  clear HW
  refine (theirs_any _ _ _ _ _).mono ?_
  rintro e w1 ⟨rfl, hB1⟩
  have HB1 : Hid (Below w.heap.size w w1) := hW3.out.trans (hB1.mono hW3.out.size)
  have HR1 : Hid (Row w1 g 24 [.int .i64 s, .slice a len cap]) := hW2.out.below hB1 hW2.out.lt
  clear hB1 hW2 hW3
  by_cases hs : s < 1 ∨ 4611686018427387904 < s
  · have HS : Hid (s < 1 ∨ 4611686018427387904 < s) := hs
    clear hs
    go_wp2_with fail
    refine (put_arg _ _ _ _ _ HS.out).mono ?_
    rintro e w2 ⟨rfl, hB2⟩
    have HB2 : Hid (Below w.heap.size w w2) := HB1.out.trans (hB2.mono HB1.out.size)
    have HR2 : Hid (Row w2 g 24 [.int .i64 s, .slice a len cap]) := HR1.out.below hB2 HR1.out.lt
    have hc0 : w2.cell? ⟨g, 0, none⟩ = some (.int .i64 s) := by rw [HR2.out.cell]; rfl
    have hc1 : w2.cell? ⟨g, 1, none⟩ = some (.slice a len cap) := by rw [HR2.out.cell]; rfl
    clear hB2
    go_wp2_with fail
    refine (rput_arg _ _ _ _ _ HS.out).mono ?_
    rintro e w3 ⟨rfl, hB3⟩
    have HB3 : Hid (Below w.heap.size w w3) := HB2.out.trans (hB3.mono HB2.out.size)
    have hcv := conv_bys (w := w3) (a := none) (len := 0) (cap := 0) (l := []) ⟨rfl, fun h => absurd h (by decide)⟩
    clear hB3 hc0 hc1
    go_wp2_with fail
    refine (alive_any _).mono ?_
    rintro e w4 ⟨rfl, hB4⟩
    have hbel := HB3.out.trans (hB4.mono HB3.out.size)
    clear hB4 hcv
    go_wp2
    go_ret
    exact ⟨rfl, hbel⟩
  obtain ⟨n, rfl⟩ : ∃ n : Nat, s = (n : Int) := ⟨s.toNat, by omega⟩
  have hn1 : 1 ≤ n := by omega
  have hn2 : n ≤ 4611686018427387904 := by omega
  clear hs
  by_cases hm : 262144 < len
  · have HM : Hid (262144 < len) := hm
    clear hm
    go_wp2_with fail
    refine (put_many n _ _ _ _ hn1 hn2 HM.out).mono ?_
    rintro e w2 ⟨rfl, hB2⟩
    have HB2 : Hid (Below w.heap.size w w2) := HB1.out.trans (hB2.mono HB1.out.size)
    have HR2 : Hid (Row w2 g 24 [.int .i64 n, .slice a len cap]) := HR1.out.below hB2 HR1.out.lt
    have hc0 : w2.cell? ⟨g, 0, none⟩ = some (.int .i64 n) := by rw [HR2.out.cell]; rfl
    have hc1 : w2.cell? ⟨g, 1, none⟩ = some (.slice a len cap) := by rw [HR2.out.cell]; rfl
    clear hB2
    go_wp2_with fail
    refine (rput_many n _ _ _ _ hn1 hn2 HM.out).mono ?_
    rintro e w3 ⟨rfl, hB3⟩
    have HB3 : Hid (Below w.heap.size w w3) := HB2.out.trans (hB3.mono HB2.out.size)
    have hcv := conv_bys (w := w3) (a := none) (len := 0) (cap := 0) (l := []) ⟨rfl, fun h => absurd h (by decide)⟩
    clear hB3 hc0 hc1
    go_wp2_with fail
    refine (alive_any _).mono ?_
    rintro e w4 ⟨rfl, hB4⟩
    have hbel := HB3.out.trans (hB4.mono HB3.out.size)
    clear hB4 hcv
    go_wp2
    go_ret
    exact ⟨rfl, hbel⟩
  have hm1 : len ≤ 262144 := by omega
  clear hm
  go_wp2_with fail
  refine (put_ok n _ _ _ l _ hn1 hn2 (HZ.out.later HB1.out (Nat.le_refl _)) hm1).mono ?_
  rintro e w2 ⟨g2, hg2, rfl, hR, hB2⟩
  have HB2 : Hid (Below w.heap.size w w2) := HB1.out.trans (hB2.mono HB1.out.size)
  have HR2 : Hid (Row w2 g 24 [.int .i64 n, .slice a len cap]) := HR1.out.below hB2 HR1.out.lt
  have hc0 : w2.cell? ⟨g, 0, none⟩ = some (.int .i64 n) := by rw [HR2.out.cell]; rfl
  have hc1 : w2.cell? ⟨g, 1, none⟩ = some (.slice a len cap) := by rw [HR2.out.cell]; rfl
  have HF : Hid (Bys w2 (some ⟨g2, 0, none⟩) (20 + len) (frm n l)) := row_byC hR _ (by rw [frm_len, HLL.out])
  clear hB2 hR hg2
  obtain ⟨F, HFF⟩ : ∃ F, Hid (F = frm n l) := ⟨_, rfl⟩
  rw [← HFF.out] at HF
  obtain ⟨q, HQ⟩ : ∃ q, Hid (q = 20 + len) := ⟨_, rfl⟩
  rw [← HQ.out] at HF ⊢
  go_wp2_with fail
  refine (rput_ok n _ _ _ l _ hn1 hn2 (HZ.out.later HB2.out (Nat.le_refl _)) hm1 HNIL.out).mono ?_
  rintro e w3 ⟨v, rfl, hown, hB3⟩
  have HB3 : Hid (Below w.heap.size w w3) := HB2.out.trans (hB3.mono HB2.out.size)
  rw [← HFF.out, ← HQ.out] at hown
  obtain ⟨va, vc, rfl, hbv⟩ := own_bysP hown
  have hcv1 := conv_bys (cap := q) (HF.out.later hB3 (Nat.le_refl _))
  have hcv2 := conv_bys (cap := vc) hbv
  clear hB3 hc0 hc1 hown hbv
  go_wp2_with fail
  refine (alive_any _).mono ?_
  rintro e w4 ⟨rfl, hB4⟩
  have hbel := HB3.out.trans (hB4.mono HB3.out.size)
  clear hB4 hcv1 hcv2
  go_wp2
  go_ret
  exact ⟨rfl, hbel⟩

end Go.Proofs.Ythmoapigjafijaa.Frm
