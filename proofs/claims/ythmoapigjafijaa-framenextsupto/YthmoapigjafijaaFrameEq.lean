/- frame.Same, by slices.EqualFunc; ours. -/
import Derived.Test.YthmoapigjafijaaFrameSame
namespace Go.Proofs.Ythmoapigjafijaa.Frm
open Go.RowKit Crc
set_option linter.unusedSimpArgs false
set_option linter.unusedVariables false

set_option maxHeartbeats 1000000 in
theorem equalFunc_any (a b : Option Addr) (n c c' : Nat) (g1 g2 : List Gr) (w : World) (h1 : GAt w a n g1) (h2 : GAt w b n g2) (hs : g1.map Gr.sd = g2.map Gr.sd) (hn : n * 2 ≤ 140737488355328) :
    Calls Try.prog 31 #[.slice a n c, .slice b n c', .func (.func 32) #[] #[]] w fun e w' => e = .returned (.bool true) ∧ Below w.heap.size w w' := by
  have H1 : Hid (GAt w a n g1) := h1
  have H2 : Hid (GAt w b n g2) := h2
  have HS : Hid (g1.map Gr.sd = g2.map Gr.sd) := hs
  have HN : Hid (n = g1.length) := h1.1
  clear h1 h2 hs
  go_enter Try.func31, Try.ntmps31
  go_wp2
  go_loopw [17] (fun i wr => ∃ k : Nat, k ≤ n ∧ i = .int .i64 k ∧ Below w.heap.size w wr) (fun i _ => n - (intOf i).toNat)
  case atStart => exact ⟨0, Nat.zero_le _, rfl, Below.refl _ _⟩
  case round =>
    obtain ⟨k, hk, rfl, hbr⟩ := hrel
    have HBR : Hid (Below w.heap.size w wr) := hbr
    clear hbr
    by_cases hlt : k < n
    · obtain ⟨y1, y2, e1, e2, es, ed⟩ := two_at HS.out (k := k) (by rw [← HN.out]; exact hlt)
      obtain ⟨ga, rfl, hga, hca⟩ := H1.out.2.1 (by omega)
      obtain ⟨gb, rfl, hgb, hcb⟩ := H2.out.2.1 (by omega)
      obtain ⟨ha0, ha1⟩ := hca k y1 e1
      obtain ⟨hb0, hb1⟩ := hcb k y2 e2
      have hd1 := H1.out.2.2 y1 (List.mem_of_getElem? e1)
      have hd2 := H2.out.2.2 y2 (List.mem_of_getElem? e2)
      obtain ⟨d, HD⟩ : ∃ d, Hid (d = y1.d) := ⟨_, rfl⟩
      obtain ⟨q, HQ⟩ : ∃ q, Hid (q = y1.s) := ⟨_, rfl⟩
      rw [← es, ← HQ.out] at hb0
      rw [← ed, ← HD.out] at hb1 hd2
      rw [← HQ.out] at ha0
      rw [← HD.out] at ha1 hd1
      have hz0 : wr.cell? ⟨ga, k * 2, none⟩ = some (.int .i64 q) := (HBR.out.cell (p := ⟨ga, k * 2, none⟩) hga).trans ha0
      have hz1 : wr.cell? ⟨ga, k * 2 + 1, none⟩ = some (.slice y1.a d.length y1.c) := (HBR.out.cell (p := ⟨ga, k * 2 + 1, none⟩) hga).trans ha1
      have hBa : Below w.heap.size w (wr.alloc (.cells #[.int .i64 q, .slice y1.a d.length y1.c] 28)) := HBR.out.alloc HBR.out.size _
      have hz2 : (wr.alloc (.cells #[.int .i64 q, .slice y1.a d.length y1.c] 28)).cell? ⟨gb, k * 2, none⟩ = some (.int .i64 q) := (hBa.cell (p := ⟨gb, k * 2, none⟩) hgb).trans hb0
      have hz3 : (wr.alloc (.cells #[.int .i64 q, .slice y1.a d.length y1.c] 28)).cell? ⟨gb, k * 2 + 1, none⟩ = some (.slice y2.a d.length y2.c) := (hBa.cell (p := ⟨gb, k * 2 + 1, none⟩) hgb).trans hb1
      have HB2 : Hid (Below w.heap.size w ((wr.alloc (.cells #[.int .i64 q, .slice y1.a d.length y1.c] 28)).alloc (.cells #[.int .i64 q, .slice y2.a d.length y2.c] 28))) := hBa.alloc hBa.size _
      have HD1 : Hid (Bys w y1.a d.length d) := hd1
      have HD2 : Hid (Bys w y2.a d.length d) := hd2
      clear hca hcb ha0 ha1 hb0 hb1 hd1 hd2 e1 e2 es ed hBa
      go_wp2_with fail
      refine (sameFrame_any _ _ _ _ _ _ d _ (HD1.out.later HB2.out (Nat.le_refl _)) (HD2.out.later HB2.out (Nat.le_refl _))).mono ?_
      rintro e w3 ⟨rfl, hB3⟩
      have HB3 : Hid (Below w.heap.size w w3) := HB2.out.trans (hB3.mono HB2.out.size)
      clear hB3 hz0 hz1 hz2 hz3
      go_wp2
      go_roundw
      case rel => exact ⟨k + 1, by omega, by go_num, HB3.out⟩
      case measure => simp [intOf]; omega
    · go_wp2
      go_ret
      exact ⟨rfl, HBR.out⟩
theorem same_any (a b : Option Addr) (n c c' : Nat) (g1 g2 : List Gr) (w : World) (h1 : GAt w a n g1) (h2 : GAt w b n g2) (hs : g1.map Gr.sd = g2.map Gr.sd) (hn : n * 2 ≤ 140737488355328) :
    Calls Try.prog 19 #[.slice a n c, .slice b n c'] w fun e w' => e = .returned (.bool true) ∧ Below w.heap.size w w' := by
  have H1 : Hid (GAt w a n g1) := h1
  have H2 : Hid (GAt w b n g2) := h2
  have HS : Hid (g1.map Gr.sd = g2.map Gr.sd) := hs
  have HN : Hid (n * 2 ≤ 140737488355328) := hn
  clear h1 h2 hs hn
  go_enter Try.func19, Try.ntmps19
  go_wp2_with fail
  refine (equalFunc_any _ _ _ _ _ _ _ _ H1.out H2.out HS.out HN.out).mono ?_
  rintro e w1 ⟨rfl, hB1⟩
  go_wp2
  go_ret
  exact ⟨rfl, hB1⟩

set_option maxHeartbeats 1000000 in
theorem ours_any (a : Option Addr) (n c : Nat) (gs : List Gr) (w : World) (h : GAt w a n gs) (hn : n * 32 ≤ 140737488355328) :
    Calls Try.prog 18 #[.slice a n c] w fun e w' => ∃ va vc, e = .returned (.slice va n vc) ∧ GAt w' va n gs ∧ Below w.heap.size w w' := by
  have H : Hid (GAt w a n gs) := h
  have HN : Hid (n = gs.length) := h.1
  obtain ⟨i0, hi, hz0, hz1, hz2⟩ := info_parts infoRframe
  clear h
  go_enter Try.func18, Try.ntmps18
  go_wp2
  go_loopw [3, 8] (fun v i wr => ∃ k : Nat, k ≤ n ∧ i = .int .i64 k ∧ wr.ownsRow w.heap.size 24 2 v k (cellsG (gs.take k)) ∧ Below w.heap.size w wr) (fun _ i _ => n - (intOf i).toNat)
  case atStart => exact ⟨0, Nat.zero_le _, rfl, World.ownsRow_nil _ _ _ _, Below.refl _ _⟩
  case round =>
    obtain ⟨k, hk, rfl, hown, hbr⟩ := hrel
    have HBR : Hid (Below w.heap.size w wr) := hbr
    have HO : Hid (wr.ownsRow w.heap.size 24 2 u3 k (cellsG (gs.take k))) := hown
    clear hbr hown
    by_cases hlt : k < n
    · obtain ⟨ga, rfl, hga, hca⟩ := H.out.2.1 (by omega)
      obtain ⟨y, hy⟩ : ∃ y, gs[k]? = some y := ⟨_, List.getElem?_eq_getElem (by rw [← HN.out]; exact hlt)⟩
      obtain ⟨ha0, ha1⟩ := hca k y hy
      obtain ⟨S, HSS⟩ : ∃ S, Hid (S = y.s) := ⟨_, rfl⟩
      obtain ⟨L, HLL⟩ : ∃ L, Hid (L = y.d.length) := ⟨_, rfl⟩
      rw [← HSS.out] at ha0
      rw [← HLL.out] at ha1
      have hq0 : wr.cell? ⟨ga, k * 2, none⟩ = some (.int .i64 S) := (HBR.out.cell (p := ⟨ga, k * 2, none⟩) hga).trans ha0
      have hq1 : wr.cell? ⟨ga, k * 2 + 1, none⟩ = some (.slice y.a L y.c) := (HBR.out.cell (p := ⟨ga, k * 2 + 1, none⟩) hga).trans ha1
      have HTK : Hid (cellsG (gs.take (k + 1)) = cellsG (gs.take k) ++ [.int .i64 S, .slice y.a L y.c]) := by
        show _ = _
        have hkl : k < gs.length := by rw [← HN.out]; exact hlt
        rw [List.take_succ_eq_append_getElem hkl, cellsG_app, HSS.out, HLL.out]
        rw [List.getElem?_eq_getElem hkl] at hy
        cases hy
        rfl
      obtain ⟨W2, HW2⟩ : ∃ W2, Hid (W2 = wr.alloc (.cells #[.int .i64 S, .slice y.a L y.c] 28)) := ⟨_, rfl⟩
      have hW2e : wr.alloc (.cells #[.int .i64 S, .slice y.a L y.c] 28) = W2 := HW2.out.symm
      have HB2 : Hid (Below w.heap.size w W2) := by rw [HW2.out]; exact HBR.out.alloc HBR.out.size _
      have HO2 : Hid (W2.ownsRow w.heap.size 24 2 u3 k (cellsG (gs.take k))) := by rw [HW2.out]; exact HO.out.alloc _
      have hS2 := HB2.out.size
      have hfb0 : W2.cell? ⟨wr.heap.size, 0, none⟩ = some (.int .i64 S) := by rw [HW2.out, (Row.mk wr [.int .i64 S, .slice y.a L y.c] _).cell]; rfl
      have hfb1 : W2.cell? ⟨wr.heap.size, 1, none⟩ = some (.slice y.a L y.c) := by rw [HW2.out, (Row.mk wr [.int .i64 S, .slice y.a L y.c] _).cell]; rfl
      clear hca ha0 ha1 hy
      go_wp2_with (at_builtin; refine wpList_append_own _ rfl _ _ 41 rfl w.heap.size 24 i0 (.agg #[.int .i64 0, .slice none 0 0]) 2 32 Try.underlying41 hi hz0 hz1 hz2 rfl (by decide) _ _ _ rfl (HO2.out.alloc _) ⟨W2.heap.size, 0, none⟩ 1 1 [.int .i64 S, .slice y.a L y.c] rfl rfl (cells2' _ _ _ _) (by intro u hu; rcases List.mem_cons.1 hu with h | h; (rw [h]; rfl); (rw [List.mem_singleton.1 h]; rfl)) ?_ ?_ ?_ ?_)
      · unfold maxLen; omega
      · omega
      · simp; omega
      intro v' w5 hown' hgrow _
      have HB5 : Hid (Below w.heap.size w w5) := (HB2.out.alloc hS2 _).grown hgrow (by simp; omega) (fun j hj => (own_block' HO2.out j hj).1)
      have HO5 : Hid (w5.ownsRow w.heap.size 24 2 v' (k + 1) (cellsG (gs.take (k + 1)))) := by rw [HTK.out]; exact hown'
      clear hown' hgrow hW2e hfb0 hfb1
      go_wp2
      go_roundw
      case rel => exact ⟨k + 1, by omega, by go_num, HO5.out, HB5.out⟩
      case measure => simp [intOf]; omega
    · have HK : Hid (gs.take k = gs) := by
        show _ = _
        exact List.take_of_length_le (by have := HN.out; omega)
      have HKn : Hid (k = gs.length) := by show _ = _; have := HN.out; omega
      have hO := HO.out
      rw [HK.out, HKn.out] at hO
      obtain ⟨va, vc, hv, hvl, hvm, hG⟩ := own_gat hO (fun y hy => (H.out.2.2 y hy).later HBR.out (Nat.le_refl _))
      have HV : Hid (u3 = .slice va gs.length vc) := hv
      have HG : Hid (GAt wr va gs.length gs) := hG
      clear hO hv hG hvl hvm
      go_wp2
      go_ret
      refine ⟨va, vc, ?_, by rw [HN.out]; exact HG.out, HBR.out⟩
      rw [HN.out, ← HV.out]
      rfl

end Go.Proofs.Ythmoapigjafijaa.Frm
