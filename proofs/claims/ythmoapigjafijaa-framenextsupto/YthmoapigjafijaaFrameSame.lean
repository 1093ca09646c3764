/- Same: the program's and the reference's; ours. -/
import Derived.Test.YthmoapigjafijaaFrameRscan
import Derived.BigQuiet
import Derived.Deep.QuietTactic
namespace Go.Proofs.Ythmoapigjafijaa.Frm
open Go.RowKit Crc
set_option linter.unusedSimpArgs false
set_option linter.unusedVariables false

theorem two_at {g1 g2 : List Gr} (h : g1.map Gr.sd = g2.map Gr.sd) {k : Nat} (hk : k < g1.length) : ∃ y1 y2, g1[k]? = some y1 ∧ g2[k]? = some y2 ∧ y1.s = y2.s ∧ y1.d = y2.d := by
  have hl : g1.length = g2.length := by simpa using congrArg List.length h
  refine ⟨g1[k], g2[k]'(by omega), List.getElem?_eq_getElem hk, List.getElem?_eq_getElem (by omega), ?_⟩
  have h1 := congrArg (fun l => l[k]?) h
  simp only [List.getElem?_map, List.getElem?_eq_getElem hk, List.getElem?_eq_getElem (show k < g2.length by omega), Option.map_some, Option.some.injEq, Gr.sd, Prod.mk.injEq] at h1
  exact h1

set_option maxHeartbeats 1000000 in
theorem rsame_any (a b : Option Addr) (n c c' : Nat) (g1 g2 : List Gr) (w : World) (h1 : GAt w a n g1) (h2 : GAt w b n g2) (hs : g1.map Gr.sd = g2.map Gr.sd) (hn : n * 2 ≤ 140737488355328) :
    Calls Try.prog 17 #[.slice a n c, .slice b n c'] w fun e w' => e = .returned (.bool true) ∧ Below w.heap.size w w' := by
  have H1 : Hid (GAt w a n g1) := h1
  have H2 : Hid (GAt w b n g2) := h2
  have HS : Hid (g1.map Gr.sd = g2.map Gr.sd) := hs
  have HN : Hid (n = g1.length) := h1.1
  clear h1 h2 hs
  go_enter Try.func17, Try.ntmps17
  go_wp2
  go_loopw [5] (fun i wr => ∃ k : Nat, k ≤ n ∧ i = .int .i64 k ∧ Below w.heap.size w wr) (fun i _ => n - (intOf i).toNat)
  case atStart => exact ⟨0, Nat.zero_le _, rfl, Below.refl _ _⟩
  case round =>
    obtain ⟨k, hk, rfl, hbr⟩ := hrel
    have HBR : Hid (Below w.heap.size w wr) := hbr
    clear hbr
    by_cases hlt : k < n
    · obtain ⟨y1, y2, e1, e2, es, ed⟩ := two_at HS.out (k := k) (by rw [← HN.out]; exact hlt)
      obtain ⟨ga, rfl, hga, hca⟩ := H1.out.2.1 (by omega)
      obtain ⟨gb, rfl, hgb, hcb⟩ := H2.out.2.1 (by omega)
      obtain ⟨ha0, ha1⟩ := hca k y1 e1
      obtain ⟨hb0, hb1⟩ := hcb k y2 e2
      have hd1 := H1.out.2.2 y1 (List.mem_of_getElem? e1)
      have hd2 := H2.out.2.2 y2 (List.mem_of_getElem? e2)
      obtain ⟨d, HD⟩ : ∃ d, Hid (d = y1.d) := ⟨_, rfl⟩
      obtain ⟨q, HQ⟩ : ∃ q, Hid (q = y1.s) := ⟨_, rfl⟩
      rw [← es, ← HQ.out] at hb0
      rw [← ed, ← HD.out] at hb1 hd2
      rw [← HQ.out] at ha0
      rw [← HD.out] at ha1 hd1
      have hz0 : wr.cell? ⟨ga, k * 2, none⟩ = some (.int .i64 q) := (HBR.out.cell (p := ⟨ga, k * 2, none⟩) hga).trans ha0
      have hz1 : wr.cell? ⟨ga, k * 2 + 1, none⟩ = some (.slice y1.a d.length y1.c) := (HBR.out.cell (p := ⟨ga, k * 2 + 1, none⟩) hga).trans ha1
      have hz2 : wr.cell? ⟨gb, k * 2, none⟩ = some (.int .i64 q) := (HBR.out.cell (p := ⟨gb, k * 2, none⟩) hgb).trans hb0
      have hz3 : wr.cell? ⟨gb, k * 2 + 1, none⟩ = some (.slice y2.a d.length y2.c) := (HBR.out.cell (p := ⟨gb, k * 2 + 1, none⟩) hgb).trans hb1
      have hcv1 : ∀ m, (convert 22 9 (.slice y1.a d.length y1.c)).run Try.prog (wr.drewN m) = .ok (.string (mk d)) (wr.drewN m) := fun m => conv_bys (cap := y1.c) (hd1.later (below_drewN' HBR.out m) (Nat.le_refl _))
      have hcv2 : ∀ m, (convert 22 9 (.slice y2.a d.length y2.c)).run Try.prog (wr.drewN m) = .ok (.string (mk d)) (wr.drewN m) := fun m => conv_bys (cap := y2.c) (hd2.later (below_drewN' HBR.out m) (Nat.le_refl _))
      clear hca hcb ha0 ha1 hb0 hb1 hd1 hd2 e1 e2 es ed
      go_wp2_with fail
      go_quiet (fail)
      go_wp2
      go_roundw
      case rel => exact ⟨k + 1, by omega, by go_num, below_drewN' HBR.out _⟩
      case measure => simp [intOf]; omega
    · go_wp2
      go_ret
      exact ⟨rfl, HBR.out⟩

theorem bequal_any (a b : Option Addr) (n c c' : Nat) (d : List UInt8) (w : World) (h1 : Bys w a n d) (h2 : Bys w b n d) :
    Calls Try.prog 37 #[.slice a n c, .slice b n c'] w fun e w' => e = .returned (.bool true) ∧ w = w' := by
  have hcv1 := conv_bys (cap := c) h1
  have hcv2 := conv_bys (cap := c') h2
  clear h1 h2
  go_enter Try.func37, Try.ntmps37
  go_wp2
  go_ret
  exact ⟨rfl, rfl⟩
theorem sameFrame_any (s : Int) (a b : Option Addr) (n c c' : Nat) (d : List UInt8) (w : World) (h1 : Bys w a n d) (h2 : Bys w b n d) :
    Calls Try.prog 32 #[.agg #[.int .i64 s, .slice a n c], .agg #[.int .i64 s, .slice b n c']] w fun e w' => e = .returned (.bool true) ∧ Below w.heap.size w w' := by
  have hb : Below w.heap.size w ((w.alloc (.cells #[.int .i64 s, .slice a n c] 28)).alloc (.cells #[.int .i64 s, .slice b n c'] 28)) := ((Below.refl _ w).alloc (Nat.le_refl _) _).alloc (by simp) _
  have H1 : Hid (Bys ((w.alloc (.cells #[.int .i64 s, .slice a n c] 28)).alloc (.cells #[.int .i64 s, .slice b n c'] 28)) a n d) := h1.later hb (Nat.le_refl _)
  have H2 : Hid (Bys ((w.alloc (.cells #[.int .i64 s, .slice a n c] 28)).alloc (.cells #[.int .i64 s, .slice b n c'] 28)) b n d) := h2.later hb (Nat.le_refl _)
  clear h1 h2
  go_enter Try.func32, Try.ntmps32
  go_wp2_with fail
  refine (bequal_any _ _ _ _ _ d _ H1.out H2.out).mono ?_
  rintro e w' ⟨rfl, rfl⟩
  go_wp2
  go_ret
  exact ⟨rfl, hb⟩

end Go.Proofs.Ythmoapigjafijaa.Frm
