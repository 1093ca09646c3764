/- (*quote.reader).escaped, by its contract. -/
import Derived.Test.YtiipndfogofhgaaDoorQuoteRd
namespace Go.Proofs.YtiipndfogofhgaaDoor.Quo
open Utf Rws
open Go.RowKit
set_option linter.unusedSimpArgs false
set_option linter.unusedVariables false
set_option maxRecDepth 100000

theorem hexR_two : ∀ (k : Nat) (l : List UInt8) (acc : Int), (hexR k l acc).2 = 0 ∨ (hexR k l acc).2 = 3 ∨ (hexR k l acc).2 = 4
  | 0, _, _ => .inl rfl
  | k + 1, [], _ => .inr (.inr rfl)
  | k + 1, c :: r, acc => by
    rw [hexR]
    split
    · exact .inr (.inl rfl)
    · exact hexR_two k r _
theorem mnt_esc {m : List UInt8} (h : 2 ≤ m.length) {n : Int} (hc : mnt (m.getD 1 0) = some n) : escR m = (n, 2, 0) := by
  unfold escR
  rw [if_neg (by omega)]
  generalize m.getD 1 0 = c at *
  unfold mnt at hc
  by_cases h1 : c = 34
  · rw [if_pos h1] at hc ⊢; cases hc; rfl
  rw [if_neg h1] at hc ⊢
  by_cases h2 : c = 92
  · rw [if_pos h2] at hc ⊢; cases hc; rfl
  rw [if_neg h2] at hc ⊢
  by_cases h3 : c = 110
  · rw [if_pos h3] at hc ⊢; cases hc; rfl
  rw [if_neg h3] at hc ⊢
  by_cases h4 : c = 116
  · rw [if_pos h4] at hc ⊢; cases hc; rfl
  rw [if_neg h4] at hc ⊢
  by_cases h5 : c = 114
  · rw [if_pos h5] at hc ⊢; cases hc; rfl
  rw [if_neg h5] at hc ⊢
  by_cases h6 : c = 48
  · rw [if_pos h6] at hc ⊢; cases hc; rfl
  rw [if_neg h6] at hc
  cases hc
theorem mnt_sgn {c : UInt8} {n : Int} (hc : mnt c = some n) : sgn n = true := by
  unfold mnt at hc
  by_cases h1 : c = 34
  · rw [if_pos h1] at hc; cases hc; decide
  rw [if_neg h1] at hc
  by_cases h2 : c = 92
  · rw [if_pos h2] at hc; cases hc; decide
  rw [if_neg h2] at hc
  by_cases h3 : c = 110
  · rw [if_pos h3] at hc; cases hc; decide
  rw [if_neg h3] at hc
  by_cases h4 : c = 116
  · rw [if_pos h4] at hc; cases hc; decide
  rw [if_neg h4] at hc
  by_cases h5 : c = 114
  · rw [if_pos h5] at hc; cases hc; decide
  rw [if_neg h5] at hc
  by_cases h6 : c = 48
  · rw [if_pos h6] at hc; cases hc; decide
  rw [if_neg h6] at hc
  cases hc
theorem dgs_esc {m : List UInt8} (h : 2 ≤ m.length) (hc : mnt (m.getD 1 0) = none) : escR m = if dgs (m.getD 1 0) = 0 then (0, 0, 3) else escH m (dgs (m.getD 1 0)) := by
  unfold escR
  rw [if_neg (by omega)]
  generalize m.getD 1 0 = c at *
  unfold mnt at hc
  by_cases h1 : c = 34
  · rw [if_pos h1] at hc; cases hc
  rw [if_neg h1] at hc ⊢
  by_cases h2 : c = 92
  · rw [if_pos h2] at hc; cases hc
  rw [if_neg h2] at hc ⊢
  by_cases h3 : c = 110
  · rw [if_pos h3] at hc; cases hc
  rw [if_neg h3] at hc ⊢
  by_cases h4 : c = 116
  · rw [if_pos h4] at hc; cases hc
  rw [if_neg h4] at hc ⊢
  by_cases h5 : c = 114
  · rw [if_pos h5] at hc; cases hc
  rw [if_neg h5] at hc ⊢
  by_cases h6 : c = 48
  · rw [if_pos h6] at hc; cases hc
  rw [if_neg h6]
  unfold dgs
  by_cases h7 : c = 120
  · rw [if_pos h7, if_pos h7, if_neg (by decide)]
  rw [if_neg h7, if_neg h7]
  by_cases h8 : c = 117
  · rw [if_pos h8, if_pos h8, if_neg (by decide)]
  rw [if_neg h8, if_neg h8]
  by_cases h9 : c = 85
  · rw [if_pos h9, if_pos h9, if_neg (by decide)]
  rw [if_neg h9, if_neg h9, if_pos rfl]
theorem dgs_le (c : UInt8) : dgs c ≤ 8 := by
  unfold dgs; split
  · decide
  split
  · decide
  split <;> decide

variable {B b : Nat} {l out : List UInt8} {p : Nat} {w w1 w2 : World}
/-- what an escape's reading leaves -/
def EscRes (B b : Nat) (l : List UInt8) (p : Nat) (out : List UInt8) (w : World) (r : Int × Nat × Nat) (e : Ending) (w' : World) : Prop :=
  Fr B b w w' ∧ (r.2.2 = 0 → e = .returned (.agg #[.int .i64 0, .int .i64 0]) ∧ Rd B b l (p + r.2.1) (out ++ u8s (byt r.1)) w') ∧
  (r.2.2 = 4 → e = .returned (.agg #[.int .i64 4, .int .i64 (l.length : Int)])) ∧ (r.2.2 = 3 → e = .returned (.agg #[.int .i64 3, .int .i64 (p : Int)]))

/-- the fault's cell, in a world behind -/
structure Cel (B b : Nat) (w W : World) : Prop where
  fr : Fr B b w W
  sz : w.heap.size ≤ W.heap.size
  cl : W.heap[w.heap.size]? = some (.cells #[.int .i64 0, .int .i64 0] 24 (0, 0))
theorem Cel.facts {W : World} (h : Cel B b w W) : W.cell? ⟨w.heap.size, 0, none⟩ = some (.int .i64 0) ∧ W.cell? ⟨w.heap.size, 1, none⟩ = some (.int .i64 0) ∧ W.frozen? ⟨w.heap.size, 0, none⟩ = false ∧ W.frozen? ⟨w.heap.size, 1, none⟩ = false :=
  ⟨by rw [Lib.cell_of_heap h.cl]; rfl, by rw [Lib.cell_of_heap h.cl]; rfl, Lib.frozen_of_heap h.cl 0, Lib.frozen_of_heap h.cl 1⟩
theorem Cel.step {W W2 : World} (h : Cel B b w W) (hb : b < w.heap.size) (hf : Fr B b W W2) : Cel B b w W2 :=
  ⟨h.fr.trans hf, Nat.le_trans h.sz hf.1.size, hf.2 _ _ h.cl (by simp; omega) (fun c fz e => by cases e)⟩
theorem Cel.set {W : World} (h : Cel B b w W) (hB : B ≤ b) (hb : b < w.heap.size) (i : Nat) (x : Value) : Cel B b w (W.setCell ⟨b, i, none⟩ x) :=
  h.step hb (Fr.refl.set hB i x)
theorem Cel.below {W W2 : World} (h : Cel B b w W) (hB : B ≤ w.heap.size) (hb : b < w.heap.size) (hf : Below W.heap.size W W2) : Cel B b w W2 := h.step hb (Fr.of hf (Nat.le_trans hB h.sz))
theorem Cel.sh {W : World} (h : Cel B b w W) : Sh W w.heap.size 24 := ⟨_, _, h.cl⟩
theorem Cel.new (B b : Nat) (w : World) (hB : B ≤ w.heap.size) : Cel B b w (w.alloc (.cells #[.int .i64 0, .int .i64 0] 24)) :=
  ⟨Fr.of (below_alloc _ _) hB, by simp, heap_alloc_new w _⟩
theorem Cel.fin {W : World} (h : Cel B b w W) (hB : B ≤ w.heap.size) (x y : Value) : Fr B b w ((W.setCell ⟨w.heap.size, 0, none⟩ x).setCell ⟨w.heap.size, 1, none⟩ y) := h.fr.fault2 hB (Nat.le_refl _) x y

theorem ext_drop (l : List UInt8) (q : Nat) : (mk l).extract q l.length = mk (l.drop q) := by
  rw [mk_ext, List.take_of_length_le (by rw [List.length_drop]; exact Nat.le_refl _)]

set_option maxHeartbeats 1000000 in
theorem esc_end (w : World) (h : Rd B b l p out w) (hp : p < l.length) (hl : l.length ≤ 140737488351232) (ho : out.length + 4 ≤ 140737488355328) (hBw : B ≤ w.heap.size) (hT : Tabs w) (hB2 : 2 ≤ B) (m : List UInt8) (hm : Hid (m = l.drop (p + 1))) (h0 : m = []) :
    Calls Tryd.prog 56 #[.pointer (some ⟨b, 0, none⟩)] w fun e w' => EscRes B b l p out w (0, 0, 4) e w' := by
  have hlt := h.lt
  have hB := h.base
  have hsz := mk_size l
  obtain ⟨W, hW⟩ : ∃ W, w.alloc (.cells #[.int .i64 0, .int .i64 0] 24) = W := ⟨_, rfl⟩
  have hbW : Below w.heap.size w W := by rw [← hW]; exact below_alloc _ _
  have HC : Hid (Cel B b w W) := by rw [← hW]; exact Cel.new B b w hBw
  have hRW : Rd B b l p out W := h.later hbW
  have HT : Hid (Tabs W) := hT.later hbW
  have c2 := hRW.s
  have c3 := hRW.at_
  have HR : Hid (Rd B b l p out W) := hRW
  clear hRW hbW h hT
  go_enter Tryd.func56, Tryd.ntmps56
  go_wp2
  go_quiet (fail)
  rw [ext_drop]
  obtain ⟨W1, hW1⟩ : ∃ W1, W1 = W.drewN nq := ⟨_, rfl⟩
  have HC1 : Hid (Cel B b w W1) := by rw [hW1]; exact HC.out.below hBw hlt (below_drewN (Below.refl _ _) nq)
  have HR1 : Hid (Rd B b l p out W1) := by rw [hW1]; exact HR.out.later (below_drewN (Below.refl _ _) nq)
  have HT1 : Hid (Tabs W1) := by rw [hW1]; exact HT.out.later (below_drewN (Below.refl _ _) nq)
  rw [← hW1]
  clear hW1 HR HC HT c2 c3 hW hsz
  clear W
  have s1 := HC1.out.sz
  rw [← hm.out]
  have hmz := mk_size m
  have hq : ((mk m).toList == []) = true := by rw [ByteArray.toList_eq, mk_data, h0]; rfl
  have HFI : Hid (∀ W2, Below W1.heap.size W1 W2 → Cel B b w W2) := fun W2 hb => HC1.out.below hBw hlt hb
  have c2 := HR1.out.s
  clear HC1 HR1 HT1 hm h0
  go_wp2_with (first | (go_at_call 55; refine (end_any l _ c2).mono ?_; rintro e W2 ⟨rfl, hb2⟩; have HC2 : Hid (Cel B b w W2) := HFI.out W2 hb2; obtain ⟨d0, d1, d2, d3⟩ := HC2.out.facts; clear hb2))
  refine bodyPost_ret (v := .agg #[.int .i64 4, .int .i64 (l.length : Int)]) (by simp [results, Tryd.results56, go_sem, d0, d1]) rfl ?_
  exact ⟨HC2.out.fin hBw _ _, fun h => by simp at h, fun _ => rfl, fun h => by simp at h⟩

set_option maxHeartbeats 1000000 in
theorem esc_short (w : World) (h : Rd B b l p out w) (hp : p < l.length) (hl : l.length ≤ 140737488351232) (ho : out.length + 4 ≤ 140737488355328) (hBw : B ≤ w.heap.size) (hT : Tabs w) (hB2 : 2 ≤ B) (m : List UInt8) (hm : Hid (m = l.drop (p + 1))) (hm1 : 1 ≤ m.length) (c : UInt8) (hg : ∀ h, (mk m)[0]'h = c) (hm2 : m.length ≤ 140737488351232) (n : Int) (hmn : mnt c = some n) :
    Calls Tryd.prog 56 #[.pointer (some ⟨b, 0, none⟩)] w fun e w' => EscRes B b l p out w (n, 2, 0) e w' := by
  have hlt := h.lt
  have hB := h.base
  have hsz := mk_size l
  obtain ⟨W, hW⟩ : ∃ W, w.alloc (.cells #[.int .i64 0, .int .i64 0] 24) = W := ⟨_, rfl⟩
  have hbW : Below w.heap.size w W := by rw [← hW]; exact below_alloc _ _
  have HC : Hid (Cel B b w W) := by rw [← hW]; exact Cel.new B b w hBw
  have hRW : Rd B b l p out W := h.later hbW
  have HT : Hid (Tabs W) := hT.later hbW
  have c2 := hRW.s
  have c3 := hRW.at_
  have HR : Hid (Rd B b l p out W) := hRW
  clear hRW hbW h hT
  go_enter Tryd.func56, Tryd.ntmps56
  go_wp2
  go_quiet (fail)
  rw [ext_drop]
  obtain ⟨W1, hW1⟩ : ∃ W1, W1 = W.drewN nq := ⟨_, rfl⟩
  have HC1 : Hid (Cel B b w W1) := by rw [hW1]; exact HC.out.below hBw hlt (below_drewN (Below.refl _ _) nq)
  have HR1 : Hid (Rd B b l p out W1) := by rw [hW1]; exact HR.out.later (below_drewN (Below.refl _ _) nq)
  have HT1 : Hid (Tabs W1) := by rw [hW1]; exact HT.out.later (below_drewN (Below.refl _ _) nq)
  rw [← hW1]
  clear hW1 HR HC HT c2 c3 hW hsz
  clear W
  have s1 := HC1.out.sz
  rw [← hm.out]
  have hmz := mk_size m
  have hq : ((mk m).toList == []) = false := by rw [ByteArray.toList_eq, mk_data]; cases m; simp at hm1; simp
  have hME := meant_any c W1 HT1.out
  rw [hmn] at hME
  have HS : Hid (sgn n = true) := mnt_sgn hmn
  have HME : Hid (Calls Tryd.prog 64 #[.int .u8 (c.toNat : Int)] W1 fun e w' => e = .returned (.tuple #[.int .i64 n, .bool true]) ∧ Below W1.heap.size W1 w') := hME
  clear hME hm hmn
  go_wp2_with (first | (go_at_call 64; refine HME.out.mono ?_; rintro e W2 ⟨rfl, hb2⟩))
  have HC2 : Hid (Cel B b w W2) := HC1.out.below hBw hlt hb2
  have HR2 : Hid (Rd B b l p out W2) := HR1.out.later hb2
  clear HME HC1 HR1 HT1 hb2
  refine (putSign_any embR n out HR2.out ho (by have := HC2.out.sz; omega)).mono ?_
  rintro e W3 ⟨rfl, hR3, hb3, hk3⟩
  rw [HS.out]
  have HR3 : Hid (Rd B b l p (out ++ u8s (byt n)) W3) := by
    have q : Rd B b l p (out ++ sgb n) W3 := hR3
    unfold sgb at q
    rw [if_pos HS.out] at q
    exact q
  have HC3 : Hid (Cel B b w W3) := HC2.out.step hlt ⟨hb3, hk3⟩
  obtain ⟨W4, hW4⟩ : ∃ W4, W3.setCell ⟨b, 3, none⟩ (.int .i64 ((p + 2 : Nat) : Int)) = W4 := ⟨_, rfl⟩
  have HR4 : Hid (Rd B b l (p + 2) (out ++ u8s (byt n)) W4) := by rw [← hW4]; exact HR3.out.set _
  have HC4 : Hid (Cel B b w W4) := by rw [← hW4]; exact HC3.out.set hB hlt 3 _
  rw [show ((p + 2 : Nat) : Int) = (p : Int) + 2 by omega] at hW4
  have c3 := HR3.out.at_
  have z3 := HR3.out.fz 3
  obtain ⟨d0, d1, d2, d3⟩ := HC4.out.facts
  clear hR3 hb3 hk3 HR2 HC2 HR3 HC3
  go_wp2
  refine bodyPost_ret (v := .agg #[.int .i64 0, .int .i64 0]) (by simp [results, Tryd.results56, go_sem, d0, d1]) rfl ?_
  exact ⟨HC4.out.fin hBw _ _, fun _ => ⟨rfl, HR4.out.fault2 HC4.out.sh (by omega) _ _⟩, fun h => by simp at h, fun h => by simp at h⟩

set_option maxHeartbeats 1000000 in
theorem esc_form (w : World) (h : Rd B b l p out w) (hp : p < l.length) (hl : l.length ≤ 140737488351232) (ho : out.length + 4 ≤ 140737488355328) (hBw : B ≤ w.heap.size) (hT : Tabs w) (hB2 : 2 ≤ B) (m : List UInt8) (hm : Hid (m = l.drop (p + 1))) (hm1 : 1 ≤ m.length) (c : UInt8) (hg : ∀ h, (mk m)[0]'h = c) (hm2 : m.length ≤ 140737488351232) (hmn : mnt c = none) (k : Nat) (hk : k = dgs c) (hk0 : k = 0) :
    Calls Tryd.prog 56 #[.pointer (some ⟨b, 0, none⟩)] w fun e w' => EscRes B b l p out w (0, 0, 3) e w' := by
  have hlt := h.lt
  have hB := h.base
  have hsz := mk_size l
  obtain ⟨W, hW⟩ : ∃ W, w.alloc (.cells #[.int .i64 0, .int .i64 0] 24) = W := ⟨_, rfl⟩
  have hbW : Below w.heap.size w W := by rw [← hW]; exact below_alloc _ _
  have HC : Hid (Cel B b w W) := by rw [← hW]; exact Cel.new B b w hBw
  have hRW : Rd B b l p out W := h.later hbW
  have HT : Hid (Tabs W) := hT.later hbW
  have c2 := hRW.s
  have c3 := hRW.at_
  have HR : Hid (Rd B b l p out W) := hRW
  clear hRW hbW h hT
  go_enter Tryd.func56, Tryd.ntmps56
  go_wp2
  go_quiet (fail)
  rw [ext_drop]
  obtain ⟨W1, hW1⟩ : ∃ W1, W1 = W.drewN nq := ⟨_, rfl⟩
  have HC1 : Hid (Cel B b w W1) := by rw [hW1]; exact HC.out.below hBw hlt (below_drewN (Below.refl _ _) nq)
  have HR1 : Hid (Rd B b l p out W1) := by rw [hW1]; exact HR.out.later (below_drewN (Below.refl _ _) nq)
  have HT1 : Hid (Tabs W1) := by rw [hW1]; exact HT.out.later (below_drewN (Below.refl _ _) nq)
  rw [← hW1]
  clear hW1 HR HC HT c2 c3 hW hsz
  clear W
  have s1 := HC1.out.sz
  rw [← hm.out]
  have hmz := mk_size m
  have hq : ((mk m).toList == []) = false := by rw [ByteArray.toList_eq, mk_data]; cases m; simp at hm1; simp
  have hq0 : ((k : Int) == 0) = true := by simp; omega
  have hME := meant_any c W1 HT1.out
  rw [hmn] at hME
  have HME : Hid (Calls Tryd.prog 64 #[.int .u8 (c.toNat : Int)] W1 fun e w' => e = .returned (.tuple #[.int .i64 0, .bool false]) ∧ Below W1.heap.size W1 w') := hME
  have HDG : Hid (∀ W, Tabs W → Calls Tryd.prog 65 #[.int .u8 (c.toNat : Int)] W fun e w' => e = .returned (.int .i64 (k : Int)) ∧ Below W.heap.size W w') := fun W hT => by rw [hk]; exact digitsOf_any c W hT
  clear hME hm hmn hk
  clear hk0
  go_wp2_with (first | (go_at_call 64; refine HME.out.mono ?_; rintro e W2 ⟨rfl, hb2⟩) | (go_at_call 65; refine (HDG.out _ (HT1.out.later hb2)).mono ?_; rintro e W3 ⟨rfl, hb3⟩; have c2 := (HR1.out.later (hb2.trans (hb3.mono hb2.size))).s; have c3 := (HR1.out.later (hb2.trans (hb3.mono hb2.size))).at_) | (go_at_call 38; refine (fault_any _ _ c3).mono ?_; rintro e W4 ⟨rfl, hb4⟩; have HC4 : Hid (Cel B b w W4) := ((HC1.out.below hBw hlt hb2).below hBw hlt hb3).below hBw hlt hb4; obtain ⟨d0, d1, d2, d3⟩ := HC4.out.facts; clear hb2 hb3 hb4))
  refine bodyPost_ret (v := .agg #[.int .i64 3, .int .i64 (p : Int)]) (by simp [results, Tryd.results56, go_sem, d0, d1]) rfl ?_
  exact ⟨HC4.out.fin hBw _ _, fun h => by simp at h, fun h => by simp at h, fun _ => rfl⟩


end Go.Proofs.YtiipndfogofhgaaDoor.Quo
