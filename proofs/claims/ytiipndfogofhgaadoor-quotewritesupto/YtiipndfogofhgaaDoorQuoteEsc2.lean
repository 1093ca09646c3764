/- (*quote.reader).escaped at an escape with digits, by its contract. -/
import Derived.Test.YtiipndfogofhgaaDoorQuoteEsc
namespace Go.Proofs.YtiipndfogofhgaaDoor.Quo
open Utf Rws
open Go.RowKit
set_option linter.unusedSimpArgs false
set_option linter.unusedVariables false
set_option maxRecDepth 100000
variable {B b : Nat} {l out : List UInt8} {p : Nat} {w w1 w2 : World}

set_option maxHeartbeats 1000000 in
theorem esc_digit (w : World) (h : Rd B b l p out w) (hp : p < l.length) (hl : l.length ≤ 140737488351232) (ho : out.length + 4 ≤ 140737488355328) (hBw : B ≤ w.heap.size) (hT : Tabs w) (hB2 : 2 ≤ B) (m : List UInt8) (hm : Hid (m = l.drop (p + 1))) (hm1 : 1 ≤ m.length) (c : UInt8) (hg : ∀ h, (mk m)[0]'h = c) (hm2 : m.length ≤ 140737488351232) (hmn : mnt c = none) (k : Nat) (hk : k = dgs c) (hk0 : k ≠ 0) (hk8 : k ≤ 8) (n : Int) (t : List UInt8) (ht : Hid (t = m.drop 1)) (hX : Hid (hexR k t 0 = (n, 3))) :
    Calls Tryd.prog 56 #[.pointer (some ⟨b, 0, none⟩)] w fun e w' => EscRes B b l p out w (0, 0, 3) e w' := by
  have hlt := h.lt
  have hB := h.base
  have hsz := mk_size l
  obtain ⟨W, hW⟩ : ∃ W, w.alloc (.cells #[.int .i64 0, .int .i64 0] 24) = W := ⟨_, rfl⟩
  have hbW : Below w.heap.size w W := by rw [← hW]; exact below_alloc _ _
  have HC : Hid (Cel B b w W) := by rw [← hW]; exact Cel.new B b w hBw
  have hRW : Rd B b l p out W := h.later hbW
  have HT : Hid (Tabs W) := hT.later hbW
  have c2 := hRW.s
  have c3 := hRW.at_
  have HR : Hid (Rd B b l p out W) := hRW
  clear hRW hbW h hT
  go_enter Tryd.func56, Tryd.ntmps56
  go_wp2
  go_quiet (fail)
  rw [ext_drop]
  obtain ⟨W1, hW1⟩ : ∃ W1, W1 = W.drewN nq := ⟨_, rfl⟩
  have HC1 : Hid (Cel B b w W1) := by rw [hW1]; exact HC.out.below hBw hlt (below_drewN (Below.refl _ _) nq)
  have HR1 : Hid (Rd B b l p out W1) := by rw [hW1]; exact HR.out.later (below_drewN (Below.refl _ _) nq)
  have HT1 : Hid (Tabs W1) := by rw [hW1]; exact HT.out.later (below_drewN (Below.refl _ _) nq)
  rw [← hW1]
  clear hW1 HR HC HT c2 c3 hW hsz
  clear W
  have s1 := HC1.out.sz
  rw [← hm.out]
  have hmz := mk_size m
  have hq : ((mk m).toList == []) = false := by rw [ByteArray.toList_eq, mk_data]; cases m; simp at hm1; simp
  have hq0 : ((k : Int) == 0) = false := by simp; omega
  have hME := meant_any c W1 HT1.out
  rw [hmn] at hME
  have HME : Hid (Calls Tryd.prog 64 #[.int .u8 (c.toNat : Int)] W1 fun e w' => e = .returned (.tuple #[.int .i64 0, .bool false]) ∧ Below W1.heap.size W1 w') := hME
  have HDG : Hid (∀ W, Tabs W → Calls Tryd.prog 65 #[.int .u8 (c.toNat : Int)] W fun e w' => e = .returned (.int .i64 (k : Int)) ∧ Below W.heap.size W w') := fun W hT => by rw [hk]; exact digitsOf_any c W hT
  clear hME hm hmn hk
  have e4 : (mk m).extract 1 m.length = mk t := by rw [ht.out]; exact ext_drop m 1
  have HNU : Hid (∀ W, Calls Tryd.prog 66 #[.string (mk t), .int .i64 (k : Int)] W fun e w' => e = .returned (.tuple #[.int .i64 n, .int .i64 3]) ∧ W = w') := fun W => by
    have q := numberOf_any t k W hk8 (by rw [ht.out, List.length_drop]; omega)
    rw [hX.out] at q
    exact q
  clear hX ht
  go_wp2_with (first | (go_at_call 64; refine HME.out.mono ?_; rintro e W2 ⟨rfl, hb2⟩) | (go_at_call 65; refine (HDG.out _ (HT1.out.later hb2)).mono ?_; rintro e W3 ⟨rfl, hb3⟩; have c2 := (HR1.out.later (hb2.trans (hb3.mono hb2.size))).s; have c3 := (HR1.out.later (hb2.trans (hb3.mono hb2.size))).at_) | (go_at_call 66; refine (HNU.out _).mono ?_; rintro e w' ⟨rfl, rfl⟩) | (go_at_call 38; refine (fault_any _ _ c3).mono ?_; rintro e W4 ⟨rfl, hb4⟩; have HC4 : Hid (Cel B b w W4) := ((HC1.out.below hBw hlt hb2).below hBw hlt hb3).below hBw hlt hb4; obtain ⟨d0, d1, d2, d3⟩ := HC4.out.facts; clear hb2 hb3 hb4))
  refine bodyPost_ret (v := .agg #[.int .i64 3, .int .i64 (p : Int)]) (by simp [results, Tryd.results56, go_sem, d0, d1]) rfl ?_
  exact ⟨HC4.out.fin hBw _ _, fun h => by simp at h, fun h => by simp at h, fun _ => rfl⟩

set_option maxHeartbeats 1000000 in
theorem esc_less (w : World) (h : Rd B b l p out w) (hp : p < l.length) (hl : l.length ≤ 140737488351232) (ho : out.length + 4 ≤ 140737488355328) (hBw : B ≤ w.heap.size) (hT : Tabs w) (hB2 : 2 ≤ B) (m : List UInt8) (hm : Hid (m = l.drop (p + 1))) (hm1 : 1 ≤ m.length) (c : UInt8) (hg : ∀ h, (mk m)[0]'h = c) (hm2 : m.length ≤ 140737488351232) (hmn : mnt c = none) (k : Nat) (hk : k = dgs c) (hk0 : k ≠ 0) (hk8 : k ≤ 8) (n : Int) (t : List UInt8) (ht : Hid (t = m.drop 1)) (hX : Hid (hexR k t 0 = (n, 4))) :
    Calls Tryd.prog 56 #[.pointer (some ⟨b, 0, none⟩)] w fun e w' => EscRes B b l p out w (0, 0, 4) e w' := by
  have hlt := h.lt
  have hB := h.base
  have hsz := mk_size l
  obtain ⟨W, hW⟩ : ∃ W, w.alloc (.cells #[.int .i64 0, .int .i64 0] 24) = W := ⟨_, rfl⟩
  have hbW : Below w.heap.size w W := by rw [← hW]; exact below_alloc _ _
  have HC : Hid (Cel B b w W) := by rw [← hW]; exact Cel.new B b w hBw
  have hRW : Rd B b l p out W := h.later hbW
  have HT : Hid (Tabs W) := hT.later hbW
  have c2 := hRW.s
  have c3 := hRW.at_
  have HR : Hid (Rd B b l p out W) := hRW
  clear hRW hbW h hT
  go_enter Tryd.func56, Tryd.ntmps56
  go_wp2
  go_quiet (fail)
  rw [ext_drop]
  obtain ⟨W1, hW1⟩ : ∃ W1, W1 = W.drewN nq := ⟨_, rfl⟩
  have HC1 : Hid (Cel B b w W1) := by rw [hW1]; exact HC.out.below hBw hlt (below_drewN (Below.refl _ _) nq)
  have HR1 : Hid (Rd B b l p out W1) := by rw [hW1]; exact HR.out.later (below_drewN (Below.refl _ _) nq)
  have HT1 : Hid (Tabs W1) := by rw [hW1]; exact HT.out.later (below_drewN (Below.refl _ _) nq)
  rw [← hW1]
  clear hW1 HR HC HT c2 c3 hW hsz
  clear W
  have s1 := HC1.out.sz
  rw [← hm.out]
  have hmz := mk_size m
  have hq : ((mk m).toList == []) = false := by rw [ByteArray.toList_eq, mk_data]; cases m; simp at hm1; simp
  have hq0 : ((k : Int) == 0) = false := by simp; omega
  have hME := meant_any c W1 HT1.out
  rw [hmn] at hME
  have HME : Hid (Calls Tryd.prog 64 #[.int .u8 (c.toNat : Int)] W1 fun e w' => e = .returned (.tuple #[.int .i64 0, .bool false]) ∧ Below W1.heap.size W1 w') := hME
  have HDG : Hid (∀ W, Tabs W → Calls Tryd.prog 65 #[.int .u8 (c.toNat : Int)] W fun e w' => e = .returned (.int .i64 (k : Int)) ∧ Below W.heap.size W w') := fun W hT => by rw [hk]; exact digitsOf_any c W hT
  clear hME hm hmn hk
  have e4 : (mk m).extract 1 m.length = mk t := by rw [ht.out]; exact ext_drop m 1
  have HNU : Hid (∀ W, Calls Tryd.prog 66 #[.string (mk t), .int .i64 (k : Int)] W fun e w' => e = .returned (.tuple #[.int .i64 n, .int .i64 4]) ∧ W = w') := fun W => by
    have q := numberOf_any t k W hk8 (by rw [ht.out, List.length_drop]; omega)
    rw [hX.out] at q
    exact q
  clear hX ht
  go_wp2_with (first | (go_at_call 64; refine HME.out.mono ?_; rintro e W2 ⟨rfl, hb2⟩) | (go_at_call 65; refine (HDG.out _ (HT1.out.later hb2)).mono ?_; rintro e W3 ⟨rfl, hb3⟩; have c2 := (HR1.out.later (hb2.trans (hb3.mono hb2.size))).s; have c3 := (HR1.out.later (hb2.trans (hb3.mono hb2.size))).at_) | (go_at_call 66; refine (HNU.out _).mono ?_; rintro e w' ⟨rfl, rfl⟩) | (go_at_call 55; refine (end_any l _ c2).mono ?_; rintro e W4 ⟨rfl, hb4⟩; have HC4 : Hid (Cel B b w W4) := ((HC1.out.below hBw hlt hb2).below hBw hlt hb3).below hBw hlt hb4; obtain ⟨d0, d1, d2, d3⟩ := HC4.out.facts; clear hb2 hb3 hb4))
  refine bodyPost_ret (v := .agg #[.int .i64 4, .int .i64 (l.length : Int)]) (by simp [results, Tryd.results56, go_sem, d0, d1]) rfl ?_
  exact ⟨HC4.out.fin hBw _ _, fun h => by simp at h, fun _ => rfl, fun h => by simp at h⟩

set_option maxHeartbeats 1000000 in
theorem esc_none (w : World) (h : Rd B b l p out w) (hp : p < l.length) (hl : l.length ≤ 140737488351232) (ho : out.length + 4 ≤ 140737488355328) (hBw : B ≤ w.heap.size) (hT : Tabs w) (hB2 : 2 ≤ B) (m : List UInt8) (hm : Hid (m = l.drop (p + 1))) (hm1 : 1 ≤ m.length) (c : UInt8) (hg : ∀ h, (mk m)[0]'h = c) (hm2 : m.length ≤ 140737488351232) (hmn : mnt c = none) (k : Nat) (hk : k = dgs c) (hk0 : k ≠ 0) (hk8 : k ≤ 8) (n : Int) (t : List UInt8) (ht : Hid (t = m.drop 1)) (hX : Hid (hexR k t 0 = (n, 0))) (HS : Hid (sgn n = false)) :
    Calls Tryd.prog 56 #[.pointer (some ⟨b, 0, none⟩)] w fun e w' => EscRes B b l p out w (0, 0, 3) e w' := by
  have hlt := h.lt
  have hB := h.base
  have hsz := mk_size l
  obtain ⟨W, hW⟩ : ∃ W, w.alloc (.cells #[.int .i64 0, .int .i64 0] 24) = W := ⟨_, rfl⟩
  have hbW : Below w.heap.size w W := by rw [← hW]; exact below_alloc _ _
  have HC : Hid (Cel B b w W) := by rw [← hW]; exact Cel.new B b w hBw
  have hRW : Rd B b l p out W := h.later hbW
  have HT : Hid (Tabs W) := hT.later hbW
  have c2 := hRW.s
  have c3 := hRW.at_
  have HR : Hid (Rd B b l p out W) := hRW
  clear hRW hbW h hT
  go_enter Tryd.func56, Tryd.ntmps56
  go_wp2
  go_quiet (fail)
  rw [ext_drop]
  obtain ⟨W1, hW1⟩ : ∃ W1, W1 = W.drewN nq := ⟨_, rfl⟩
  have HC1 : Hid (Cel B b w W1) := by rw [hW1]; exact HC.out.below hBw hlt (below_drewN (Below.refl _ _) nq)
  have HR1 : Hid (Rd B b l p out W1) := by rw [hW1]; exact HR.out.later (below_drewN (Below.refl _ _) nq)
  have HT1 : Hid (Tabs W1) := by rw [hW1]; exact HT.out.later (below_drewN (Below.refl _ _) nq)
  rw [← hW1]
  clear hW1 HR HC HT c2 c3 hW hsz
  clear W
  have s1 := HC1.out.sz
  rw [← hm.out]
  have hmz := mk_size m
  have hq : ((mk m).toList == []) = false := by rw [ByteArray.toList_eq, mk_data]; cases m; simp at hm1; simp
  have hq0 : ((k : Int) == 0) = false := by simp; omega
  have hME := meant_any c W1 HT1.out
  rw [hmn] at hME
  have HME : Hid (Calls Tryd.prog 64 #[.int .u8 (c.toNat : Int)] W1 fun e w' => e = .returned (.tuple #[.int .i64 0, .bool false]) ∧ Below W1.heap.size W1 w') := hME
  have HDG : Hid (∀ W, Tabs W → Calls Tryd.prog 65 #[.int .u8 (c.toNat : Int)] W fun e w' => e = .returned (.int .i64 (k : Int)) ∧ Below W.heap.size W w') := fun W hT => by rw [hk]; exact digitsOf_any c W hT
  clear hME hm hmn hk
  have e4 : (mk m).extract 1 m.length = mk t := by rw [ht.out]; exact ext_drop m 1
  have HNU : Hid (∀ W, Calls Tryd.prog 66 #[.string (mk t), .int .i64 (k : Int)] W fun e w' => e = .returned (.tuple #[.int .i64 n, .int .i64 0]) ∧ W = w') := fun W => by
    have q := numberOf_any t k W hk8 (by rw [ht.out, List.length_drop]; omega)
    rw [hX.out] at q
    exact q
  clear hX ht
  go_wp2_with (first | (go_at_call 64; refine HME.out.mono ?_; rintro e W2 ⟨rfl, hb2⟩) | (go_at_call 65; refine (HDG.out _ (HT1.out.later hb2)).mono ?_; rintro e W3 ⟨rfl, hb3⟩; have c2 := (HR1.out.later (hb2.trans (hb3.mono hb2.size))).s; have c3 := (HR1.out.later (hb2.trans (hb3.mono hb2.size))).at_) | (go_at_call 66; refine (HNU.out _).mono ?_; rintro e w' ⟨rfl, rfl⟩))
  have HC3 : Hid (Cel B b w W3) := (HC1.out.below hBw hlt hb2).below hBw hlt hb3
  have HR3 : Hid (Rd B b l p out W3) := HR1.out.later (hb2.trans (hb3.mono hb2.size))
  clear HME HC1 HR1 HT1 hb2 hb3 c2 c3 HDG HNU
  refine (putSign_any embR n out HR3.out ho (by have := HC3.out.sz; omega)).mono ?_
  rintro e W5 ⟨rfl, hR5, hb5, hk5⟩
  rw [HS.out]
  have q5 : Rd B b l p (out ++ sgb n) W5 := hR5
  have c3 := q5.at_
  have HFI : Hid (∀ W2, Below W5.heap.size W5 W2 → Cel B b w W2) := fun W2 hb => (HC3.out.step hlt ⟨hb5, hk5⟩).below hBw hlt hb
  clear hR5 hb5 hk5 HR3 HC3 q5
  go_wp2_with (first | (go_at_call 38; refine (fault_any _ _ c3).mono ?_; rintro e W4 ⟨rfl, hb4⟩; have HC4 : Hid (Cel B b w W4) := HFI.out W4 hb4; obtain ⟨d0, d1, d2, d3⟩ := HC4.out.facts; clear hb4))
  refine bodyPost_ret (v := .agg #[.int .i64 3, .int .i64 (p : Int)]) (by simp [results, Tryd.results56, go_sem, d0, d1]) rfl ?_
  exact ⟨HC4.out.fin hBw _ _, fun h => by simp at h, fun h => by simp at h, fun _ => rfl⟩

set_option maxHeartbeats 1000000 in
theorem esc_num (w : World) (h : Rd B b l p out w) (hp : p < l.length) (hl : l.length ≤ 140737488351232) (ho : out.length + 4 ≤ 140737488355328) (hBw : B ≤ w.heap.size) (hT : Tabs w) (hB2 : 2 ≤ B) (m : List UInt8) (hm : Hid (m = l.drop (p + 1))) (hm1 : 1 ≤ m.length) (c : UInt8) (hg : ∀ h, (mk m)[0]'h = c) (hm2 : m.length ≤ 140737488351232) (hmn : mnt c = none) (k : Nat) (hk : k = dgs c) (hk0 : k ≠ 0) (hk8 : k ≤ 8) (n : Int) (t : List UInt8) (ht : Hid (t = m.drop 1)) (hX : Hid (hexR k t 0 = (n, 0))) (HS : Hid (sgn n = true)) (hkl : k + 1 ≤ m.length) :
    Calls Tryd.prog 56 #[.pointer (some ⟨b, 0, none⟩)] w fun e w' => EscRes B b l p out w (n, 2 + k, 0) e w' := by
  have hlt := h.lt
  have hB := h.base
  have hsz := mk_size l
  obtain ⟨W, hW⟩ : ∃ W, w.alloc (.cells #[.int .i64 0, .int .i64 0] 24) = W := ⟨_, rfl⟩
  have hbW : Below w.heap.size w W := by rw [← hW]; exact below_alloc _ _
  have HC : Hid (Cel B b w W) := by rw [← hW]; exact Cel.new B b w hBw
  have hRW : Rd B b l p out W := h.later hbW
  have HT : Hid (Tabs W) := hT.later hbW
  have c2 := hRW.s
  have c3 := hRW.at_
  have HR : Hid (Rd B b l p out W) := hRW
  clear hRW hbW h hT
  go_enter Tryd.func56, Tryd.ntmps56
  go_wp2
  go_quiet (fail)
  rw [ext_drop]
  obtain ⟨W1, hW1⟩ : ∃ W1, W1 = W.drewN nq := ⟨_, rfl⟩
  have HC1 : Hid (Cel B b w W1) := by rw [hW1]; exact HC.out.below hBw hlt (below_drewN (Below.refl _ _) nq)
  have HR1 : Hid (Rd B b l p out W1) := by rw [hW1]; exact HR.out.later (below_drewN (Below.refl _ _) nq)
  have HT1 : Hid (Tabs W1) := by rw [hW1]; exact HT.out.later (below_drewN (Below.refl _ _) nq)
  rw [← hW1]
  clear hW1 HR HC HT c2 c3 hW hsz
  clear W
  have s1 := HC1.out.sz
  rw [← hm.out]
  have hmz := mk_size m
  have hq : ((mk m).toList == []) = false := by rw [ByteArray.toList_eq, mk_data]; cases m; simp at hm1; simp
  have hq0 : ((k : Int) == 0) = false := by simp; omega
  have hME := meant_any c W1 HT1.out
  rw [hmn] at hME
  have HME : Hid (Calls Tryd.prog 64 #[.int .u8 (c.toNat : Int)] W1 fun e w' => e = .returned (.tuple #[.int .i64 0, .bool false]) ∧ Below W1.heap.size W1 w') := hME
  have HDG : Hid (∀ W, Tabs W → Calls Tryd.prog 65 #[.int .u8 (c.toNat : Int)] W fun e w' => e = .returned (.int .i64 (k : Int)) ∧ Below W.heap.size W w') := fun W hT => by rw [hk]; exact digitsOf_any c W hT
  clear hME hm hmn hk
  have e4 : (mk m).extract 1 m.length = mk t := by rw [ht.out]; exact ext_drop m 1
  have HNU : Hid (∀ W, Calls Tryd.prog 66 #[.string (mk t), .int .i64 (k : Int)] W fun e w' => e = .returned (.tuple #[.int .i64 n, .int .i64 0]) ∧ W = w') := fun W => by
    have q := numberOf_any t k W hk8 (by rw [ht.out, List.length_drop]; omega)
    rw [hX.out] at q
    exact q
  clear hX ht
  go_wp2_with (first | (go_at_call 64; refine HME.out.mono ?_; rintro e W2 ⟨rfl, hb2⟩) | (go_at_call 65; refine (HDG.out _ (HT1.out.later hb2)).mono ?_; rintro e W3 ⟨rfl, hb3⟩; have c2 := (HR1.out.later (hb2.trans (hb3.mono hb2.size))).s; have c3 := (HR1.out.later (hb2.trans (hb3.mono hb2.size))).at_) | (go_at_call 66; refine (HNU.out _).mono ?_; rintro e w' ⟨rfl, rfl⟩))
  have HC2 : Hid (Cel B b w W3) := (HC1.out.below hBw hlt hb2).below hBw hlt hb3
  have HR2 : Hid (Rd B b l p out W3) := HR1.out.later (hb2.trans (hb3.mono hb2.size))
  clear HME HC1 HR1 HT1 hb2 hb3 c2 c3 HDG HNU
  refine (putSign_any embR n out HR2.out ho (by have := HC2.out.sz; omega)).mono ?_
  rintro e W5 ⟨rfl, hR5, hb5, hk5⟩
  rw [HS.out]
  have HR5 : Hid (Rd B b l p (out ++ u8s (byt n)) W5) := by
    have q : Rd B b l p (out ++ sgb n) W5 := hR5
    unfold sgb at q
    rw [if_pos HS.out] at q
    exact q
  have HC5 : Hid (Cel B b w W5) := HC2.out.step hlt ⟨hb5, hk5⟩
  obtain ⟨W4, hW4⟩ : ∃ W4, W5.setCell ⟨b, 3, none⟩ (.int .i64 ((p + (2 + k) : Nat) : Int)) = W4 := ⟨_, rfl⟩
  have HR4 : Hid (Rd B b l (p + (2 + k)) (out ++ u8s (byt n)) W4) := by rw [← hW4]; exact HR5.out.set _
  have HC4 : Hid (Cel B b w W4) := by rw [← hW4]; exact HC5.out.set hB hlt 3 _
  rw [show ((p + (2 + k) : Nat) : Int) = (p : Int) + (2 + (k : Int)) by omega] at hW4
  have c3 := HR5.out.at_
  have z3 := HR5.out.fz 3
  obtain ⟨d0, d1, d2, d3⟩ := HC4.out.facts
  clear hR5 hb5 hk5 HR2 HC2 HR5 HC5
  go_wp2
  refine bodyPost_ret (v := .agg #[.int .i64 0, .int .i64 0]) (by simp [results, Tryd.results56, go_sem, d0, d1]) rfl ?_
  exact ⟨HC4.out.fin hBw _ _, fun _ => ⟨rfl, HR4.out.fault2 HC4.out.sh (by omega) _ _⟩, fun h => by simp at h, fun h => by simp at h⟩


end Go.Proofs.YtiipndfogofhgaaDoor.Quo
