/- A disk of the call's own; alive. -/
import Derived.Test.YtedpiikdlpehjaaDiskAll
import Derived.Lib.SlBytesConst
namespace Go.Proofs.Ytedpiikdlpehjaa.Dsk
open Go Go.RowKit Go.Maps
set_option linter.unusedSimpArgs false
set_option linter.unusedVariables false

/-- a disk that was made behind w0 -/
def Mine (w0 w : World) (d : Nat) (m : M) : Prop := ∃ F, DiskAt w F d m ∧ (∀ k, F k → w0.heap.size ≤ k) ∧ Below w0.heap.size w0 w
section
variable {w0 w : World} {d : Nat} {m : M}
theorem Mine.bel (h : Mine w0 w d m) : Below w0.heap.size w0 w := by obtain ⟨F, _, _, h⟩ := h; exact h
theorem Mine.later (h : Mine w0 w d m) {w' : World} (hb : Below w.heap.size w w') : Mine w0 w' d m := by
  obtain ⟨F, h1, h2, h3⟩ := h
  exact ⟨F, h1.below hb, h2, h3.trans (hb.mono h3.size)⟩
theorem Mine.post {F : Nat → Prop} {w' : World} {m' : M} (h2 : ∀ k, F k → w0.heap.size ≤ k) (h3 : Below w0.heap.size w0 w) (hp : Post F d w w' m') : Mine w0 w' d m' := by
  obtain ⟨F', k1, k2, k3⟩ := hp
  refine ⟨F', k1, fun k hk => ?_, h3.trans (k3.below h3.size h2)⟩
  rcases k2 k hk with q | q
  · exact h2 k q
  · exact Nat.le_trans h3.size q
theorem Mine.create (h : Mine w0 w d m) (hc : m.calls < 1099511627776) (n : Nm) (hn : n.length ≤ maxLen) : Calls Try.prog 20 #[.pointer (some ⟨d, 0, none⟩), .string (str n)] w fun e w' => e = .returned (.int .i64 (m.create n).2) ∧ Mine w0 w' d (m.create n).1 := by
  obtain ⟨F, h1, h2, h3⟩ := h
  exact (h1.create hc n hn).mono fun e w' ⟨he, hp⟩ => ⟨he, Mine.post h2 h3 hp⟩
theorem Mine.append {W : World} (h : Mine w0 w d m) (hb : Below w.heap.size w W) (hc : m.calls < 1099511627776) (n : Nm) (hn : n.length ≤ maxLen) (a : Option Addr) (len cap : Nat) (bs : List UInt8) (hS : Bys W a len bs) (hl : len ≤ 140737488355328) (hsrc : ∀ b off, a = some ⟨b, off, none⟩ → 0 < len → b < w0.heap.size ∨ w.heap.size ≤ b) :
    Calls Try.prog 21 #[.pointer (some ⟨d, 0, none⟩), .string (str n), .slice a len cap] W fun e w' => e = .returned (.int .i64 (m.append n bs).2) ∧ Mine w0 w' d (m.append n bs).1 := by
  obtain ⟨F, h1, h2, h3⟩ := h
  refine ((h1.below hb).append hc n hn a len cap bs hS hl fun b off ha hp hF => ?_).mono fun e w' ⟨he, hp⟩ => ⟨he, Mine.post h2 (h3.trans (hb.mono h3.size)) hp⟩
  rcases hsrc b off ha hp with q | q
  · have := h2 b hF; omega
  · have := h1.lt b hF; omega
theorem Mine.sync (h : Mine w0 w d m) (hc : m.calls < 1099511627776) (n : Nm) (hn : n.length ≤ maxLen) : Calls Try.prog 22 #[.pointer (some ⟨d, 0, none⟩), .string (str n)] w fun e w' => e = .returned (.int .i64 (m.sync n).2) ∧ Mine w0 w' d (m.sync n).1 := by
  obtain ⟨F, h1, h2, h3⟩ := h
  exact (h1.sync hc n hn).mono fun e w' ⟨he, hp⟩ => ⟨he, Mine.post h2 h3 hp⟩
theorem Mine.rename (h : Mine w0 w d m) (hc : m.calls < 1099511627776) (a b : Nm) (ha : a.length ≤ maxLen) (hb : b.length ≤ maxLen) : Calls Try.prog 26 #[.pointer (some ⟨d, 0, none⟩), .string (str a), .string (str b)] w fun e w' => e = .returned (.int .i64 (m.rename a b).2) ∧ Mine w0 w' d (m.rename a b).1 := by
  obtain ⟨F, h1, h2, h3⟩ := h
  exact (h1.rename hc a b ha hb).mono fun e w' ⟨he, hp⟩ => ⟨he, Mine.post h2 h3 hp⟩
theorem Mine.remove (h : Mine w0 w d m) (hc : m.calls < 1099511627776) (n : Nm) (hn : n.length ≤ maxLen) : Calls Try.prog 27 #[.pointer (some ⟨d, 0, none⟩), .string (str n)] w fun e w' => e = .returned (.int .i64 (m.remove n).2) ∧ Mine w0 w' d (m.remove n).1 := by
  obtain ⟨F, h1, h2, h3⟩ := h
  exact (h1.remove hc n hn).mono fun e w' ⟨he, hp⟩ => ⟨he, Mine.post h2 h3 hp⟩
theorem Mine.syncDir (h : Mine w0 w d m) (hc : m.calls < 1099511627776) : Calls Try.prog 24 #[.pointer (some ⟨d, 0, none⟩)] w fun e w' => e = .returned (.int .i64 m.syncDir.2) ∧ Mine w0 w' d m.syncDir.1 := by
  obtain ⟨F, h1, h2, h3⟩ := h
  exact (h1.syncDir hc).mono fun e w' ⟨he, hp⟩ => ⟨he, Mine.post h2 h3 hp⟩
theorem Mine.arm (h : Mine w0 w d m) (n : Int) (hn : n ≤ 9223372036854775807) : Calls Try.prog 23 #[.pointer (some ⟨d, 0, none⟩), .int .i64 n] w fun e w' => e = .returned (.tuple #[]) ∧ Mine w0 w' d (m.arm n) := by
  obtain ⟨F, h1, h2, h3⟩ := h
  exact (h1.arm n hn).mono fun e w' ⟨he, hp⟩ => ⟨he, Mine.post h2 h3 hp⟩
theorem Mine.start (h : Mine w0 w d m) (hc : m.calls < 1099511627776) (ch : Int) (ka : Option Addr) (klen kcap : Nat) (zs : List Int) (hK : Ints w ka klen zs) (hkl : klen ≤ kcap) (hkm : kcap ≤ maxLen) (hsrc : ∀ b off, ka = some ⟨b, off, none⟩ → 0 < klen → b < w0.heap.size) :
    Calls Try.prog 25 #[.pointer (some ⟨d, 0, none⟩), .int .i64 ch, .slice ka klen kcap] w fun e w' => e = .returned (.int .i64 (m.start ch zs).2) ∧ Mine w0 w' d (m.start ch zs).1 := by
  obtain ⟨F, h1, h2, h3⟩ := h
  exact (h1.start hc ch ka klen kcap zs hK hkl hkm fun b off ha hp hF => by have := h2 b hF; have := hsrc b off ha hp; omega).mono fun e w' ⟨he, hp⟩ => ⟨he, Mine.post h2 h3 hp⟩
theorem Ints.nil (w : World) : Ints w none 0 [] := ⟨rfl, fun h => absurd h (by decide)⟩
theorem Mine.start_nil (h : Mine w0 w d m) (hc : m.calls < 1099511627776) (ch : Int) : Calls Try.prog 25 #[.pointer (some ⟨d, 0, none⟩), .int .i64 ch, .slice none 0 0] w fun e w' => e = .returned (.int .i64 (m.start ch []).2) ∧ Mine w0 w' d (m.start ch []).1 :=
  h.start hc ch none 0 0 [] (Ints.nil w) (Nat.le_refl _) (Nat.zero_le _) (fun b off h _ => by cases h)
theorem Mine.on (h : Mine w0 w d m) : Calls Try.prog 11 #[.pointer (some ⟨d, 0, none⟩)] w fun e w' => e = .returned (.bool m.on) ∧ w = w' := by
  obtain ⟨F, h1, h2, h3⟩ := h
  exact h1.on
theorem Mine.calls (h : Mine w0 w d m) : Calls Try.prog 17 #[.pointer (some ⟨d, 0, none⟩)] w fun e w' => e = .returned (.int .i64 m.calls) ∧ w = w' := by
  obtain ⟨F, h1, h2, h3⟩ := h
  exact h1.calls
theorem Mine.used (h : Mine w0 w d m) : Calls Try.prog 15 #[.pointer (some ⟨d, 0, none⟩)] w fun e w' => e = .returned (.int .i64 m.uses) ∧ Below w.heap.size w w' := by
  obtain ⟨F, h1, h2, h3⟩ := h
  exact h1.used
theorem Mine.names (h : Mine w0 w d m) : Calls Try.prog 13 #[.pointer (some ⟨d, 0, none⟩)] w fun e w' => ∃ v, e = .returned v ∧ Texts w' w.heap.size v m.list ∧ Below w.heap.size w w' := by
  obtain ⟨F, h1, h2, h3⟩ := h
  exact h1.names
theorem Mine.read (h : Mine w0 w d m) (n : Nm) (hn : n.length ≤ maxLen) : Calls Try.prog 18 #[.pointer (some ⟨d, 0, none⟩), .string (str n)] w fun e w' => ∃ v, e = .returned (.tuple #[v, .int .i64 (m.read n).2]) ∧ Fresh w' w.heap.size v (m.read n).1 ∧ Below w.heap.size w w' := by
  obtain ⟨F, h1, h2, h3⟩ := h
  exact h1.read n hn
theorem mine_new (r : Nat) (w : World) (h : r ≤ 1048576) : Calls Try.prog 6 #[.int .i64 r] w fun e w' => ∃ d, e = .returned (.tuple #[.pointer (some ⟨d, 0, none⟩), .int .i64 0]) ∧ Mine w w' d (M.new r) :=
  (new_ok r w h).mono fun e w' ⟨d, F, he, h1, h2, h3⟩ => ⟨d, he, F, h1, h2, h3⟩
end
theorem bys_row (w : World) (l : List UInt8) (C : Array Value) (fr : Nat × Nat) (hC : C = (byC l).toArray) (n : Nat) (hn : n = l.length) : Bys (w.alloc (.cells C 5 fr)) (some ⟨w.heap.size, 0, none⟩) n l := by
  refine ⟨hn, fun _ => ⟨w.heap.size, 0, rfl, by simp, fun i hi => ?_⟩⟩
  rw [Nat.zero_add, cell_of_row _ w.heap.size i C _ fr (heap_alloc_new w _), hC, ← byC_at l i (by omega)]
  simp
set_option maxHeartbeats 1000000 in
theorem alive_any (w : World) : Calls Try.prog 5 #[] w fun e w' => e = .returned (.bool true) ∧ Below w.heap.size w w' := by
  have n1 : ([97] : Nm).length ≤ maxLen := by unfold maxLen; decide
  obtain ⟨m0, hm0⟩ : ∃ x, x = M.new 9 := ⟨_, rfl⟩
  obtain ⟨m1, hm1⟩ : ∃ x, x = (m0.create [97]).1 := ⟨_, rfl⟩
  obtain ⟨m2, hm2⟩ : ∃ x, x = (m1.append [97] [120, 121]).1 := ⟨_, rfl⟩
  obtain ⟨m3, hm3⟩ : ∃ x, x = (m2.sync [97]).1 := ⟨_, rfl⟩
  obtain ⟨m4, hm4⟩ : ∃ x, x = m3.arm 0 := ⟨_, rfl⟩
  obtain ⟨m5, hm5⟩ : ∃ x, x = m4.syncDir.1 := ⟨_, rfl⟩
  obtain ⟨m6, hm6⟩ : ∃ x, x = (m5.start 1 []).1 := ⟨_, rfl⟩
  have e1 : ((m0.create [97]).2 : Int) = 0 := by subst hm0; decide +kernel
  have e2 : ((m1.append [97] [120, 121]).2 : Int) = 0 := by subst hm1 hm0; decide +kernel
  have e3 : ((m2.sync [97]).2 : Int) = 0 := by subst hm2 hm1 hm0; decide +kernel
  have e5 : (m4.syncDir.2 : Int) = 15 := by subst hm4 hm3 hm2 hm1 hm0; decide +kernel
  have eo : m5.on = false := by subst hm5 hm4 hm3 hm2 hm1 hm0; decide +kernel
  have e6 : ((m5.start 1 []).2 : Int) = 0 := by subst hm5 hm4 hm3 hm2 hm1 hm0; decide +kernel
  have e7 : m6.read [97] = ([120, 121], 0) := by subst hm6 hm5 hm4 hm3 hm2 hm1 hm0; decide +kernel
  have e8 : (m6.uses : Int) = 2 := by subst hm6 hm5 hm4 hm3 hm2 hm1 hm0; decide +kernel
  have e9 : (m6.calls : Int) = 3 := by subst hm6 hm5 hm4 hm3 hm2 hm1 hm0; decide +kernel
  have c0 : m0.calls < 1099511627776 := by subst hm0; decide +kernel
  have c1 : m1.calls < 1099511627776 := by subst hm1 hm0; decide +kernel
  have c2 : m2.calls < 1099511627776 := by subst hm2 hm1 hm0; decide +kernel
  have c4 : m4.calls < 1099511627776 := by subst hm4 hm3 hm2 hm1 hm0; decide +kernel
  have c5 : m5.calls < 1099511627776 := by subst hm5 hm4 hm3 hm2 hm1 hm0; decide +kernel
  have HE : Hid (((m0.create [97]).2 : Int) = 0 ∧ ((m1.append [97] [120, 121]).2 : Int) = 0 ∧ ((m2.sync [97]).2 : Int) = 0 ∧ (m4.syncDir.2 : Int) = 15 ∧ m5.on = false ∧ ((m5.start 1 []).2 : Int) = 0 ∧ m6.read [97] = ([120, 121], 0) ∧ (m6.uses : Int) = 2 ∧ (m6.calls : Int) = 3) := ⟨e1, e2, e3, e5, eo, e6, e7, e8, e9⟩
  have HC : Hid (m0.calls < 1099511627776 ∧ m1.calls < 1099511627776 ∧ m2.calls < 1099511627776 ∧ m4.calls < 1099511627776 ∧ m5.calls < 1099511627776) := ⟨c0, c1, c2, c4, c5⟩
  have H1 : Hid (m1 = (m0.create [97]).1) := hm1
  have H2 : Hid (m2 = (m1.append [97] [120, 121]).1) := hm2
  have H3 : Hid (m3 = (m2.sync [97]).1) := hm3
  have H4 : Hid (m4 = m3.arm 0) := hm4
  have H5 : Hid (m5 = m4.syncDir.1) := hm5
  have H6 : Hid (m6 = (m5.start 1 []).1) := hm6
  have h0 : Calls Try.prog 6 #[.int .i64 9] w fun e w' => ∃ d, e = .returned (.tuple #[.pointer (some ⟨d, 0, none⟩), .int .i64 0]) ∧ Mine w w' d m0 := by rw [hm0]; exact mine_new 9 w (by decide)
  have s1 : str [97] = ⟨#[97]⟩ := rfl
  have HS1 : Hid (str [97] = ⟨#[97]⟩) := s1
  have HN : Hid (([97] : Nm).length ≤ maxLen) := n1
  clear e1 e2 e3 e5 eo e6 e7 e8 e9 c0 c1 c2 c4 c5 hm0 hm1 hm2 hm3 hm4 hm5 hm6 n1 s1
  go_enter Try.func5, Try.ntmps5
  go_wp2_with fail
  refine h0.mono ?_
  rintro e w1 ⟨d, rfl, M0⟩
  have h1 := M0.create HC.out.1 [97] HN.out
  rw [HE.out.1, ← H1.out, HS1.out] at h1
  clear h0 M0
  go_wp2_with fail
  refine h1.mono ?_
  rintro e w2 ⟨rfl, M1⟩
  have hcv := Lib.run_convert_bytes_const (P := Try.prog) w2 37 5 #[.int .u8 120, .int .u8 121] 2 2 Try.underlying37 Try.underlying5
  have hB2 : Below w2.heap.size w2 (w2.alloc (.cells #[.int .u8 120, .int .u8 121] 5 (2, 3))) := (Below.refl _ w2).alloc (Nat.le_refl _) _
  have h2 := M1.append hB2 HC.out.2.1 [97] HN.out (some ⟨w2.heap.size, 0, none⟩) 2 2 [120, 121] (bys_row w2 [120, 121] _ _ rfl 2 rfl) (by decide) (fun b off h _ => by cases h; exact .inr (Nat.le_refl _))
  rw [HE.out.2.1, ← H2.out, HS1.out] at h2
  clear h1 M1 hB2
  go_wp2_with fail
  refine h2.mono ?_
  rintro e w3 ⟨rfl, M2⟩
  have h3 := M2.sync HC.out.2.2.1 [97] HN.out
  rw [HE.out.2.2.1, ← H3.out, HS1.out] at h3
  clear h2 M2 hcv
  go_wp2_with fail
  refine h3.mono ?_
  rintro e w4 ⟨rfl, M3⟩
  have h4 := M3.arm 0 (by decide)
  rw [← H4.out] at h4
  clear h3 M3
  go_wp2_with fail
  refine h4.mono ?_
  rintro e w5 ⟨rfl, M4⟩
  have h5 := M4.syncDir HC.out.2.2.2.1
  rw [HE.out.2.2.2.1, ← H5.out] at h5
  clear h4 M4
  go_wp2_with fail
  refine h5.mono ?_
  rintro e w6 ⟨rfl, M5⟩
  have h6 := M5.on
  rw [HE.out.2.2.2.2.1] at h6
  have h7 := M5.start_nil HC.out.2.2.2.2 1
  rw [HE.out.2.2.2.2.2.1, ← H6.out] at h7
  clear h5 M5
  go_wp2_with (first | (go_at_call 11; refine h6.mono ?_; rintro e w' ⟨rfl, rfl⟩))
  refine h7.mono ?_
  rintro e w7 ⟨rfl, M6⟩
  have h8 := M6.read [97] HN.out
  rw [HE.out.2.2.2.2.2.2.1, HS1.out] at h8
  clear h6 h7
  go_wp2_with fail
  refine h8.mono ?_
  rintro e w8 ⟨v, rfl, hF, hB8⟩
  obtain ⟨va, vc, rfl, hby, _⟩ := hF.1.bys
  have hcv := conv_bys (cap := vc) hby
  have hq : ((str [120, 121]).toList == [120, 121]) = true := by rw [str_toList]; rfl
  have M8 := M6.later hB8
  have h9 := M8.used
  rw [HE.out.2.2.2.2.2.2.2.1] at h9
  have HM8 : Hid (Mine w w8 d m6) := M8
  clear h8 M6 hF hby hB8 M8
  simp only [List.length_cons, List.length_nil] at hcv ⊢
  go_wp2_with fail
  refine h9.mono ?_
  rintro e w9 ⟨rfl, hB9⟩
  have M9 := HM8.out.later hB9
  have h10 := M9.calls
  rw [HE.out.2.2.2.2.2.2.2.2] at h10
  have HB : Hid (Below w.heap.size w w9) := M9.bel
  clear h9 M9 hcv hq
  go_wp2_with (first | (go_at_call 17; refine h10.mono ?_; rintro e w' ⟨rfl, rfl⟩))
  go_ret
  exact ⟨rfl, HB.out⟩
end Go.Proofs.Ytedpiikdlpehjaa.Dsk
