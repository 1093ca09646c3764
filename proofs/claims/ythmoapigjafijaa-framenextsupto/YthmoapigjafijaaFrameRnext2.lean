/- The reference's Next. -/
import Derived.Test.YthmoapigjafijaaFrameRnext
namespace Go.Proofs.Ythmoapigjafijaa.Frm
open Go.RowKit Crc
set_option linter.unusedSimpArgs false
set_option linter.unusedVariables false

theorem rnext_end {W : World} {g : Nat} {x y n e : Value} {R : Ending → World → Prop} {tmps : Array Value} (h : Row W g 24 [x, y]) (hx : x.oneCell' = true) (hy : y.oneCell' = true) (h2 : tmps.getD 2 undef = .pointer (some ⟨g, 0, none⟩)) (h3 : tmps.getD 3 undef = n) (h4 : tmps.getD 4 undef = e)
    (hR : R (.returned (.tuple #[.agg #[x, y], n, e])) W) : bodyPost Try.prog Try.f14 R .ret { tmps := tmps, defers := [] } W := by
  have hc0 : W.cell? ⟨g, 0, none⟩ = some x := by rw [h.cell]; rfl
  have hc1 : W.cell? ⟨g, 1, none⟩ = some y := by rw [h.cell]; rfl
  refine bodyPost_ret (v := .tuple #[.agg #[x, y], n, e]) ?_ rfl hR
  subst h3 h4
  have h2' : tmps[2]?.getD undef = .pointer (some ⟨g, 0, none⟩) := by simpa using h2
  simp [results, Try.results14, h2', go_sem, hc0, hc1]

theorem rvalue_q {W : World} {n : Nat} {a : Option Addr} {len cap : Nat} {l : List UInt8} (h : Bys W a len l) (hm : len ≤ 8) : Calls Try.prog 29 #[.slice a len cap] (W.drewN n) fun e w'' => e = .returned (.int .u64 (val l)) ∧ ∃ m, w'' = W.drewN m :=
  (rvalue_any a len cap l (W.drewN n) h hm).mono fun _ _ ⟨he, hw⟩ => ⟨he, n, hw.symm⟩
theorem rsum_two_drew {w : World} {a a' : Option Addr} {len cap len' cap' : Nat} {l l' : List UInt8} (b N : Nat) (hb : b = w.heap.size) (h : Bys w a len l) (hm : len ≤ maxLen) (h' : Bys w a' len' l') (hm' : len' ≤ maxLen) (hN : N = (sum (l ++ l')).toNat) :
    Calls Try.prog 23 #[.slice (some ⟨b, 0, none⟩) 2 2] (w.alloc (.cells #[.slice a len cap, .slice a' len' cap'] 22)).drew fun e w' => e = .returned (.int .u32 (N : Int)) ∧ Below w.heap.size w w' := by
  subst hb
  have hP : Parts (w.alloc (.cells #[.slice a len cap, .slice a' len' cap'] 22)).drew (some ⟨w.heap.size, 0, none⟩) 2 [l, l'] := parts_two (cap := cap) (cap' := cap') _ h hm h' hm'
  refine (rsum_any _ 2 2 [l, l'] _ hP (by decide)).mono ?_
  rintro e w' ⟨rfl, rfl⟩
  refine ⟨?_, ((Below.refl _ w).alloc (Nat.le_refl _) _).drew⟩
  rw [hN, nm_eq, show sums [l, l'] = sum (l ++ l') from (sum_app l l').symm]
theorem bys_cells' {w : World} {a : Option Addr} {len : Nat} {l : List UInt8} (h : Bys w a len l) {ad : Addr} (ha : a = some ad) : ∀ j u, (byC l)[j]? = some u → w.cell? (ad.add j) = some u := by
  intro j u hu
  have hj : j < l.length := by
    have := (List.getElem?_eq_some_iff.1 hu).1
    rwa [byC_len] at this
  obtain ⟨b, off, ha', _, hc⟩ := h.2 (by rw [h.1]; omega)
  rw [ha] at ha'
  cases ha'
  rw [byC_at l j hj] at hu
  rw [Addr.add_mid, ← hu]
  exact hc j (by rw [h.1]; exact hj)
theorem own_slice {w : World} {B : Nat} {e : TypeId} {k n : Nat} {v : Value} {xs : List Value} (h : w.ownsRow B e k v n xs) : ∃ a c, v = .slice a n c := by
  rcases h.2 with ⟨rfl, rfl⟩ | ⟨g, cap, _, rfl, _⟩
  · exact ⟨_, _, rfl⟩
  · exact ⟨_, _, rfl⟩
theorem own_set {w : World} {B : Nat} {e : TypeId} {k n : Nat} {v : Value} {xs : List Value} (h : w.ownsRow B e k v n xs) (p : Addr) (hp : p.block < B) (u : Value) : (w.setCell p u).ownsRow B e k v n xs := by
  obtain ⟨h1, h2⟩ := h
  refine ⟨h1, ?_⟩
  rcases h2 with h2 | ⟨g, cap, cur, hv, hg, hh, rest⟩
  · exact .inl h2
  · exact .inr ⟨g, cap, cur, hv, hg, by rw [Below.heap_setCell _ _ _ _ (by omega)]; exact hh, rest⟩
def RNextRes (w : World) (l : List UInt8) (e : Ending) (w' : World) : Prop :=
  Below w.heap.size w w' ∧ ((nxtE l ≠ 0 ∧ e = .returned (.tuple #[nul, .int .i64 0, .int .i64 (nxtE l)])) ∨
    (nxtE l = 0 ∧ ∃ v, e = .returned (.tuple #[.agg #[.int .i64 (nxtS l), v], .int .i64 (nxtN l), .int .i64 0]) ∧ w'.ownsRow (w.heap.size + 1) 5 1 v (nxtD l).length (byC (nxtD l))))

set_option maxHeartbeats 2000000 in
theorem rnext_all (a : Option Addr) (len cap : Nat) (l : List UInt8) (w : World) (hl : Bys w a len l) (hlc : len ≤ cap) (hm : cap ≤ maxLen) :
    Calls Try.prog 14 #[.slice a len cap] w fun e w' => RNextRes w l e w' := by
  have HZ : Hid (Bys w a len l) := hl
  have HL : Hid (len = l.length) := hl.1
  have HLC : Hid (len ≤ cap) := hlc
  have HM : Hid (cap ≤ maxLen) := hm
  have hcm : cap ≤ 9223372036854775807 := hm
  have HZ0 : Hid (∀ W, Below w.heap.size w W → Bys W a len l) := fun W h => HZ.out.later h (Nat.le_refl _)
  clear hl hm
  go_enter Try.func14, Try.ntmps14
  go_wp2_with fail
  obtain ⟨W, HW⟩ : ∃ W, Hid (W = w.alloc (.cells #[.int .i64 0, .slice none 0 0] 24)) := ⟨_, rfl⟩
  obtain ⟨g, HGG⟩ : ∃ g, Hid (g = w.heap.size) := ⟨_, rfl⟩
  have hW2 : Hid (Row W g 24 [.int .i64 0, .slice none 0 0]) := by
    rw [HW.out, HGG.out]
    exact Row.mk w [.int .i64 0, .slice none 0 0] _
  have hW3 : Hid (Below w.heap.size w W) := by
    rw [HW.out]
    exact (Below.refl _ w).alloc (Nat.le_refl _) _
  rw [← HW.out, ← HGG.out]
  clear HW
  refine (begins_any _ _ _ _ _ (HZ0.out _ hW3.out) (Nat.le_trans HLC.out HM.out)).mono ?_
  rintro e w1 ⟨rfl, hB1⟩
  have HR1 : Hid (Row w1 g 24 [.int .i64 0, .slice none 0 0]) := hW2.out.below hB1 hW2.out.lt
  have HBe : Hid (Below w.heap.size w w1) := hW3.out.trans (hB1.mono hW3.out.size)
  have hc0 : w1.cell? ⟨g, 0, none⟩ = some (.int .i64 0) := by rw [HR1.out.cell]; rfl
  have hc1 : w1.cell? ⟨g, 1, none⟩ = some (.slice none 0 0) := by rw [HR1.out.cell]; rfl
  have hf0 := HR1.out.free 0
  have hf1 := HR1.out.free 1
  have HFIN : Hid (Row ((w1.setCell ⟨g, 0, none⟩ (.int .i64 0)).setCell ⟨g, 1, none⟩ (.slice none 0 0)) g 24 [.int .i64 0, .slice none 0 0] ∧ Below w.heap.size w ((w1.setCell ⟨g, 0, none⟩ (.int .i64 0)).setCell ⟨g, 1, none⟩ (.slice none 0 0))) :=
    ⟨(HR1.out.set 0 (.int .i64 0)).set 1 (.slice none 0 0), (HBe.out.setCell (p := ⟨g, 0, none⟩) (by rw [HGG.out]; exact Nat.le_refl _) (.int .i64 0)).setCell (p := ⟨g, 1, none⟩) (by rw [HGG.out]; exact Nat.le_refl _) (.slice none 0 0)⟩
  clear hB1 hW2 hW3
  cases hb : beg l with
  | false =>
    have HF : Hid (nxtE l = 3) := by show _ = _; unfold nxtE; rw [if_pos hb]
    clear hb
    go_wp2
    exact rnext_end HFIN.out.1 rfl rfl rfl rfl rfl ⟨HFIN.out.2, .inl ⟨by rw [HF.out]; decide, by rw [HF.out]; rfl⟩⟩
  | true =>
    by_cases h20 : len < 20
    · have hd : decide ((len : Int) < 20) = true := decide_eq_true (by omega)
      have HF : Hid (nxtE l = 4) := by show _ = _; unfold nxtE; rw [if_neg (by rw [hb]; decide), if_pos (by rw [← HL.out]; exact h20)]
      clear hb
      go_wp2
      exact rnext_end HFIN.out.1 rfl rfl rfl rfl rfl ⟨HFIN.out.2, .inl ⟨by rw [HF.out]; decide, by rw [HF.out]; rfl⟩⟩
    have hd : decide ((len : Int) < 20) = false := decide_eq_false (by omega)
    obtain ⟨n, HN⟩ : ∃ n, Hid (n = val (cut l 4 8)) := ⟨_, rfl⟩
    obtain ⟨q, HQ⟩ : ∃ q, Hid (q = val (cut l 8 16)) := ⟨_, rfl⟩
    obtain ⟨m, HMM⟩ : ∃ m, Hid (m = val (cut l 16 20)) := ⟨_, rfl⟩
    have HNX : Hid (nxtE l = if n > 262144 then 5 else if q < 1 ∨ q > 4611686018427387904 then 1 else if len - 20 < n then 4 else if (sum (cut l 4 16 ++ cut l 20 (20 + n))).toNat ≠ m then 13 else 0) := by
      show _ = _
      unfold nxtE
      rw [if_neg (by rw [hb]; decide), if_neg (by rw [← HL.out]; exact h20), ← HN.out, ← HQ.out, ← HMM.out, ← HL.out]
      rfl
    obtain ⟨b, off, rfl, hX, hY⟩ := HZ.out.2 (by omega)
    have HV1 : Hid (Bys w1 (some ⟨b, off + 4, none⟩) 4 (cut l 4 8)) := bys_cut (HZ0.out _ HBe.out) 4 8 (by omega) (by omega) _ (fun _ b' off' e => by cases e; rfl)
    have HV2 : Hid (Bys w1 (some ⟨b, off + 8, none⟩) 8 (cut l 8 16)) := bys_cut (HZ0.out _ HBe.out) 8 16 (by omega) (by omega) _ (fun _ b' off' e => by cases e; rfl)
    have hn1 : n < 4294967296 := by
      rw [HN.out]; have := val_lt (cut l 4 8); rw [HV1.out.1.symm] at this; exact this
    have hq1 : q < 18446744073709551616 := by
      rw [HQ.out]; have := val_lt (cut l 8 16); rw [HV2.out.1.symm] at this; exact this
    clear hX hY hb
    go_upto_region 5 with fail
    go_quiet ((go_at_call 29; first | exact rvalue_q HV1.out (by decide) | exact rvalue_q HV2.out (by decide)))
    rw [← HN.out, ← HQ.out]
    obtain ⟨W1, HW1⟩ : ∃ W1, Hid (W1 = w1.drewN nq) := ⟨_, rfl⟩
    rw [← HW1.out]
    have HR1' : Hid (Row W1 g 24 [.int .i64 0, .slice none 0 0]) := by rw [HW1.out]; exact HR1.out
    have HBe' : Hid (Below w.heap.size w W1) := by rw [HW1.out]; exact below_drewN' HBe.out nq
    clear HW1 hc0 hc1 hf0 hf1 HFIN HR1 HBe HV1 HV2
    have hc0 : W1.cell? ⟨g, 0, none⟩ = some (.int .i64 0) := by rw [HR1'.out.cell]; rfl
    have hc1 : W1.cell? ⟨g, 1, none⟩ = some (.slice none 0 0) := by rw [HR1'.out.cell]; rfl
    have hf0 := HR1'.out.free 0
    have hf1 := HR1'.out.free 1
    have HFIN : Hid (Row ((W1.setCell ⟨g, 0, none⟩ (.int .i64 0)).setCell ⟨g, 1, none⟩ (.slice none 0 0)) g 24 [.int .i64 0, .slice none 0 0] ∧ Below w.heap.size w ((W1.setCell ⟨g, 0, none⟩ (.int .i64 0)).setCell ⟨g, 1, none⟩ (.slice none 0 0))) :=
      ⟨(HR1'.out.set 0 (.int .i64 0)).set 1 (.slice none 0 0), (HBe'.out.setCell (p := ⟨g, 0, none⟩) (by rw [HGG.out]; exact Nat.le_refl _) (.int .i64 0)).setCell (p := ⟨g, 1, none⟩) (by rw [HGG.out]; exact Nat.le_refl _) (.slice none 0 0)⟩
    by_cases hA : 262144 < n
    · have hA' : decide ((262144 : Int) < (n : Int)) = true := decide_eq_true (by omega)
      have HF : Hid (nxtE l = 5) := by show _ = _; rw [HNX.out, if_pos hA]
      clear HNX
      go_wp2
      exact rnext_end HFIN.out.1 rfl rfl rfl rfl rfl ⟨HFIN.out.2, .inl ⟨by rw [HF.out]; decide, by rw [HF.out]; rfl⟩⟩
    have hA' : decide ((262144 : Int) < (n : Int)) = false := decide_eq_false (by omega)
    by_cases hB : q < 1
    · have hB' : decide ((q : Int) < 1) = true := decide_eq_true (by omega)
      have HF : Hid (nxtE l = 1) := by show _ = _; rw [HNX.out, if_neg hA, if_pos (.inl hB)]
      clear HNX
      go_wp2
      exact rnext_end HFIN.out.1 rfl rfl rfl rfl rfl ⟨HFIN.out.2, .inl ⟨by rw [HF.out]; decide, by rw [HF.out]; rfl⟩⟩
    have hB' : decide ((q : Int) < 1) = false := decide_eq_false (by omega)
    by_cases hC : 4611686018427387904 < q
    · have hC' : decide ((4611686018427387904 : Int) < (q : Int)) = true := decide_eq_true (by omega)
      have HF : Hid (nxtE l = 1) := by show _ = _; rw [HNX.out, if_neg hA, if_pos (.inr hC)]
      clear HNX
      go_wp2
      exact rnext_end HFIN.out.1 rfl rfl rfl rfl rfl ⟨HFIN.out.2, .inl ⟨by rw [HF.out]; decide, by rw [HF.out]; rfl⟩⟩
    have hC' : decide ((4611686018427387904 : Int) < (q : Int)) = false := decide_eq_false (by omega)
    obtain ⟨r, HRR⟩ : ∃ r, Hid (r = len - 20) := ⟨_, rfl⟩
    have hr : (len : Int) - 20 = (r : Int) := by rw [HRR.out]; omega
    have hr1 : r ≤ 9223372036854775807 := by rw [HRR.out]; omega
    have hwr : IntKind.u64.wrap (r : Int) = (r : Int) := by rw [IntKind.wrap_u64]; omega
    by_cases hE : r < n
    · have hE' : decide ((r : Int) < (n : Int)) = true := decide_eq_true (by omega)
      have HF : Hid (nxtE l = 4) := by show _ = _; rw [HNX.out, if_neg hA, if_neg (by omega), if_pos (by rw [← HRR.out]; exact hE)]
      clear HNX
      go_wp2
      exact rnext_end HFIN.out.1 rfl rfl rfl rfl rfl ⟨HFIN.out.2, .inl ⟨by rw [HF.out]; decide, by rw [HF.out]; rfl⟩⟩
    have hE' : decide ((r : Int) < (n : Int)) = false := decide_eq_false (by omega)
    have hwn : IntKind.i64.wrap (n : Int) = (n : Int) := by simp [IntKind.wrap, IntKind.bits, IntKind.signed]; omega
    have hwq : IntKind.i64.wrap (q : Int) = (q : Int) := by simp [IntKind.wrap, IntKind.bits, IntKind.signed]; omega
    obtain ⟨en, HEN⟩ : ∃ en, Hid (en = 20 + n) := ⟨_, rfl⟩
    have hen : (20 : Int) + (n : Int) = (en : Int) := by rw [HEN.out]; omega
    have he1 : en ≤ len := by have := HRR.out; have := HEN.out; omega
    have he2 : 20 ≤ en := by rw [HEN.out]; omega
    have hen20 : en - 20 = n := by rw [HEN.out]; omega
    obtain ⟨P, hP⟩ : ∃ P : Option Addr, (if cap = 20 then some (⟨b, off, none⟩ : Addr) else some ⟨b, off + 20, none⟩) = P := ⟨_, rfl⟩
    obtain ⟨D, HD⟩ : ∃ D, Hid (D = cut l 20 en) := ⟨_, rfl⟩
    have HPP : Hid (∃ p, P = some ⟨b, p, none⟩) := by
      rw [← hP]
      by_cases hc : cap = 20
      · rw [if_pos hc]; exact ⟨_, rfl⟩
      · rw [if_neg hc]; exact ⟨_, rfl⟩
    have HV2 : Hid (Bys W1 P n D) := by
      have h := bys_cut (HZ0.out _ HBe'.out) 20 en he2 he1 P (fun hlt b' off' e => by cases e; rw [← hP, if_neg (by omega)])
      rw [hen20, ← HD.out] at h
      exact h
    have HV3 : Hid (Bys W1 (some ⟨b, off + 4, none⟩) 12 (cut l 4 16)) := bys_cut (HZ0.out _ HBe'.out) 4 16 (by omega) (by omega) _ (fun _ b' off' e => by cases e; rfl)
    obtain ⟨N, HNN⟩ : ∃ N, Hid (N = (sum (cut l 4 16 ++ D)).toNat) := ⟨_, rfl⟩
    have hN : N < 4294967296 := by rw [HNN.out]; exact sum_lt _
    have hwN : IntKind.u64.wrap (N : Int) = (N : Int) := by rw [IntKind.wrap_u64]; omega
    have hm1 : m < 4294967296 := by
      rw [HMM.out]
      have := val_lt (cut l 16 20)
      rw [cut_len _ _ _ (by have := HL.out; omega)] at this
      exact this
    have HNX2 : Hid (nxtE l = if N ≠ m then 13 else 0) := by
      show _ = _
      rw [HNX.out, if_neg hA, if_neg (by omega), if_neg (by rw [← HRR.out]; exact hE), HNN.out, HD.out, HEN.out]
    clear HNX
    go_upto_region 13 with fail
    go_cut [58] from 49 to 57 (fun v wx => v = .bool ((N : Int) != (m : Int)) ∧ Below W1.heap.size W1 wx)
    case first =>
      go_region_with (first | (go_at_call 23; refine (rsum_two_drew _ N rfl HV3.out (by decide) HV2.out (by unfold maxLen; omega) HNN.out).mono ?_; rintro e w4 ⟨rfl, hB4⟩) | (go_at_call 29; refine (rvalue_any _ 4 _ (cut l 16 20) _ (bys_cut (HZ0.out _ (HBe'.out.trans (hB4.mono HBe'.out.size))) 16 20 (by omega) (by omega) _ (fun _ b' off' e => by cases e; rfl)) (by decide)).mono ?_; rintro e w' ⟨rfl, rfl⟩; rw [← HMM.out]))
      all_goals (go_wp2_with fail; go_meet; exact ⟨rfl, hB4⟩)
    case rest =>
    obtain ⟨rfl, hB4⟩ := hcut
    have HB4 : Hid (Below w.heap.size w wc) := HBe'.out.trans (hB4.mono HBe'.out.size)
    have HR4 : Hid (Row wc g 24 [.int .i64 0, .slice none 0 0]) := HR1'.out.below hB4 HR1'.out.lt
    have HV4 : Hid (Bys wc P n D) := HV2.out.later hB4 (Nat.le_refl _)
    clear hB4 HV2 HV3 HR1' HBe' hc0 hc1 hf0 hf1 HFIN
    by_cases hS : N = m
    · have hS' : ((N : Int) != (m : Int)) = false := by simp; omega
      have HF : Hid (nxtE l = 0) := by show _ = _; rw [HNX2.out, if_neg (by omega)]
      clear HNX2 hS hP
      obtain ⟨p, rfl⟩ := HPP.out
      obtain ⟨i0, hi, hz0, hz1, hz2⟩ := info_parts infoByte
      have HDL : Hid (D.length = n) := HV4.out.1.symm
      have HCL : Hid (∀ j u, (byC D)[j]? = some u → wc.cell? ((⟨b, p, none⟩ : Addr).add j) = some u) := bys_cells' HV4.out rfl
      have hsz : g + 1 ≤ wc.heap.size := HR4.out.lt
      go_wp2_with (at_builtin; refine wpList_append_own _ rfl _ _ 22 rfl (g + 1) 5 i0 (.int .u8 0) 1 1 Try.underlying22 hi hz0 hz1 hz2 rfl (by decide) _ _ _ rfl (World.ownsRow_nil _ _ _ _) ⟨b, p, none⟩ n (cap - 20) (byC D) rfl (by rw [byC_len, Nat.mul_one]; exact HDL.out) HCL.out (byC_one _) ?_ ?_ hsz ?_)
      · unfold maxLen; omega
      · omega
      intro v' w5 hown hgrow _
      have HB5 : Hid (Below w.heap.size w w5) := HB4.out.grown hgrow (by have := HB4.out.size; omega) (fun k hk => by cases hk)
      have hbg : Below (g + 1) wc w5 := (Below.refl _ wc).grown hgrow hsz (fun k hk => by cases hk)
      have HR5 : Hid (Row w5 g 24 [.int .i64 0, .slice none 0 0]) := HR4.out.below hbg (Nat.lt_succ_self g)
      have hown' : w5.ownsRow (g + 1) 5 1 v' n (byC D) := by simpa using hown
      obtain ⟨xa, xc, rfl⟩ := own_slice hown'
      have HO5 : Hid (w5.ownsRow (g + 1) 5 1 (.slice xa n xc) n (byC D)) := hown'
      have hc0 : w5.cell? ⟨g, 0, none⟩ = some (.int .i64 0) := by rw [HR5.out.cell]; rfl
      have hc1 : w5.cell? ⟨g, 1, none⟩ = some (.slice none 0 0) := by rw [HR5.out.cell]; rfl
      have hf0 := HR5.out.free 0
      have hf1 := HR5.out.free 1
      clear hown hgrow hbg hown'
      go_wp2
      have hR2 := (HR5.out.set 0 (.int .i64 q)).set 1 (.slice xa n xc)
      have hB2 := (HB5.out.setCell (p := ⟨g, 0, none⟩) (by rw [HGG.out]; exact Nat.le_refl _) (.int .i64 q)).setCell (p := ⟨g, 1, none⟩) (by rw [HGG.out]; exact Nat.le_refl _) (.slice xa n xc)
      have hO2 := own_set (own_set HO5.out ⟨g, 0, none⟩ (Nat.lt_succ_self g) (.int .i64 q)) ⟨g, 1, none⟩ (Nat.lt_succ_self g) (.slice xa n xc)
      have eS : nxtS l = q := by rw [nxtS, if_pos HF.out]; exact HQ.out.symm
      have eN : nxtN l = en := by rw [nxtN, if_pos HF.out, ← HN.out]; exact HEN.out.symm
      have eD : nxtD l = D := by rw [nxtD, if_pos HF.out, ← HN.out, ← HEN.out]; exact HD.out.symm
      refine rnext_end hR2 rfl rfl rfl rfl rfl ⟨hB2, .inr ⟨HF.out, .slice xa n xc, ?_, ?_⟩⟩
      · rw [eS, eN]; rfl
      · rw [eD, HDL.out, ← HGG.out]; exact hO2
    · have hS' : ((N : Int) != (m : Int)) = true := by simp; omega
      have HF : Hid (nxtE l = 13) := by show _ = _; rw [HNX2.out, if_pos hS]
      have hc0 : wc.cell? ⟨g, 0, none⟩ = some (.int .i64 0) := by rw [HR4.out.cell]; rfl
      have hc1 : wc.cell? ⟨g, 1, none⟩ = some (.slice none 0 0) := by rw [HR4.out.cell]; rfl
      have hf0 := HR4.out.free 0
      have hf1 := HR4.out.free 1
      clear HNX2 hS hP
      go_wp2
      have hR2 := (HR4.out.set 0 (.int .i64 0)).set 1 (.slice none 0 0)
      have hB2 := (HB4.out.setCell (p := ⟨g, 0, none⟩) (by rw [HGG.out]; exact Nat.le_refl _) (.int .i64 0)).setCell (p := ⟨g, 1, none⟩) (by rw [HGG.out]; exact Nat.le_refl _) (.slice none 0 0)
      exact rnext_end hR2 rfl rfl rfl rfl rfl ⟨hB2, .inl ⟨by rw [HF.out]; decide, by rw [HF.out]; rfl⟩⟩

end Go.Proofs.Ythmoapigjafijaa.Frm
