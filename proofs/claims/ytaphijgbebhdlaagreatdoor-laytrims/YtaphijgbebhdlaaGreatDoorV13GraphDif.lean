/- Several texts as one: GraphDif, GraphRight. -/
import Derived.Test.YtaphijgbebhdlaaGreatDoorV12GraphNe
section
/- Package graph's keysDiffer, by its contract. -/
namespace Go.Proofs.YtaphijgbebhdlaaGreatDoor.Grp
open Utf Rws Pln Flw
open Go.RowKit Go.Shelf Go.Maps
set_option linter.unusedSimpArgs false
set_option linter.unusedVariables false
set_option maxRecDepth 100000
set_option maxHeartbeats 4000000
attribute [local go_sem] Oper.semAt_some

def bts (m : Nat) : List Bool := (List.range 16).map (fun i => m.testBit i)
def difSt : List (List Bool) := ([0, 1, 2, 8, 128, 512, 3, 9, 129, 513, 6, 10, 130, 514, 136, 520, 384, 640, 7, 11, 131, 515, 137, 521, 385, 641, 14, 134, 518, 138, 522, 386, 642, 392, 648, 896, 15, 135, 519, 139, 523, 387, 643, 393, 649, 897, 30, 142, 526, 390, 646, 394, 650, 898, 904, 1920, 31, 143, 527, 391, 647, 395, 651, 899, 905, 1921, 62, 158, 542, 398, 654, 902, 906, 1922, 1928, 3968, 63, 159, 543, 399, 655, 903, 907, 1923, 1929, 3969, 126, 190, 574, 414, 670, 910, 1926, 1930, 3970, 3976, 8064, 127, 191, 575, 415, 671, 911, 1927, 1931, 3971, 3977, 8065, 254, 638, 446, 702, 926, 1934, 3974, 3978, 8066, 8072, 255, 639, 447, 703, 927, 1935, 3975, 3979, 8067, 8073, 510, 766, 958, 1950, 3982, 8070, 8074, 511, 767, 959, 1951, 3983, 8071, 8075, 1022, 1982, 3998, 8078, 1023, 1983, 3999, 8079, 2046, 4030, 8094, 2047, 4031, 8095, 4094, 8126, 4095, 8127, 8190, 8191, 16382, 16383] : List Nat).map bts
def difDp : List (List Nat) := [[], [], [1], [], [2, 3], [4], [5], [], [7], [], [8, 9], [10], [11], [6, 12]]
/-- what a place's node is told apart by -/
def kp (ns : List Nd) (a : Int) : Int × Ln := ((ns.getD a.toNat nd0).kind, (ns.getD a.toNat nd0).text)
/-- are there no two alike? -/
def dif (ps : List (Int × Ln)) : Bool := decide ps.Nodup
theorem dif_pre {ps qs : List (Int × Ln)} (h : ps <+: qs) (hd : ¬ ps.Nodup) : dif qs = false := by
  unfold dif
  rw [decide_eq_false_iff_not]
  intro hq
  exact hd (h.sublist.nodup hq)
/-- all old blocks but one are as they were -/
theorem grown_own {β : Type} {M : Nat} {W1 : World} : OwnFrom W1.heap.size (fun (_ : β) W => W1.grownBy W (some M)) := fun s W W' row h hg hr =>
  ⟨hg.os.trans h.os, hg.tape.trans h.tape, hg.output.trans h.output, Nat.le_trans h.size hg.size, fun k hk hn => (hg.block k (Nat.lt_of_lt_of_le hk h.size) (fun e => by have := (hr k e.symm).1; omega)).trans (h.block k hk hn)⟩
theorem set_own {β : Type} {M B : Nat} (hM : M < B) (f : β → List (Int × Ln)) : OwnFrom B (fun s W => SetAt W M (f s)) := fun s W W' row h hg hr => h.kept hg (fun e => by have := (hr M e.symm).1; omega)
theorem grown_below {w W1 W : World} {M : Nat} (hb : Below w.heap.size w W1) (h : W1.grownBy W (some M)) (hM : w.heap.size ≤ M) : Below w.heap.size w W :=
  hb.grown h hb.size (fun k e => by cases e; exact hM)
theorem differ_any {w : World} {ad kad : Option Addr} {len cap klen kcap : Nat} {r k : Int} {x : Ln} {ns : List Nd} {l : List Int} (hlen : len ≤ 9223372036854775807) (hkl : klen ≤ 1000000000) (hN : NAt w ad len ns) (hI : IAt w kad klen l) (hks : ∀ a ∈ l, isP len a = true) :
    Calls Tryz.prog 51 #[gv ad len cap r, nv k x kad klen kcap] w fun e w' => e = .returned (.bool (dif ((kys k 0 l).map (kp ns)))) ∧ Below w.heap.size w w' := by
  have HN : Hid (NAt w ad len ns) := hN
  have HI : Hid (IAt w kad klen l) := hI
  have HKS : Hid (∀ a ∈ l, isP len a = true) := hks
  clear hN hI hks
  have hmm := @run_makeMap Tryz.prog
  obtain ⟨q, HQ⟩ : ∃ q, Hid (q = dif ((kys k 0 l).map (kp ns))) := ⟨_, rfl⟩
  rw [← HQ.out]
  refine (callsIn_wide (n := 4)).1 ?_
  refine callsIn_of_wp_marks Tryz.func51 rfl trivial ?_ rfl
  simp only [Tryz.ntmps51, List.size_toArray, List.length_cons, List.length_nil, Nat.reduceAdd, Nat.reduceSub, Array.replicate_succ, Array.replicate_zero, List.push_toArray, List.append_toArray, List.nil_append, List.cons_append]
  gi_wp2_with (first | (refine ⟨trivial, ?_⟩; gi_at_call 71; refine (keysOf_in _ _ _ _ _ _ _).mono ?_; rintro e w' ⟨rfl, rfl⟩))
  have b1 := below_alloc w (.cells #[.slice ad len cap, .int .i64 r] 24)
  have n1 := Bx.new w #[.slice ad len cap, .int .i64 r] 24
  have s1 : (w.alloc (.cells #[.slice ad len cap, .int .i64 r] 24)).heap.size = w.heap.size + 1 := World.size_alloc _ _
  generalize w.alloc (.cells #[.slice ad len cap, .int .i64 r] 24) = w1 at *
  have b2 := below_alloc w1 (.cells #[.int .i64 k, .string (mk x), .slice kad klen kcap] 47)
  have s2 : (w1.alloc (.cells #[.int .i64 k, .string (mk x), .slice kad klen kcap] 47)).heap.size = w.heap.size + 1 + 1 := by rw [World.size_alloc, s1]
  have n1 := n1.later b2
  generalize w1.alloc (.cells #[.int .i64 k, .string (mk x), .slice kad klen kcap] 47) = w2 at *
  have b3 := below_alloc w2 (.cells #[.bool false] 4)
  have n3 := Bx.new w2 #[.bool false] 4
  have s3 : (w2.alloc (.cells #[.bool false] 4)).heap.size = w.heap.size + 1 + 1 + 1 := by rw [World.size_alloc, s2]
  rw [s2] at n3
  have n1 := n1.later b3
  generalize w2.alloc (.cells #[.bool false] 4) = w3 at *
  have bl3 : Below w.heap.size w w3 := (b1.trans (b2.mono b1.size)).trans (b3.mono (by omega))
  clear b1 b2 b3
  have b4 := below_alloc w3 (.map #[] 0)
  have n4 := SetAt.new w3
  have s4 : (w3.alloc (.map #[] 0)).heap.size = w.heap.size + 1 + 1 + 1 + 1 := by rw [World.size_alloc, s3]
  rw [s3] at n4
  have n1 := n1.later b4
  have n3 := n3.later b4
  generalize w3.alloc (.map #[] 0) = w4 at *
  have b5 := below_alloc w4 (.cells #[.map (some (w.heap.size + 1 + 1 + 1))] 128)
  have n5 := Bx.new w4 #[.map (some (w.heap.size + 1 + 1 + 1))] 128
  have s5 : (w4.alloc (.cells #[.map (some (w.heap.size + 1 + 1 + 1))] 128)).heap.size = w.heap.size + 1 + 1 + 1 + 1 + 1 := by rw [World.size_alloc, s4]
  rw [s4] at n5
  have n1 := n1.later b5
  have n3 := n3.later b5
  have n4 := n4.later b5
  generalize w4.alloc (.cells #[.map (some (w.heap.size + 1 + 1 + 1))] 128) = w5 at *
  have b6 := below_alloc w5 (.cells #[.int .i64 k, .string (mk x), .slice kad klen kcap] 47)
  have n6 := Bx.new w5 #[.int .i64 k, .string (mk x), .slice kad klen kcap] 47
  have s6 : (w5.alloc (.cells #[.int .i64 k, .string (mk x), .slice kad klen kcap] 47)).heap.size = w.heap.size + 1 + 1 + 1 + 1 + 1 + 1 := by rw [World.size_alloc, s5]
  rw [s5] at n6
  have n1 := n1.later b6
  have n3 := n3.later b6
  have n4 := n4.later b6
  have n5 := n5.later b6
  generalize w5.alloc (.cells #[.int .i64 k, .string (mk x), .slice kad klen kcap] 47) = W1 at *
  have bl : Below w.heap.size w W1 := ((bl3.trans (b4.mono (by omega))).trans (b5.mono (by omega))).trans (b6.mono (by omega))
  clear bl3 b4 b5 b6 s1 s2 s3 s4 s5 hmm
  have hKs : KsAt W1 (w.heap.size + 1 + 1 + 1 + 1 + 1) k x kad klen kcap l := ⟨n6, HI.out.later bl (Nat.le_refl _)⟩
  obtain ⟨M, hM⟩ : ∃ M, M = w.heap.size + 1 + 1 + 1 := ⟨_, rfl⟩
  obtain ⟨Bs, hBs⟩ : ∃ Bs, Bs = w.heap.size + 1 + 1 + 1 + 1 + 1 := ⟨_, rfl⟩
  obtain ⟨K5, hK5⟩ : ∃ K5, K5 = w.heap.size + 1 + 1 + 1 + 1 := ⟨_, rfl⟩
  obtain ⟨K2, hK2⟩ : ∃ K2, K2 = w.heap.size + 1 + 1 := ⟨_, rfl⟩
  obtain ⟨K1, hK1⟩ : ∃ K1, K1 = w.heap.size + 1 := ⟨_, rfl⟩
  obtain ⟨K0, hK0⟩ : ∃ K0, K0 = w.heap.size := ⟨_, rfl⟩
  rw [← hBs] at hKs ⊢
  rw [← hK5] at n5 ⊢
  rw [← hM] at n4 n5 ⊢
  rw [← hK2] at n3 ⊢
  rw [← hK1] at ⊢
  rw [← hK0] at n1 ⊢
  clear n6
  have f1 : w.heap.size ≤ M ∧ M < W1.heap.size ∧ K0 ≠ M ∧ K2 ≠ M ∧ K5 ≠ M ∧ Bs ≠ M := by omega
  have f2 : K0 < W1.heap.size ∧ K2 < W1.heap.size ∧ K5 < W1.heap.size ∧ Bs < W1.heap.size ∧ w.heap.size ≤ K2 ∧ w.heap.size ≤ W1.heap.size := by omega
  clear hM hBs hK5 hK2 hK1 hK0 s6
  refine wpIn_rangeFunc_ownG rfl (by decide) (gf := 90) (lb := #[.pointer (some ⟨Bs, 0, none⟩)]) rfl trivial (enters_of Tryz.func90 (by kernel_rfl) rfl)
    (keys_stops (4 - 1) (by decide) Bs k x kad klen kcap l (by omega) W1 hKs) (fun h k => kpk_trans h k)
    (fun X m o o' hm _ _ _ => ⟨by simp [World.putObj], World.putObj_heap_other (fun e => by omega), fun b' off' p e => World.putObj_heap_other (fun e' => by obtain ⟨b2, off2, e2, h2, _⟩ := hKs.ks.2 p; rw [e] at e2; cases e2; omega)⟩) (Below.refl _ _) (fun _ => rfl)
    (fun (pre : List (Kx l)) W => ((pre.map (fun y : Kx l => kp ns y.1)).Nodup ∧ SetAt W M (pre.map (fun y : Kx l => kp ns y.1))) ∧ W1.grownBy W (some M))
    (fun c (pre : List (Kx l)) W => (c = .ret ∧ ¬ (pre.map (fun y : Kx l => kp ns y.1)).Nodup) ∧ W.cell? ⟨K2, 0, none⟩ = some (.bool false) ∧ Below w.heap.size w W)
    (OwnFrom.and (OwnFrom.and (fun s W W' row h _ _ => h) (set_own (by omega) _)) grown_own)
    (fun c => OwnFrom.and (fun s W W' row h _ _ => h) (OwnFrom.and (Own.from (fun t A B row ht hg hr => cell_kept ht hg hr) _) (ownFrom_below (Nat.le_refl _) (by omega))))
    ⟨⟨List.nodup_nil, n4⟩, World.grownBy.refl _ _⟩
    (fun y : Kx l => { tmps := #[gv ad len cap r, nv k x kad klen kcap, .pointer (some ⟨K0, 0, none⟩), .pointer (some ⟨K1, 0, none⟩), .pointer (some ⟨K2, 0, none⟩), .pointer (some ⟨K5, 0, none⟩), .int .i64 y.1, .map (some M), .agg #[.int .i64 k, .string (mk x), .slice kad klen kcap], .func (.func 90) #[] #[.pointer (some ⟨Bs, 0, none⟩)], .int .i64 y.1, undef, undef, undef, undef, undef, undef, undef, undef, undef, undef, undef, undef, undef, undef, undef, undef], defers := [] }) ?assign ?body ?done ?stop
  case assign =>
    intro m y W K hK
    gi_wp2
    exact hK
  case body =>
    rintro m pre y W ⟨⟨hnd, hset⟩, hG⟩ hpl
    obtain ⟨p, hpy, hplt⟩ := isP_nat (HKS.out y.1 y.2)
    have hBW := grown_below bl hG (by omega)
    have hne : ∀ j, j ≠ M → j < W1.heap.size → W.heap[j]? = W1.heap[j]? := fun j h1 h2 => hG.block j h2 (fun e => h1 (by cases e; rfl))
    have m0 : Bx W K0 #[.slice ad len cap, .int .i64 r] 24 := (hne K0 (by omega) (by omega)).trans n1
    have m2 : Bx W K2 #[.bool false] 4 := (hne K2 (by omega) (by omega)).trans n3
    have m5 : Bx W K5 #[.map (some M)] 128 := (hne K5 (by omega) (by omega)).trans n5
    obtain ⟨c0, c1⟩ := m0.c2
    have c2 : W.cell? ⟨K2, 0, none⟩ = some (.bool false) := m2.cell 0
    have z2 := m2.fz 0
    have c5 : W.cell? ⟨K5, 0, none⟩ = some (.map (some M)) := m5.cell 0
    obtain ⟨b, off, rfl, hb, hc⟩ := HN.out.2 (by omega)
    obtain ⟨pad, plen, pcap, _, _, hp1, hp2, _, y0, y1, y2⟩ := hc p hplt
    have x0 := (hBW.cell (p := ⟨b, off + p * 3, none⟩) hb).trans y0
    have x1 := (hBW.cell (p := ⟨b, off + p * 3 + 1, none⟩) hb).trans y1
    have x2 := (hBW.cell (p := ⟨b, off + p * 3 + 2, none⟩) hb).trans y2
    have hkp : kp ns y.1 = ((ns.getD p nd0).kind, (ns.getD p nd0).text) := by unfold kp; rw [hpy, Int.toNat_natCast]
    have hll : (pre.map (fun y : Kx l => kp ns y.1)).length < 9223372036854775807 := by have := hKs.ks.1; rw [List.length_map]; omega
    have HE : Hid ((pre ++ [y]).map (fun y : Kx l => kp ns y.1) = pre.map (fun y : Kx l => kp ns y.1) ++ [((ns.getD p nd0).kind, (ns.getD p nd0).text)]) := by
      show _ = _
      rw [List.map_append, ← hkp]; rfl
    generalize (ns.getD p nd0).kind = pk at *
    generalize (ns.getD p nd0).text = px at *
    obtain ⟨PS, HPS⟩ : ∃ PS, Hid (PS = pre.map (fun y : Kx l => kp ns y.1)) := ⟨_, rfl⟩
    rw [← HPS.out] at hset hnd hll HE
    obtain ⟨qb, Hqb⟩ : ∃ qb, Hid (qb = decide ((pk, px) ∈ PS)) := ⟨_, rfl⟩
    have HA : Hid (∀ d, CallsIn (Fence.wide.inRound m) d Tryz.prog 72 #[.map (some M), .agg #[.int .i64 pk, .string (mk px)]] W.drew fun e w' => e = .returned (.bool (!qb)) ∧ Hid (SetAt w' M (PS ++ [(pk, px)]) ∧ W.grownBy w' (some M)) ∧ w'.cell? ⟨K2, 0, none⟩ = some (.bool false) ∧ w'.frozen? ⟨K2, 0, none⟩ = false) := fun d => by
      refine CallsIn.inRound m (callsIn_wide.2 ((add_any (w := W.drew) (p := (pk, px)) hset ⟨hp1, hp2⟩ hll).mono ?_))
      rintro e w' ⟨rfl, h1, h2⟩
      have h3 : Bx w' K2 #[.bool false] 4 := (h2.block K2 m2.lt (fun e => by cases e; omega)).trans m2
      exact ⟨by rw [← Hqb.out], ⟨h1, ⟨h2.os, h2.tape, h2.output, h2.size, h2.block⟩⟩, h3.cell 0, h3.fz 0⟩
    have hmix : Tryz.prog.follows .mixedOrders = true := by kernel_rfl
    have HND : Hid PS.Nodup := hnd
    have HGG : Hid (W1.grownBy W (some M)) := hG
    have HM2 : Hid (Bx W K2 #[.bool false] 4) := m2
    rw [hpy]
    clear hkp hpy hc y0 y1 y2 hset hne m0 m5 hnd hG m2 n1 n3 n4 n5 hBW hll
    gi_wp2_with fail
    refine wpIn_region_any hmix ?_
    change wpAnyIn _ _ _ _ _ _ _ _ _ (World.drew _)
    refine any_walk (N := 16) (St := difSt) (fin := bts 16383) (dp := difDp) (by kernel_rfl) W.drew (fun s : List Bool => { tmps := #[gv (some ⟨b, off, none⟩) len cap r, nv k x kad klen kcap, .pointer (some ⟨K0, 0, none⟩), .pointer (some ⟨K1, 0, none⟩), .pointer (some ⟨K2, 0, none⟩), .pointer (some ⟨K5, 0, none⟩), .int .i64 (p : Int), .map (some M), .agg #[.int .i64 k, .string (mk x), .slice kad klen kcap], .func (.func 90) #[] #[.pointer (some ⟨Bs, 0, none⟩)], .int .i64 (p : Int), slt (s.getD 0 false) (.map (some M)), slt (s.getD 1 false) (.pointer (some ⟨K0, 0, none⟩)), slt (s.getD 2 false) (.slice (some ⟨b, off, none⟩) len cap), slt (s.getD 3 false) (.int .i64 (p : Int)), slt (s.getD 4 false) (.pointer (some ⟨b, off + p * 3, none⟩)), slt (s.getD 5 false) (.pointer (some ⟨b, off + p * 3, none⟩)), slt (s.getD 6 false) (.int .i64 pk), slt (s.getD 7 false) (.pointer (some ⟨K0, 0, none⟩)), slt (s.getD 8 false) (.slice (some ⟨b, off, none⟩) len cap), slt (s.getD 9 false) (.int .i64 (p : Int)), slt (s.getD 10 false) (.pointer (some ⟨b, off + p * 3, none⟩)), slt (s.getD 11 false) (.pointer (some ⟨b, off + p * 3 + 1, none⟩)), slt (s.getD 12 false) (.string (mk px)), slt (s.getD 13 false) (.agg #[.int .i64 pk, .string (mk px)]), undef, undef], defers := [] }) ?hS ?hF 16 (bts 0) (by decide) rfl
    case hS =>
      intro s hl i hi hd K hK
      match s, hl with
      | [b0, b1, b2, b3, b4, b5, b6, b7, b8, b9, b10, b11, b12, b13, b14, b15], _ =>
        simp only [List.getD_cons_zero, List.getD_cons_succ] at hK ⊢
        have hi' : i = 0 ∨ i = 1 ∨ i = 2 ∨ i = 3 ∨ i = 4 ∨ i = 5 ∨ i = 6 ∨ i = 7 ∨ i = 8 ∨ i = 9 ∨ i = 10 ∨ i = 11 ∨ i = 12 ∨ i = 13 := by
          have : i < 14 := hi
          omega
        rcases hi' with rfl | rfl | rfl | rfl | rfl | rfl | rfl | rfl | rfl | rfl | rfl | rfl | rfl | rfl
        · simp only [List.set_cons_zero, List.set_cons_succ, List.getD_cons_zero, List.getD_cons_succ, slt_t] at hK ⊢
          generalize slt b1 _ = s1 at hK ⊢
          generalize slt b2 _ = s2 at hK ⊢
          generalize slt b3 _ = s3 at hK ⊢
          generalize slt b4 _ = s4 at hK ⊢
          generalize slt b5 _ = s5 at hK ⊢
          generalize slt b6 _ = s6 at hK ⊢
          generalize slt b7 _ = s7 at hK ⊢
          generalize slt b8 _ = s8 at hK ⊢
          generalize slt b9 _ = s9 at hK ⊢
          generalize slt b10 _ = s10 at hK ⊢
          generalize slt b11 _ = s11 at hK ⊢
          generalize slt b12 _ = s12 at hK ⊢
          generalize slt b13 _ = s13 at hK ⊢
          generalize slt b0 _ = s0 at ⊢
          clear hd
          refine wpOpIn_at rfl ?_
          go_simp
          exact hK
        · simp only [List.set_cons_zero, List.set_cons_succ, List.getD_cons_zero, List.getD_cons_succ, slt_t] at hK ⊢
          generalize slt b0 _ = s0 at hK ⊢
          generalize slt b2 _ = s2 at hK ⊢
          generalize slt b3 _ = s3 at hK ⊢
          generalize slt b4 _ = s4 at hK ⊢
          generalize slt b5 _ = s5 at hK ⊢
          generalize slt b6 _ = s6 at hK ⊢
          generalize slt b7 _ = s7 at hK ⊢
          generalize slt b8 _ = s8 at hK ⊢
          generalize slt b9 _ = s9 at hK ⊢
          generalize slt b10 _ = s10 at hK ⊢
          generalize slt b11 _ = s11 at hK ⊢
          generalize slt b12 _ = s12 at hK ⊢
          generalize slt b13 _ = s13 at hK ⊢
          generalize slt b1 _ = s1 at ⊢
          clear hd
          refine wpOpIn_at rfl ?_
          go_simp
          exact hK
        · have h1 : b1 = true := hd 1 (by simp [difDp])
          subst h1
          simp only [List.set_cons_zero, List.set_cons_succ, List.getD_cons_zero, List.getD_cons_succ, slt_t] at hK ⊢
          generalize slt b0 _ = s0 at hK ⊢
          generalize slt b3 _ = s3 at hK ⊢
          generalize slt b4 _ = s4 at hK ⊢
          generalize slt b5 _ = s5 at hK ⊢
          generalize slt b6 _ = s6 at hK ⊢
          generalize slt b7 _ = s7 at hK ⊢
          generalize slt b8 _ = s8 at hK ⊢
          generalize slt b9 _ = s9 at hK ⊢
          generalize slt b10 _ = s10 at hK ⊢
          generalize slt b11 _ = s11 at hK ⊢
          generalize slt b12 _ = s12 at hK ⊢
          generalize slt b13 _ = s13 at hK ⊢
          generalize slt b2 _ = s2 at ⊢
          clear hd
          refine wpOpIn_at rfl ?_
          go_simp
          exact hK
        · simp only [List.set_cons_zero, List.set_cons_succ, List.getD_cons_zero, List.getD_cons_succ, slt_t] at hK ⊢
          generalize slt b0 _ = s0 at hK ⊢
          generalize slt b1 _ = s1 at hK ⊢
          generalize slt b2 _ = s2 at hK ⊢
          generalize slt b4 _ = s4 at hK ⊢
          generalize slt b5 _ = s5 at hK ⊢
          generalize slt b6 _ = s6 at hK ⊢
          generalize slt b7 _ = s7 at hK ⊢
          generalize slt b8 _ = s8 at hK ⊢
          generalize slt b9 _ = s9 at hK ⊢
          generalize slt b10 _ = s10 at hK ⊢
          generalize slt b11 _ = s11 at hK ⊢
          generalize slt b12 _ = s12 at hK ⊢
          generalize slt b13 _ = s13 at hK ⊢
          generalize slt b3 _ = s3 at ⊢
          clear hd
          refine wpOpIn_at rfl ?_
          go_simp
          exact hK
        · have h2 : b2 = true := hd 2 (by simp [difDp])
          have h3 : b3 = true := hd 3 (by simp [difDp])
          subst h2 h3
          simp only [List.set_cons_zero, List.set_cons_succ, List.getD_cons_zero, List.getD_cons_succ, slt_t] at hK ⊢
          generalize slt b0 _ = s0 at hK ⊢
          generalize slt b1 _ = s1 at hK ⊢
          generalize slt b5 _ = s5 at hK ⊢
          generalize slt b6 _ = s6 at hK ⊢
          generalize slt b7 _ = s7 at hK ⊢
          generalize slt b8 _ = s8 at hK ⊢
          generalize slt b9 _ = s9 at hK ⊢
          generalize slt b10 _ = s10 at hK ⊢
          generalize slt b11 _ = s11 at hK ⊢
          generalize slt b12 _ = s12 at hK ⊢
          generalize slt b13 _ = s13 at hK ⊢
          generalize slt b4 _ = s4 at ⊢
          clear hd
          refine wpOpIn_at rfl ?_
          go_simp
          exact hK
        · have h4 : b4 = true := hd 4 (by simp [difDp])
          subst h4
          simp only [List.set_cons_zero, List.set_cons_succ, List.getD_cons_zero, List.getD_cons_succ, slt_t] at hK ⊢
          generalize slt b0 _ = s0 at hK ⊢
          generalize slt b1 _ = s1 at hK ⊢
          generalize slt b2 _ = s2 at hK ⊢
          generalize slt b3 _ = s3 at hK ⊢
          generalize slt b6 _ = s6 at hK ⊢
          generalize slt b7 _ = s7 at hK ⊢
          generalize slt b8 _ = s8 at hK ⊢
          generalize slt b9 _ = s9 at hK ⊢
          generalize slt b10 _ = s10 at hK ⊢
          generalize slt b11 _ = s11 at hK ⊢
          generalize slt b12 _ = s12 at hK ⊢
          generalize slt b13 _ = s13 at hK ⊢
          generalize slt b5 _ = s5 at ⊢
          clear hd
          refine wpOpIn_at rfl ?_
          go_simp
          exact hK
        · have h5 : b5 = true := hd 5 (by simp [difDp])
          subst h5
          simp only [List.set_cons_zero, List.set_cons_succ, List.getD_cons_zero, List.getD_cons_succ, slt_t] at hK ⊢
          generalize slt b0 _ = s0 at hK ⊢
          generalize slt b1 _ = s1 at hK ⊢
          generalize slt b2 _ = s2 at hK ⊢
          generalize slt b3 _ = s3 at hK ⊢
          generalize slt b4 _ = s4 at hK ⊢
          generalize slt b7 _ = s7 at hK ⊢
          generalize slt b8 _ = s8 at hK ⊢
          generalize slt b9 _ = s9 at hK ⊢
          generalize slt b10 _ = s10 at hK ⊢
          generalize slt b11 _ = s11 at hK ⊢
          generalize slt b12 _ = s12 at hK ⊢
          generalize slt b13 _ = s13 at hK ⊢
          generalize slt b6 _ = s6 at ⊢
          clear hd
          refine wpOpIn_at rfl ?_
          go_simp
          exact hK
        · simp only [List.set_cons_zero, List.set_cons_succ, List.getD_cons_zero, List.getD_cons_succ, slt_t] at hK ⊢
          generalize slt b0 _ = s0 at hK ⊢
          generalize slt b1 _ = s1 at hK ⊢
          generalize slt b2 _ = s2 at hK ⊢
          generalize slt b3 _ = s3 at hK ⊢
          generalize slt b4 _ = s4 at hK ⊢
          generalize slt b5 _ = s5 at hK ⊢
          generalize slt b6 _ = s6 at hK ⊢
          generalize slt b8 _ = s8 at hK ⊢
          generalize slt b9 _ = s9 at hK ⊢
          generalize slt b10 _ = s10 at hK ⊢
          generalize slt b11 _ = s11 at hK ⊢
          generalize slt b12 _ = s12 at hK ⊢
          generalize slt b13 _ = s13 at hK ⊢
          generalize slt b7 _ = s7 at ⊢
          clear hd
          refine wpOpIn_at rfl ?_
          go_simp
          exact hK
        · have h7 : b7 = true := hd 7 (by simp [difDp])
          subst h7
          simp only [List.set_cons_zero, List.set_cons_succ, List.getD_cons_zero, List.getD_cons_succ, slt_t] at hK ⊢
          generalize slt b0 _ = s0 at hK ⊢
          generalize slt b1 _ = s1 at hK ⊢
          generalize slt b2 _ = s2 at hK ⊢
          generalize slt b3 _ = s3 at hK ⊢
          generalize slt b4 _ = s4 at hK ⊢
          generalize slt b5 _ = s5 at hK ⊢
          generalize slt b6 _ = s6 at hK ⊢
          generalize slt b9 _ = s9 at hK ⊢
          generalize slt b10 _ = s10 at hK ⊢
          generalize slt b11 _ = s11 at hK ⊢
          generalize slt b12 _ = s12 at hK ⊢
          generalize slt b13 _ = s13 at hK ⊢
          generalize slt b8 _ = s8 at ⊢
          clear hd
          refine wpOpIn_at rfl ?_
          go_simp
          exact hK
        · simp only [List.set_cons_zero, List.set_cons_succ, List.getD_cons_zero, List.getD_cons_succ, slt_t] at hK ⊢
          generalize slt b0 _ = s0 at hK ⊢
          generalize slt b1 _ = s1 at hK ⊢
          generalize slt b2 _ = s2 at hK ⊢
          generalize slt b3 _ = s3 at hK ⊢
          generalize slt b4 _ = s4 at hK ⊢
          generalize slt b5 _ = s5 at hK ⊢
          generalize slt b6 _ = s6 at hK ⊢
          generalize slt b7 _ = s7 at hK ⊢
          generalize slt b8 _ = s8 at hK ⊢
          generalize slt b10 _ = s10 at hK ⊢
          generalize slt b11 _ = s11 at hK ⊢
          generalize slt b12 _ = s12 at hK ⊢
          generalize slt b13 _ = s13 at hK ⊢
          generalize slt b9 _ = s9 at ⊢
          clear hd
          refine wpOpIn_at rfl ?_
          go_simp
          exact hK
        · have h8 : b8 = true := hd 8 (by simp [difDp])
          have h9 : b9 = true := hd 9 (by simp [difDp])
          subst h8 h9
          simp only [List.set_cons_zero, List.set_cons_succ, List.getD_cons_zero, List.getD_cons_succ, slt_t] at hK ⊢
          generalize slt b0 _ = s0 at hK ⊢
          generalize slt b1 _ = s1 at hK ⊢
          generalize slt b2 _ = s2 at hK ⊢
          generalize slt b3 _ = s3 at hK ⊢
          generalize slt b4 _ = s4 at hK ⊢
          generalize slt b5 _ = s5 at hK ⊢
          generalize slt b6 _ = s6 at hK ⊢
          generalize slt b7 _ = s7 at hK ⊢
          generalize slt b11 _ = s11 at hK ⊢
          generalize slt b12 _ = s12 at hK ⊢
          generalize slt b13 _ = s13 at hK ⊢
          generalize slt b10 _ = s10 at ⊢
          clear hd
          refine wpOpIn_at rfl ?_
          go_simp
          exact hK
        · have h10 : b10 = true := hd 10 (by simp [difDp])
          subst h10
          simp only [List.set_cons_zero, List.set_cons_succ, List.getD_cons_zero, List.getD_cons_succ, slt_t] at hK ⊢
          generalize slt b0 _ = s0 at hK ⊢
          generalize slt b1 _ = s1 at hK ⊢
          generalize slt b2 _ = s2 at hK ⊢
          generalize slt b3 _ = s3 at hK ⊢
          generalize slt b4 _ = s4 at hK ⊢
          generalize slt b5 _ = s5 at hK ⊢
          generalize slt b6 _ = s6 at hK ⊢
          generalize slt b7 _ = s7 at hK ⊢
          generalize slt b8 _ = s8 at hK ⊢
          generalize slt b9 _ = s9 at hK ⊢
          generalize slt b12 _ = s12 at hK ⊢
          generalize slt b13 _ = s13 at hK ⊢
          generalize slt b11 _ = s11 at ⊢
          clear hd
          refine wpOpIn_at rfl ?_
          go_simp
          exact hK
        · have h11 : b11 = true := hd 11 (by simp [difDp])
          subst h11
          simp only [List.set_cons_zero, List.set_cons_succ, List.getD_cons_zero, List.getD_cons_succ, slt_t] at hK ⊢
          generalize slt b0 _ = s0 at hK ⊢
          generalize slt b1 _ = s1 at hK ⊢
          generalize slt b2 _ = s2 at hK ⊢
          generalize slt b3 _ = s3 at hK ⊢
          generalize slt b4 _ = s4 at hK ⊢
          generalize slt b5 _ = s5 at hK ⊢
          generalize slt b6 _ = s6 at hK ⊢
          generalize slt b7 _ = s7 at hK ⊢
          generalize slt b8 _ = s8 at hK ⊢
          generalize slt b9 _ = s9 at hK ⊢
          generalize slt b10 _ = s10 at hK ⊢
          generalize slt b13 _ = s13 at hK ⊢
          generalize slt b12 _ = s12 at ⊢
          clear hd
          refine wpOpIn_at rfl ?_
          go_simp
          exact hK
        · have h6 : b6 = true := hd 6 (by simp [difDp])
          have h12 : b12 = true := hd 12 (by simp [difDp])
          subst h6 h12
          simp only [List.set_cons_zero, List.set_cons_succ, List.getD_cons_zero, List.getD_cons_succ, slt_t] at hK ⊢
          generalize slt b0 _ = s0 at hK ⊢
          generalize slt b1 _ = s1 at hK ⊢
          generalize slt b2 _ = s2 at hK ⊢
          generalize slt b3 _ = s3 at hK ⊢
          generalize slt b4 _ = s4 at hK ⊢
          generalize slt b5 _ = s5 at hK ⊢
          generalize slt b7 _ = s7 at hK ⊢
          generalize slt b8 _ = s8 at hK ⊢
          generalize slt b9 _ = s9 at hK ⊢
          generalize slt b10 _ = s10 at hK ⊢
          generalize slt b11 _ = s11 at hK ⊢
          generalize slt b13 _ = s13 at ⊢
          clear hd
          refine wpOpIn_at rfl ?_
          go_simp
          exact hK
    case hF =>
      intro fuel hfu
      have e14 : (bts 16383).count true = 14 := by decide
      obtain rfl : fuel = 2 := by omega
      clear e14 hfu
      rw [show bts 16383 = [true, true, true, true, true, true, true, true, true, true, true, true, true, true, false, false] from rfl]
      simp only [List.getD_cons_zero, List.getD_cons_succ, slt_t]
      refine wpAnyIn_ready (rs := [14]) (by kernel_rfl) (by simp) (AllReadyIn.cons rfl (fun K hK => ?_) AllReadyIn.nil)
      go_simp
      refine ⟨trivial, ?_⟩
      gi_at_call 72
      refine (HA.out _).mono ?_
      rintro e w2 ⟨rfl, HX, d0, d1⟩
      refine hK _ _ ?_
      clear hK K
      refine wpAnyIn_ready (rs := [15]) (by kernel_rfl) (by simp) (AllReadyIn.cons rfl (fun K hK => ?_) AllReadyIn.nil)
      go_simp
      refine hK _ _ ?_
      clear hK K
      refine wpAnyIn_done (by kernel_rfl) ?_ _
      cases qb
      · gi_wp2
        have hg := HX.out.2
        have hnin : (pk, px) ∉ PS := fun h => by have := Hqb.out; rw [decide_eq_true h] at this; cases this
        refine ⟨KeepsFrom.of_grownBy hg (fun j e => by cases e; omega), ⟨hg.size, hg.block Bs (by have := HGG.out.size; omega) (fun e => by cases e; omega), fun b' off' pp e => ?_⟩, ⟨?_, ?_⟩, HGG.out.trans hg⟩
        · obtain ⟨b2, off2, e2, h2, _⟩ := HI.out.2 pp
          rw [e] at e2
          cases e2
          exact hg.block b' (by have := HGG.out.size; omega) (fun e => by cases e; omega)
        · rw [HE.out, List.nodup_append]
          exact ⟨HND.out, by simp, fun u hu v hv => by rw [List.mem_singleton.1 hv]; rintro rfl; exact hnin hu⟩
        · rw [HE.out]; exact HX.out.1
      · have hg := HX.out.2
        have hin : (pk, px) ∈ PS := of_decide_eq_true Hqb.out.symm
        have HBX : Hid (Below w.heap.size w (w2.setCell ⟨K2, 0, none⟩ (.bool false))) := (grown_below bl (HGG.out.trans hg) (by omega)).setCell (p := ⟨K2, 0, none⟩) (by show w.heap.size ≤ K2; omega) _
        have HKF : Hid (KeepsFrom W1.heap.size W (w2.setCell ⟨K2, 0, none⟩ (.bool false))) := (KeepsFrom.of_grownBy hg (fun j e => by cases e; omega)).trans ((KeepsOthers.setCell _ _ _).from _)
        clear hg
        gi_wp2
        refine ⟨HKF.out, ⟨rfl, ?_⟩, World.cell?_setCell_same _ _ _ d0, HBX.out⟩
        rw [HE.out, List.nodup_append]
        exact fun h => h.2.2 _ hin _ (by simp) rfl
  case done =>
    rintro D ys W hD hys ⟨⟨hnd, hset⟩, hG⟩ hK
    have hBW := grown_below bl hG (by omega)
    have m2 : Bx W K2 #[.bool false] 4 := (hG.block K2 (by omega) (fun e => by cases e; omega)).trans n3
    have c2 : W.cell? ⟨K2, 0, none⟩ = some (.bool false) := m2.cell 0
    have z2 := m2.fz 0
    have HE : Hid (q = true) := by
      show _ = _
      rw [HQ.out, ← hys, List.map_map]
      exact decide_eq_true hnd
    have HM : Hid (Mks w.heap.size W.heap.size (W.setCell ⟨K2, 0, none⟩ (.bool true)) [D]) := ((Mks.nil w.heap.size w.heap.size W).cons (D := D) (by omega) (by omega) hK).set c2
    have HB : Hid (Below w.heap.size w (W.setCell ⟨K2, 0, none⟩ (.bool true))) := hBW.setCell (p := ⟨K2, 0, none⟩) (by show w.heap.size ≤ K2; omega) _
    clear hys hnd hset hG hBW hK
    gi_wp2
    refine leaves_dfs (w0 := w) [D] _ HM.out (fun W' hb hcc => ?_)
    have g0 := hcc _ _ (World.cell?_setCell_same _ _ _ c2)
    exact ⟨.bool true, by simp [results, Tryz.results51, go_sem, g0], by rw [HE.out], HB.out.trans hb⟩
  case stop =>
    rintro D c pre W hD hpre ⟨⟨rfl, hnd⟩, hc, hB⟩ hK
    have HE : Hid (q = false) := by
      show _ = _
      rw [HQ.out]
      have hp : (pre.map (·.1)).map (kp ns) <+: (kys k 0 l).map (kp ns) := hpre.map _
      rw [List.map_map] at hp
      exact dif_pre hp hnd
    have HM : Hid (Mks w.heap.size W.heap.size W [D]) := (Mks.nil w.heap.size w.heap.size W).cons (D := D) (by omega) (by omega) hK
    gi_wp2
    refine leaves_dfs (w0 := w) [D] W HM.out (fun W' hb hcc => ?_)
    have g0 := hcc _ _ hc
    exact ⟨.bool false, by simp [results, Tryz.results51, go_sem, g0], by rw [HE.out], hB.trans hb⟩
end Go.Proofs.YtaphijgbebhdlaaGreatDoor.Grp
end

section
/- Package graph's Right, by its contract. -/
namespace Go.Proofs.YtaphijgbebhdlaaGreatDoor.Grp
open Utf Rws Pln Flw
open Go.RowKit
set_option linter.unusedSimpArgs false
set_option linter.unusedVariables false
set_option maxRecDepth 100000
set_option maxHeartbeats 4000000

def al1 (ns : List Nd) : List Nd → Bool
  | [] => true
  | n :: t => (rAl n.kind n.text && rKd ns n.kind n.kids) && al1 ns t
def al2 (ns : List Nd) : List Nd → Bool
  | [] => true
  | n :: t => dif ((kys n.kind 0 n.kids).map (kp ns)) && al2 ns t
theorem al1_at (ns ms : List Nd) (j : Nat) (h : j < ms.length) : al1 ns (ms.drop j) = ((rAl (ms.getD j nd0).kind (ms.getD j nd0).text && rKd ns (ms.getD j nd0).kind (ms.getD j nd0).kids) && al1 ns (ms.drop (j + 1))) := by
  rw [List.drop_eq_getElem_cons h, List.getD_eq_getElem?_getD, List.getElem?_eq_getElem h]
  rfl
theorem al2_at (ns ms : List Nd) (j : Nat) (h : j < ms.length) : al2 ns (ms.drop j) = (dif ((kys (ms.getD j nd0).kind 0 (ms.getD j nd0).kids).map (kp ns)) && al2 ns (ms.drop (j + 1))) := by
  rw [List.drop_eq_getElem_cons h, List.getD_eq_getElem?_getD, List.getElem?_eq_getElem h]
  rfl
theorem al1_all (ns : List Nd) : ∀ ms : List Nd, al1 ns ms = true → ∀ n ∈ ms, rAl n.kind n.text = true ∧ rKd ns n.kind n.kids = true
  | [], _, n, hn => absurd hn (by simp)
  | m :: t, h, n, hn => by
    rw [al1, Bool.and_eq_true, Bool.and_eq_true] at h
    rcases List.mem_cons.1 hn with rfl | hn
    · exact h.1
    · exact al1_all ns t h.2 n hn
theorem kdOk_all (ns : List Nd) (k : Int) : ∀ (i : Nat) (l : List Int), kdOk ns k i l = true → ∀ a ∈ l, isP ns.length a = true
  | _, [], _, a, ha => absurd ha (by simp)
  | i, b :: t, h, a, ha => by
    rw [kdOk, Bool.and_eq_true, Bool.and_eq_true] at h
    rcases List.mem_cons.1 ha with rfl | ha
    · exact h.1.1
    · exact kdOk_all ns k (i + 1) t h.2 a ha
theorem rKd_all {ns : List Nd} {k : Int} {l : List Int} (h : rKd ns k l = true) : ∀ a ∈ l, isP ns.length a = true := by
  rw [rKd, Bool.and_eq_true] at h
  exact kdOk_all ns k 0 l h.2
/-- may a graph be? -/
def rgG (g : Gr) : Bool := decide (g.nodes.length ≤ 4096) && isP g.nodes.length g.root && al1 g.nodes g.nodes && kNe (timN (bump (fun _ => 0) g.root.toNat) g.nodes) g.nodes && al2 g.nodes g.nodes
/-- not too large for the model -/
def Sml (ns : List Nd) : Prop := ns.length ≤ 4096 → (∀ n ∈ ns, n.text.length ≤ 2147483648) ∧ sumK ns ≤ 1000000000
theorem kids_sum {ns : List Nd} {n : Nd} (h : n ∈ ns) : n.kids.length ≤ sumK ns := by
  induction ns with
  | nil => cases h
  | cons m t ih =>
    have e : sumK (m :: t) = m.kids.length + sumK t := by simp [sumK]
    rcases List.mem_cons.1 h with rfl | h
    · omega
    · have := ih h; omega
structure RS (w W : World) (K0 : Nat) (g0 g1 : Value) : Prop where
  g : Bx W K0 #[g0, g1] 24
  bl : Below w.heap.size w W
theorem RS.later {w W W' : World} {K0 : Nat} {g0 g1 : Value} (h : RS w W K0 g0 g1) (hb : Below W.heap.size W W') : RS w W' K0 g0 g1 := ⟨h.g.later hb, h.bl.trans (hb.mono h.bl.size)⟩
structure RN (w W : World) (K0 KK : Nat) (g0 g1 n0 n1 n2 : Value) : Prop where
  s : RS w W K0 g0 g1
  n : Bx W KK #[n0, n1, n2] 47
theorem RN.later {w W W' : World} {K0 KK : Nat} {g0 g1 n0 n1 n2 : Value} (h : RN w W K0 KK g0 g1 n0 n1 n2) (hb : Below W.heap.size W W') : RN w W' K0 KK g0 g1 n0 n1 n2 := ⟨h.s.later hb, h.n.later hb⟩
theorem right_core {w : World} {ad : Option Addr} {len cap : Nat} {r : Int} {ns : List Nd} (hlen : len ≤ 9223372036854775807) (hN : NAt w ad len ns) (hS : Sml ns) (hT : Tb w) :
    Calls Tryz.prog 32 #[gv ad len cap r] w fun e w' => e = .returned (.bool (rgG ⟨ns, r⟩)) ∧ Below w.heap.size w w' := by
  have HLn : Hid (len = ns.length) := hN.1
  obtain ⟨q, HQ⟩ : ∃ q, Hid (q = (decide (ns.length ≤ 4096) && isP ns.length r && al1 ns ns && kNe (timN (bump (fun _ => 0) r.toNat) ns) ns && al2 ns ns)) := ⟨_, rfl⟩
  rw [show rgG ⟨ns, r⟩ = q from HQ.out.symm]
  rw [← HLn.out] at HQ
  have HN : Hid (NAt w ad len ns) := hN
  have HTb : Hid (Tb w) := hT
  clear hN hT
  have h0 : RS w (w.alloc (.cells #[.slice ad len cap, .int .i64 r] 24)) w.heap.size (.slice ad len cap) (.int .i64 r) := ⟨Bx.new _ _ _, below_alloc _ _⟩
  by_cases hl : 4096 < len
  · have HE : Hid (q = false) := by
      rw [HQ.out, decide_eq_false (show ¬ len ≤ 4096 by omega)]; exact rfl
    have hl' : (4096 : Int) < (len : Int) := by omega
    go_enter Tryz.func32, Tryz.ntmps32
    go_wp2
    go_ret
    exact ⟨by rw [HE.out]; rfl, h0.bl⟩
  have hl' : ¬ (4096 : Int) < (len : Int) := by omega
  have HSm : Hid ((∀ n ∈ ns, n.text.length ≤ 2147483648) ∧ sumK ns ≤ 1000000000) := hS (by have := HLn.out; omega)
  rw [decide_eq_true (show len ≤ 4096 by omega), Bool.true_and] at HQ
  clear hS
  go_enter Tryz.func32, Tryz.ntmps32
  go_wp2_with fail
  generalize w.alloc (.cells #[.slice ad len cap, .int .i64 r] 24) = W0 at h0 ⊢
  generalize w.heap.size = K0 at h0 ⊢
  refine (isPlace_any hlen).mono ?_
  rintro e w1 ⟨rfl, hb1⟩
  have h1 := h0.later hb1
  have HS1 : Hid (RS w w1 K0 (.slice ad len cap) (.int .i64 r)) := h1
  obtain ⟨c0, c1⟩ := h1.g.c2
  clear h0 hb1 h1
  cases hp : isP len r
  · have HE : Hid (q = false) := by rw [HQ.out, hp]; exact rfl
    go_wp2
    go_ret
    exact ⟨by rw [HE.out]; rfl, HS1.out.bl⟩
  rw [hp, Bool.true_and] at HQ
  have HQ0 : Hid (q = (al1 ns (ns.drop 0) && kNe (timN (bump (fun _ => 0) r.toNat) ns) ns && al2 ns ns)) := HQ
  go_wp2_with fail
  clear c0 c1 HQ
  go_loopw [21] (fun i wr => ∃ j : Nat, j ≤ len ∧ i = .int .i64 j ∧ Hid (RS w wr K0 (.slice ad len cap) (.int .i64 r)) ∧ Hid (q = (al1 ns (ns.drop j) && kNe (timN (bump (fun _ => 0) r.toNat) ns) ns && al2 ns ns)) ∧ Hid (∀ i, i < j → rKd ns (ns.getD i nd0).kind (ns.getD i nd0).kids = true)) (fun i _ => len - (intOf i).toNat)
  case atStart => exact ⟨0, Nat.zero_le _, rfl, HS1, HQ0, fun i hi => absurd hi (Nat.not_lt_zero _)⟩
  case round =>
    obtain ⟨j, hj, rfl, HS, HJ, HA⟩ := hrel
    clear HS1 HQ0
    by_cases hlt : j < len
    · have hjl : j < ns.length := by have := HLn.out; omega
      obtain ⟨b, off, rfl, hb, hc⟩ := HN.out.2 (by omega)
      obtain ⟨kad, klen, kcap, hk1, hk2, hk3, _, hI, y0, y1, y2⟩ := hc j hlt
      have HJ2 : Hid (q = (((rAl (ns.getD j nd0).kind (ns.getD j nd0).text && rKd ns (ns.getD j nd0).kind (ns.getD j nd0).kids) && al1 ns (ns.drop (j + 1))) && kNe (timN (bump (fun _ => 0) r.toNat) ns) ns && al2 ns ns)) := by
        rw [HJ.out, al1_at ns ns j hjl]; exact rfl
      have hx : (ns.getD j nd0).text.length ≤ 2147483648 := HSm.out.1 _ (mem_getD hjl)
      have HA2 : Hid (rKd ns (ns.getD j nd0).kind (ns.getD j nd0).kids = true → ∀ i, i < j + 1 → rKd ns (ns.getD i nd0).kind (ns.getD i nd0).kids = true) := fun h i hi => by
        by_cases e : i = j
        · rw [e]; exact h
        · exact HA.out i (by omega)
      clear hjl HJ HA hc
      generalize ns.getD j nd0 = nd at *
      obtain ⟨nk, nx, nl⟩ := nd
      simp only at y0 y1 y2 HJ2 hI hx HA2 hk3
      have x0 := (HS.out.bl.cell (p := ⟨b, off + j * 3, none⟩) hb).trans y0
      have x1 := (HS.out.bl.cell (p := ⟨b, off + j * 3 + 1, none⟩) hb).trans y1
      have x2 := (HS.out.bl.cell (p := ⟨b, off + j * 3 + 2, none⟩) hb).trans y2
      have hkl : klen ≤ 9223372036854775807 := by have : maxLen = 9223372036854775807 := rfl; omega
      have HNN : Hid (RN w (wr.alloc (.cells #[.int .i64 nk, .string (mk nx), .slice kad klen kcap] 47)) K0 wr.heap.size (.slice (some ⟨b, off, none⟩) len cap) (.int .i64 r) (.int .i64 nk) (.string (mk nx)) (.slice kad klen kcap)) := ⟨HS.out.later (below_alloc _ _), Bx.new _ _ _⟩
      have HI : Hid (IAt w kad klen nl) := hI
      clear y0 y1 y2 hI HS
      go_upto_region 6 with fail
      clear x0 x1 x2
      generalize wr.alloc (.cells #[.int .i64 nk, .string (mk nx), .slice kad klen kcap] 47) = W1 at HNN ⊢
      generalize wr.heap.size = KK at HNN ⊢
      obtain ⟨c0, c1⟩ := HNN.out.s.g.c2
      obtain ⟨d0, d1, d2⟩ := HNN.out.n.c3
      have H1 : Hid (Calls Tryz.prog 48 #[nv nk nx kad klen kcap] W1 fun e w' => e = .returned (.bool (rAl nk nx)) ∧ Hid (RN w w' K0 KK (.slice (some ⟨b, off, none⟩) len cap) (.int .i64 r) (.int .i64 nk) (.string (mk nx)) (.slice kad klen kcap)) ∧ w'.cell? ⟨K0, 0, none⟩ = some (.slice (some ⟨b, off, none⟩) len cap) ∧ w'.cell? ⟨K0, 1, none⟩ = some (.int .i64 r) ∧ w'.cell? ⟨KK, 0, none⟩ = some (.int .i64 nk) ∧ w'.cell? ⟨KK, 1, none⟩ = some (.string (mk nx)) ∧ w'.cell? ⟨KK, 2, none⟩ = some (.slice kad klen kcap)) :=
        (alone_any hk3 hx (HTb.out.later HNN.out.s.bl)).mono (fun e w' h => ⟨h.1, HNN.out.later h.2, (HNN.out.later h.2).s.g.c2.1, (HNN.out.later h.2).s.g.c2.2, (HNN.out.later h.2).n.c3⟩)
      have H2 : Hid (∀ w', Hid (RN w w' K0 KK (.slice (some ⟨b, off, none⟩) len cap) (.int .i64 r) (.int .i64 nk) (.string (mk nx)) (.slice kad klen kcap)) → Calls Tryz.prog 49 #[gv (some ⟨b, off, none⟩) len cap r, nv nk nx kad klen kcap] w' fun e w'' => e = .returned (.bool (rKd ns nk nl)) ∧ Hid (RS w w'' K0 (.slice (some ⟨b, off, none⟩) len cap) (.int .i64 r))) :=
        fun w' h => (rightKids_any hlen hkl (HN.out.later h.out.s.bl (Nat.le_refl _)) (HI.out.later h.out.s.bl (Nat.le_refl _))).mono (fun e w'' h' => ⟨h'.1, h.out.s.later h'.2⟩)
      generalize rAl nk nx = q1 at *
      generalize rKd ns nk nl = q2 at *
      cases q1
      · go_wp2_with (go_at_call 48; refine H1.out.mono ?_; rintro e w3 ⟨rfl, H3, e0, e1, e2, e3, e4⟩)
        go_ret
        exact ⟨by rw [HJ2.out]; rfl, H3.out.s.bl⟩
      cases q2
      · go_wp2_with (first | (go_at_call 48; refine H1.out.mono ?_; rintro e w3 ⟨rfl, H3, e0, e1, e2, e3, e4⟩) | (go_at_call 49; refine (H2.out _ H3).mono ?_; rintro e w4 ⟨rfl, H4⟩))
        go_ret
        exact ⟨by rw [HJ2.out]; rfl, H4.out.bl⟩
      · go_wp2_with (first | (go_at_call 48; refine H1.out.mono ?_; rintro e w3 ⟨rfl, H3, e0, e1, e2, e3, e4⟩) | (go_at_call 49; refine (H2.out _ H3).mono ?_; rintro e w4 ⟨rfl, H4⟩))
        go_roundw
        case rel => exact ⟨j + 1, by omega, by go_num, H4, by rw [HJ2.out]; exact rfl, HA2.out (by trivial)⟩
        case measure => simp [intOf]; omega
    · have HJ3 : Hid (q = (kNe (timN (bump (fun _ => 0) r.toNat) ns) ns && al2 ns ns)) := by
        rw [HJ.out, List.drop_of_length_le (by have := HLn.out; omega)]; exact rfl
      have HKI : Hid (∀ n ∈ ns, ∀ a ∈ n.kids, isP len a = true) := fun n hn a ha => by
        obtain ⟨i, hi, e⟩ := List.getElem_of_mem hn
        have h := HA.out i (by have := HLn.out; omega)
        rw [List.getD_eq_getElem?_getD, List.getElem?_eq_getElem hi] at h
        simp only [Option.getD_some, e] at h
        rw [HLn.out]
        exact rKd_all h a ha
      obtain ⟨c0, c1⟩ := HS.out.g.c2
      have H1 : Hid (Calls Tryz.prog 50 #[gv ad len cap r] wr fun e w' => e = .returned (.bool (kNe (timN (bump (fun _ => 0) r.toNat) ns) ns)) ∧ Hid (RS w w' K0 (.slice ad len cap) (.int .i64 r)) ∧ w'.cell? ⟨K0, 0, none⟩ = some (.slice ad len cap) ∧ w'.cell? ⟨K0, 1, none⟩ = some (.int .i64 r)) :=
        (nothing_any (by omega) (HN.out.later HS.out.bl (Nat.le_refl _)) hp HKI.out (by have := HSm.out.2; omega)).mono (fun e w' h => ⟨h.1, HS.out.later h.2, (HS.out.later h.2).g.c2⟩)
      generalize kNe (timN (bump (fun _ => 0) r.toNat) ns) ns = q1 at *
      clear HJ HA
      cases q1
      · go_wp2_with (go_at_call 50; refine H1.out.mono ?_; rintro e w3 ⟨rfl, H3, e0, e1⟩)
        go_ret
        exact ⟨by rw [HJ3.out]; rfl, H3.out.bl⟩
      have HJ4 : Hid (q = al2 ns (ns.drop 0)) := by rw [HJ3.out]; exact rfl
      go_wp2_with (go_at_call 50; refine H1.out.mono ?_; rintro e w3 ⟨rfl, H3, e0, e1⟩)
      clear e0 e1 c0 c1 H1 HJ3 HS
      go_loopw [41] (fun i wr => ∃ j : Nat, j ≤ len ∧ i = .int .i64 j ∧ Hid (RS w wr K0 (.slice ad len cap) (.int .i64 r)) ∧ Hid (q = al2 ns (ns.drop j))) (fun i _ => len - (intOf i).toNat)
      case atStart => exact ⟨0, Nat.zero_le _, rfl, H3, HJ4⟩
      case round =>
        obtain ⟨i, hi, rfl, HS, HJ⟩ := hrel
        clear HJ4
        by_cases hlt2 : i < len
        · have hjl : i < ns.length := by have := HLn.out; omega
          obtain ⟨b, off, rfl, hb, hc⟩ := HN.out.2 (by omega)
          obtain ⟨kad, klen, kcap, hk1, hk2, hk3, _, hI, y0, y1, y2⟩ := hc i hlt2
          have HJ2 : Hid (q = (dif ((kys (ns.getD i nd0).kind 0 (ns.getD i nd0).kids).map (kp ns)) && al2 ns (ns.drop (i + 1)))) := by
            rw [HJ.out, al2_at ns ns i hjl]; exact rfl
          have hkn : (ns.getD i nd0).kids.length ≤ 1000000000 := Nat.le_trans (kids_sum (mem_getD hjl)) HSm.out.2
          have HKJ : Hid (∀ a ∈ (ns.getD i nd0).kids, isP len a = true) := HKI.out _ (mem_getD hjl)
          clear hjl HJ hc
          generalize ns.getD i nd0 = nd at *
          obtain ⟨nk, nx, nl⟩ := nd
          simp only at y0 y1 y2 HJ2 hI hkn HKJ
          have x0 := (HS.out.bl.cell (p := ⟨b, off + i * 3, none⟩) hb).trans y0
          have x1 := (HS.out.bl.cell (p := ⟨b, off + i * 3 + 1, none⟩) hb).trans y1
          have x2 := (HS.out.bl.cell (p := ⟨b, off + i * 3 + 2, none⟩) hb).trans y2
          have hkl : klen ≤ 1000000000 := by have := hI.1; omega
          have HNN : Hid (RN w (wr.alloc (.cells #[.int .i64 nk, .string (mk nx), .slice kad klen kcap] 47)) K0 wr.heap.size (.slice (some ⟨b, off, none⟩) len cap) (.int .i64 r) (.int .i64 nk) (.string (mk nx)) (.slice kad klen kcap)) := ⟨HS.out.later (below_alloc _ _), Bx.new _ _ _⟩
          have HI : Hid (IAt w kad klen nl) := hI
          clear y0 y1 y2 hI HS hkn
          go_upto_region 14 with fail
          clear x0 x1 x2
          generalize wr.alloc (.cells #[.int .i64 nk, .string (mk nx), .slice kad klen kcap] 47) = W1 at HNN ⊢
          generalize wr.heap.size = KK at HNN ⊢
          obtain ⟨c0, c1⟩ := HNN.out.s.g.c2
          obtain ⟨d0, d1, d2⟩ := HNN.out.n.c3
          have H2 : Hid (Calls Tryz.prog 51 #[gv (some ⟨b, off, none⟩) len cap r, nv nk nx kad klen kcap] W1 fun e w'' => e = .returned (.bool (dif ((kys nk 0 nl).map (kp ns)))) ∧ Hid (RS w w'' K0 (.slice (some ⟨b, off, none⟩) len cap) (.int .i64 r))) :=
            (differ_any hlen hkl (HN.out.later HNN.out.s.bl (Nat.le_refl _)) (HI.out.later HNN.out.s.bl (Nat.le_refl _)) HKJ.out).mono (fun e w'' h' => ⟨h'.1, HNN.out.s.later h'.2⟩)
          generalize dif ((kys nk 0 nl).map (kp ns)) = q2 at *
          cases q2
          · go_wp2_with (go_at_call 51; refine H2.out.mono ?_; rintro e w4 ⟨rfl, H4⟩)
            go_ret
            exact ⟨by rw [HJ2.out]; rfl, H4.out.bl⟩
          · go_wp2_with (go_at_call 51; refine H2.out.mono ?_; rintro e w4 ⟨rfl, H4⟩)
            go_roundw
            case rel => exact ⟨i + 1, by omega, by go_num, H4, by rw [HJ2.out]; exact rfl⟩
            case measure => simp [intOf]; omega
        · have HE : Hid (q = true) := by
            rw [HJ.out, List.drop_of_length_le (by have := HLn.out; omega)]; exact rfl
          go_wp2
          go_ret
          exact ⟨by rw [HE.out]; rfl, HS.out.bl⟩
end Go.Proofs.YtaphijgbebhdlaaGreatDoor.Grp
end
