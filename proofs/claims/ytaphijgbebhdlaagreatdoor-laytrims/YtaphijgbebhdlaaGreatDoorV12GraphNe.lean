/- Several texts as one: GraphNe, GraphSet, GraphOrd. -/
import Derived.Test.YtaphijgbebhdlaaGreatDoorV11GraphSeq
import Derived.Maps.OwnSet
import Derived.Maps.OwnIn
import Derived.DeepKeys4
import Derived.OrdersIn
import Derived.RegionIn
section
/- Package graph's keysAreNothingElse, by its contract. -/
namespace Go.Proofs.YtaphijgbebhdlaaGreatDoor.Grp
open Utf Rws Pln Flw
open Go.RowKit Go.Shelf
set_option linter.unusedSimpArgs false
set_option linter.unusedVariables false
set_option maxRecDepth 100000
set_option maxHeartbeats 4000000
attribute [local go_sem] Oper.semAt_some

theorem Tryz.infoInt : (Tryz.prog.info? 3).map (fun i => (i.zero, i.size, i.bytes)) = some (some (.int .i64 0), 1, 8) := by kernel_rfl
theorem Tryz.underInts : Tryz.prog.underlying 45 = some (.slice 3) := by kernel_rfl
/-- the boxes, the times, and the marks -/
structure NeS (w W : World) (K0 K1 K2 K3 len : Nat) (g0 g1 : Value) (T : Nat → Nat) (l : List Nat) : Prop where
  g : Bx W K0 #[g0, g1] 24
  r : Bx W K1 #[.bool false] 4
  s : Bx W K2 #[.slice (some ⟨K3, 0, none⟩) len len] 45
  t : Bx W K3 (tA T len) 3
  bl : Below w.heap.size w W
  ms : Mks w.heap.size W.heap.size W l
  h1 : w.heap.size ≤ K1
  h3 : w.heap.size ≤ K3
  n0 : K0 ≠ K3
  n1 : K1 ≠ K3
  n2 : K2 ≠ K3
theorem NeS.later {w W W' : World} {K0 K1 K2 K3 len : Nat} {g0 g1 : Value} {T : Nat → Nat} {l : List Nat} (h : NeS w W K0 K1 K2 K3 len g0 g1 T l) (hb : Below W.heap.size W W') : NeS w W' K0 K1 K2 K3 len g0 g1 T l :=
  ⟨h.g.later hb, h.r.later hb, h.s.later hb, h.t.later hb, h.bl.trans (hb.mono h.bl.size), (h.ms.later hb (Nat.le_refl _)).more hb.size, h.h1, h.h3, h.n0, h.n1, h.n2⟩
theorem NeS.bump {w W : World} {K0 K1 K2 K3 len : Nat} {g0 g1 : Value} {T : Nat → Nat} {l : List Nat} (h : NeS w W K0 K1 K2 K3 len g0 g1 T l) {i : Nat} (hi : i < len) : NeS w (W.setCell ⟨K3, i, none⟩ (.int .i64 ((T i + 1 : Nat) : Int))) K0 K1 K2 K3 len g0 g1 (bump T i) l := by
  have hs : (W.setCell ⟨K3, i, none⟩ (.int .i64 ((T i + 1 : Nat) : Int))).heap.size = W.heap.size := World.size_setCell _ _ _
  refine ⟨h.g.other h.n0 _ _, h.r.other h.n1 _ _, h.s.other h.n2 _ _, ?_, h.bl.setCell (p := ⟨K3, i, none⟩) h.h3 _, ?_, h.h1, h.h3, h.n0, h.n1, h.n2⟩
  · have := h.t.set i (.int .i64 ((T i + 1 : Nat) : Int))
    rw [tA_set] at this
    exact this
  · rw [hs]
    exact h.ms.set ((h.t.cell i).trans (tA_get T hi))
theorem NeS.start (w : World) (ad : Option Addr) (len cap m : Nat) {cs : Array Value} {T : Nat → Nat} (hcs : cs = tA T len) : NeS w ((((w.alloc (.cells #[.slice ad len cap, .int .i64 (m : Int)] 24)).alloc (.cells #[.bool false] 4)).alloc (.cells cs 3)).alloc (.cells #[.slice (some ⟨w.heap.size + 1 + 1, 0, none⟩) len len] 45)) w.heap.size (w.heap.size + 1) (w.heap.size + 1 + 1 + 1) (w.heap.size + 1 + 1) len (.slice ad len cap) (.int .i64 (m : Int)) T [] := by
  subst hcs
  have b1 := below_alloc w (.cells #[.slice ad len cap, .int .i64 (m : Int)] 24)
  have n1 := Bx.new w #[.slice ad len cap, .int .i64 (m : Int)] 24
  have s1 : (w.alloc (.cells #[.slice ad len cap, .int .i64 (m : Int)] 24)).heap.size = w.heap.size + 1 := World.size_alloc _ _
  generalize w.alloc (.cells #[.slice ad len cap, .int .i64 (m : Int)] 24) = w1 at *
  have b2 := below_alloc w1 (.cells #[.bool false] 4)
  have n2 := Bx.new w1 #[.bool false] 4
  have s2 : (w1.alloc (.cells #[.bool false] 4)).heap.size = w1.heap.size + 1 := World.size_alloc _ _
  rw [s1] at n2 s2
  generalize w1.alloc (.cells #[.bool false] 4) = w2 at *
  have b3 := below_alloc w2 (.cells (tA T len) 3)
  have n3 := Bx.new w2 (tA T len) 3
  have s3 : (w2.alloc (.cells (tA T len) 3)).heap.size = w2.heap.size + 1 := World.size_alloc _ _
  rw [s2] at n3 s3
  generalize w2.alloc (.cells (tA T len) 3) = w3 at *
  have b4 := below_alloc w3 (.cells #[.slice (some ⟨w.heap.size + 1 + 1, 0, none⟩) len len] 45)
  have n4 := Bx.new w3 #[.slice (some ⟨w.heap.size + 1 + 1, 0, none⟩) len len] 45
  rw [s3] at n4
  exact ⟨((n1.later b2).later b3).later b4, (n2.later b3).later b4, n4, n3.later b4, ((b1.trans (b2.mono b1.size)).trans (b3.mono (by omega))).trans (b4.mono (by omega)), Mks.nil _ _ _, by omega, by omega, by omega, by omega, by omega⟩
theorem mem_getD {ns : List Nd} {j : Nat} (h : j < ns.length) : ns.getD j nd0 ∈ ns := by
  rw [List.getD_eq_getElem?_getD, List.getElem?_eq_getElem h]
  exact List.getElem_mem h
theorem mem_getI {l : List Int} {j : Nat} (h : j < l.length) : l.getD j 0 ∈ l := by
  rw [List.getD_eq_getElem?_getD, List.getElem?_eq_getElem h]
  exact List.getElem_mem h
theorem isP_nat {n : Nat} {a : Int} (h : isP n a = true) : ∃ m : Nat, a = (m : Int) ∧ m < n := by
  unfold isP at h
  simp only [Bool.and_eq_true, decide_eq_true_eq] at h
  exact ⟨a.toNat, by omega, by omega⟩
theorem nothing_any {w : World} {ad : Option Addr} {len cap : Nat} {r : Int} {ns : List Nd} (hlen : len ≤ 4096) (hN : NAt w ad len ns) (hr : isP len r = true) (hks : ∀ n ∈ ns, ∀ a ∈ n.kids, isP len a = true) (hsum : sumK ns ≤ 4611686018427387904) :
    Calls Tryz.prog 50 #[gv ad len cap r] w fun e w' => e = .returned (.bool (kNe (timN (bump (fun _ => 0) r.toNat) ns) ns)) ∧ Below w.heap.size w w' := by
  obtain ⟨m, rfl, hm⟩ := isP_nat hr
  clear hr
  rw [Int.toNat_natCast]
  have HN : Hid (NAt w ad len ns) := hN
  have HLn : Hid (len = ns.length) := hN.1
  have HKS : Hid (∀ n ∈ ns, ∀ a ∈ n.kids, isP len a = true) := hks
  clear hN hks
  have hmk := fun w' : World => run_make_row' (P := Tryz.prog) 45 3 (.int .i64 0) 8 Tryz.underInts Tryz.infoInt rfl .i64 .i64 len (by omega) (by omega) w'
  have c0 := (NeS.start w ad len cap m (tA_made len)).t.cell m
  rw [tA_get _ hm] at c0
  have z0 := (NeS.start w ad len cap m (tA_made len)).t.fz m
  have h1 := NeS.start w ad len cap m (cs := (madeCells #[Value.int .i64 0] len).setIfInBounds m (.int .i64 1)) (T := bump (fun _ => 0) m) (by rw [tA_made]; exact tA_set (fun _ => 0) len m)
  refine (callsIn_wide (n := 4)).1 ?_
  refine callsIn_of_wp_marks Tryz.func50 rfl trivial ?_ rfl
  simp only [Tryz.ntmps50, List.size_toArray, List.length_cons, List.length_nil, Nat.reduceAdd, Nat.reduceSub, Array.replicate_succ, Array.replicate_zero, List.push_toArray, List.append_toArray, List.nil_append, List.cons_append]
  obtain ⟨q, HQ⟩ : ∃ q, Hid (q = kNe (timN (bump (fun _ => 0) m) ns) ns) := ⟨_, rfl⟩
  rw [← HQ.out]
  gi_wp2_with fail
  clear c0 z0 hmk
  generalize ((((w.alloc (.cells #[.slice ad len cap, .int .i64 (m : Int)] 24)).alloc (.cells #[.bool false] 4)).alloc (.cells ((madeCells #[Value.int .i64 0] len).setIfInBounds m (.int .i64 1)) 3)).alloc (.cells #[.slice (some ⟨w.heap.size + 1 + 1, 0, none⟩) len len] 45)) = W0 at h1 ⊢
  generalize w.heap.size + 1 + 1 + 1 = K2 at h1 ⊢
  generalize w.heap.size + 1 + 1 = K3 at h1 ⊢
  generalize w.heap.size + 1 = K1 at h1 ⊢
  generalize w.heap.size = K0 at h1 ⊢
  gi_loopw [25] (fun i wr => ∃ (j : Nat) (T : Nat → Nat), j ≤ len ∧ i = .int .i64 j ∧ Hid (NeS w wr K0 K1 K2 K3 len (.slice ad len cap) (.int .i64 (m : Int)) T []) ∧ Hid (T = timN (bump (fun _ => 0) m) (ns.take j))) (fun i _ => len - (intOf i).toNat)
  case atStart => exact ⟨0, _, Nat.zero_le _, rfl, h1, rfl⟩
  case round =>
    obtain ⟨j, T, hj, rfl, HS, HT⟩ := hrel
    clear h1
    by_cases hlt : j < len
    · have hjl : j < ns.length := by have := HLn.out; omega
      obtain ⟨b, off, rfl, hb, hc⟩ := HN.out.2 (by omega)
      obtain ⟨kad, klen, kcap, hk1, hk2, _, _, hI, y0, y1, y2⟩ := hc j hlt
      have HKI : Hid (∀ a ∈ (ns.getD j nd0).kids, isP len a = true) := HKS.out _ (mem_getD hjl)
      have HTN := timN_snoc (bump (fun _ => 0) m) ns j hjl
      rw [← HT.out] at HTN
      have HT2 : Hid (timN (bump (fun _ => 0) m) (ns.take (j + 1)) = bmps T (ns.getD j nd0).kids) := HTN
      have HB : Hid (∀ x, T x + (ns.getD j nd0).kids.length ≤ 4611686018427387906) := fun x => by
        have h1 := timN_le (ns.take j) (bump (fun _ => 0) m) x
        have h2 := bump_le (fun _ => 0) m x
        have h3 := sumK_at ns j hjl
        rw [← HT.out] at h1
        omega
      clear HTN hjl
      generalize ns.getD j nd0 = nd at *
      obtain ⟨nk, nx, nl⟩ := nd
      simp only at y0 y1 y2 HT2 hI HKI HB
      have x0 := (HS.out.bl.cell (p := ⟨b, off + j * 3, none⟩) hb).trans y0
      have x1 := (HS.out.bl.cell (p := ⟨b, off + j * 3 + 1, none⟩) hb).trans y1
      have x2 := (HS.out.bl.cell (p := ⟨b, off + j * 3 + 2, none⟩) hb).trans y2
      have HI : Hid (IAt w kad klen nl) := hI
      have HLk : Hid (klen = nl.length) := hI.1
      have hkl : klen ≤ 9223372036854775807 := by have : maxLen = 9223372036854775807 := rfl; omega
      have HS1 : Hid (NeS w (wr.alloc (.cells #[.int .i64 nk, .string (mk nx), .slice kad klen kcap] 47)) K0 K1 K2 K3 len (.slice (some ⟨b, off, none⟩) len cap) (.int .i64 (m : Int)) T []) := HS.out.later (below_alloc _ _)
      clear hc y0 y1 y2 hI hk1 hk2 HT
      gi_wp2_with fail
      clear x0 x1 x2
      generalize wr.alloc (.cells #[.int .i64 nk, .string (mk nx), .slice kad klen kcap] 47) = W1 at HS1 ⊢
      gi_loopw [32] (fun i wr => ∃ (k : Nat) (T' : Nat → Nat), k ≤ klen ∧ i = .int .i64 k ∧ Hid (NeS w wr K0 K1 K2 K3 len (.slice (some ⟨b, off, none⟩) len cap) (.int .i64 (m : Int)) T' []) ∧ Hid (T' = bmps T (nl.take k))) (fun i _ => klen - (intOf i).toNat)
      case atStart => exact ⟨0, _, Nat.zero_le _, rfl, HS1, rfl⟩
      case round =>
        obtain ⟨k, T', hk, rfl, HS2, HT3⟩ := hrel
        by_cases hkt : k < klen
        · have hkn : k < nl.length := by have := HLk.out; omega
          obtain ⟨kb, koff, rfl, hkb, hkc⟩ := HI.out.2 (by omega)
          have x0 := (HS2.out.bl.cell (p := ⟨kb, koff + k, none⟩) hkb).trans (hkc k hkt).2
          obtain ⟨p, hp, hpl⟩ := isP_nat (HKI.out _ (mem_getI hkn))
          have HT4 : Hid (bmps T (nl.take (k + 1)) = bump T' p) := by
            show _ = _
            rw [bmps_snoc T nl k hkn, hp, HT3.out, Int.toNat_natCast]
          have hTp : T' p ≤ 4611686018427387906 := by
            rw [HT3.out]
            have h1 := bmps_le (nl.take k) T p
            have h2 := HB.out p
            have h3 := List.length_take_le k nl
            have h4 : (nl.take k).length ≤ nl.length := List.length_take_le' k nl
            omega
          rw [hp] at x0
          have c0 : wr.cell? ⟨K2, 0, none⟩ = some (.slice (some ⟨K3, 0, none⟩) len len) := HS2.out.s.cell 0
          have c1 := (HS2.out.t.cell p).trans (tA_get T' hpl)
          have z1 := HS2.out.t.fz p
          have HS3 : Hid (NeS w (wr.setCell ⟨K3, p, none⟩ (.int .i64 ((T' p : Int) + 1))) K0 K1 K2 K3 len (.slice (some ⟨b, off, none⟩) len cap) (.int .i64 (m : Int)) (bump T' p) []) := HS2.out.bump hpl
          clear hp hkc HT3 hkn
          generalize T' p = tp at *
          gi_wp2
          go_roundw
          case rel => exact ⟨k + 1, _, by omega, by go_num, HS3, HT4.out.symm⟩
          case measure => simp [intOf]; omega
        · have HT5 : Hid (T' = timN (bump (fun _ => 0) m) (ns.take (j + 1))) := by
            show _ = _
            rw [HT3.out, HT2.out, List.take_of_length_le (by have := HLk.out; omega)]
          gi_wp2
          go_roundw
          case rel => exact ⟨j + 1, T', by omega, by go_num, HS2, HT5⟩
          case measure => simp [intOf]; omega
    · have HTE : Hid (T = timN (bump (fun _ => 0) m) ns) := by
        show _ = _
        rw [HT.out, List.take_of_length_le (by have := HLn.out; omega)]
      rw [← HTE.out] at HQ
      have HQ0 : Hid (q = kNe T (ns.drop 0)) := HQ
      obtain ⟨c0, c1⟩ := HS.out.g.c2
      clear HT HTE HQ
      gi_wp2_with fail
      clear c0 c1
      refine wpIn_loop (fun a' w' => ∃ (j : Nat) (l : List Nat) (u0 u1 u4 u5 u6 u7 u8 u9 u10 u11 u12 u13 u14 u15 u16 u17 u18 u19 u20 u21 u22 u23 u24 u25 u26 u27 u28 u29 u30 u31 u32 u33 u34 u35 u36 u37 u38 u39 u40 u41 u42 u43 u44 u48 u49 u50 u51 u52 u53 u54 u55 u56 u57 u58 u59 : Value), j ≤ len ∧ Hid (NeS w w' K0 K1 K2 K3 len (.slice ad len cap) (.int .i64 (m : Int)) T l) ∧ Hid (q = kNe T (ns.drop j)) ∧
        a' = { tmps := #[u0, u1, .pointer (some ⟨K1, 0, none⟩), .pointer (some ⟨K2, 0, none⟩), u4, u5, u6, u7, u8, u9, u10, u11, u12, u13, u14, u15, u16, u17, u18, u19, u20, u21, u22, u23, u24, u25, u26, u27, u28, u29, u30, u31, u32, u33, u34, u35, u36, u37, u38, u39, u40, u41, u42, u43, u44, .slice ad len cap, .int .i64 len, .int .i64 j, u48, u49, u50, u51, u52, u53, u54, u55, u56, u57, u58, u59], defers := dfs l }) (fun a' _ => len - (intOf (a'.tmps.getD 47 undef)).toNat) ?_ ?_
      · exact ⟨0, [], _, _, _, _, _, _, _, _, _, _, _, _, _, _, _, _, _, _, _, _, _, _, _, _, _, _, _, _, _, _, _, _, _, _, _, _, _, _, _, _, _, _, _, _, _, _, _, _, _, _, _, _, _, _, _, Nat.zero_le _, HS, HQ0, rfl⟩
      · clear HS HQ0
        rintro a' wr ⟨j, l, u0, u1, u4, u5, u6, u7, u8, u9, u10, u11, u12, u13, u14, u15, u16, u17, u18, u19, u20, u21, u22, u23, u24, u25, u26, u27, u28, u29, u30, u31, u32, u33, u34, u35, u36, u37, u38, u39, u40, u41, u42, u43, u44, u48, u49, u50, u51, u52, u53, u54, u55, u56, u57, u58, u59, hj, HS, HJ, rfl⟩
        by_cases hlt : j < len
        · have hjl : j < ns.length := by have := HLn.out; omega
          obtain ⟨b, off, rfl, hb, hc⟩ := HN.out.2 (by omega)
          obtain ⟨kad, klen, kcap, hk1, hk2, _, _, hI, y0, y1, y2⟩ := hc j hlt
          have HKI : Hid (∀ a ∈ (ns.getD j nd0).kids, isP len a = true) := HKS.out _ (mem_getD hjl)
          have HJ2 : Hid (q = ((kys (ns.getD j nd0).kind 0 (ns.getD j nd0).kids).all (fun a => decide (T a.toNat ≤ 1)) && kNe T (ns.drop (j + 1)))) := HJ.out.trans (kNe_at T ns j hjl)
          clear hjl
          generalize ns.getD j nd0 = nd at *
          obtain ⟨nk, nx, nl⟩ := nd
          simp only at y0 y1 y2 HJ2 hI HKI
          have x0 := (HS.out.bl.cell (p := ⟨b, off + j * 3, none⟩) hb).trans y0
          have x1 := (HS.out.bl.cell (p := ⟨b, off + j * 3 + 1, none⟩) hb).trans y1
          have x2 := (HS.out.bl.cell (p := ⟨b, off + j * 3 + 2, none⟩) hb).trans y2
          have HI : Hid (IAt wr kad klen nl) := hI.later HS.out.bl (Nat.le_refl _)
          have hkl : klen ≤ 9223372036854775807 := by have : maxLen = 9223372036854775807 := rfl; omega
          clear hc y0 y1 y2 hI HJ hk1 hk2
          gi_wp2_with (first | (refine ⟨trivial, ?_⟩; gi_at_call 71; refine (keysOf_in _ _ _ _ _ _ _).mono ?_; rintro e w' ⟨rfl, rfl⟩))
          have b1 := below_alloc wr (.cells #[.int .i64 nk, .string (mk nx), .slice kad klen kcap] 47)
          have s1 : (wr.alloc (.cells #[.int .i64 nk, .string (mk nx), .slice kad klen kcap] 47)).heap.size = wr.heap.size + 1 := World.size_alloc _ _
          have b2 := below_alloc (wr.alloc (.cells #[.int .i64 nk, .string (mk nx), .slice kad klen kcap] 47)) (.cells #[.int .i64 nk, .string (mk nx), .slice kad klen kcap] 47)
          have n2 := Bx.new (wr.alloc (.cells #[.int .i64 nk, .string (mk nx), .slice kad klen kcap] 47)) #[.int .i64 nk, .string (mk nx), .slice kad klen kcap] 47
          rw [s1] at n2
          have b3 := b1.trans (b2.mono b1.size)
          have HS1 := HS.out.later b3
          have hKs : KsAt _ (wr.heap.size + 1) nk nx kad klen kcap nl := ⟨n2, HI.out.later b3 (Nat.le_refl _)⟩
          clear b1 s1 b2 n2 b3 HI x0 x1 x2
          generalize (wr.alloc (.cells #[.int .i64 nk, .string (mk nx), .slice kad klen kcap] 47)).alloc (.cells #[.int .i64 nk, .string (mk nx), .slice kad klen kcap] 47) = W1 at HS1 hKs ⊢
          generalize wr.heap.size + 1 = Bs at hKs ⊢
          generalize wr.heap.size = KK at *
          have hBs := hKs.bx.lt
          have hg1 := HS1.bl.size
          refine wpIn_rangeFunc_ownG rfl (by decide) (gf := 90) (lb := #[.pointer (some ⟨Bs, 0, none⟩)]) rfl trivial (enters_of Tryz.func90 (by kernel_rfl) rfl)
            (keys_stops (4 - 1) (by decide) Bs nk nx kad klen kcap nl hkl W1 hKs) (fun h k => kpk_trans h k)
            (fun X m o o' hm _ _ _ => ⟨by simp [World.putObj], World.putObj_heap_other (fun e => by omega), fun b' off' p e => World.putObj_heap_other (fun e' => by obtain ⟨b2, off2, e2, h2, _⟩ := hKs.ks.2 p; rw [e] at e2; cases e2; omega)⟩) (Below.refl _ _) (fun _ => rfl)
            (fun pre W => (∀ y ∈ pre, T y.1.toNat ≤ 1) ∧ Below W1.heap.size W1 W)
            (fun c pre W => (c = .ret ∧ ∃ y ∈ pre, ¬ T y.1.toNat ≤ 1) ∧ (W.cell? ⟨K1, 0, none⟩ = some (.bool false) ∧ Below w.heap.size w W) ∧ Mks w.heap.size W1.heap.size W l)
            (OwnFrom.and (fun s W W' row h _ _ => h) (ownFrom_below (Nat.le_refl _) (Nat.le_refl _)))
            (fun c => OwnFrom.and (fun s W W' row h _ _ => h) (OwnFrom.and (OwnFrom.and (Own.from (fun t A B row ht hg hr => cell_kept ht hg hr) _) (ownFrom_below (Nat.le_refl _) hg1)) (Mks.own l)))
            ⟨fun y hy => absurd hy (by simp), Below.refl _ _⟩
            (fun y => { tmps := #[u0, u1, .pointer (some ⟨K1, 0, none⟩), .pointer (some ⟨K2, 0, none⟩), u4, u5, u6, u7, u8, .pointer (some ⟨KK, 0, none⟩), .int .i64 y.1, u11, u12, u13, u14, u15, u16, u17, u18, u19, u20, u21, u22, u23, u24, u25, u26, u27, u28, u29, u30, u31, u32, u33, u34, u35, u36, u37, u38, u39, u40, u41, u42, u43, u44, .slice (some ⟨b, off, none⟩) len cap, .int .i64 len, .int .i64 j, .bool true, .pointer (some ⟨b, off + j * 3, none⟩), .agg #[.int .i64 nk, .string (mk nx), .slice kad klen kcap], .agg #[.int .i64 nk, .string (mk nx), .slice kad klen kcap], .func (.func 90) #[] #[.pointer (some ⟨Bs, 0, none⟩)], .int .i64 y.1, u54, u55, u56, u57, u58, u59], defers := [] }) ?assign ?body ?done ?stop
          case assign =>
            intro m y W K hK
            gi_wp2
            exact hK
          case body =>
            rintro m' pre y W ⟨hne, hB⟩ hp
            have HSW := HS1.later hB
            obtain ⟨p, hpy, hpl⟩ := isP_nat (HKI.out y.1 y.2)
            have c0 : W.cell? ⟨K2, 0, none⟩ = some (.slice (some ⟨K3, 0, none⟩) len len) := HSW.s.cell 0
            have c1 := (HSW.t.cell p).trans (tA_get T hpl)
            have c2 : W.cell? ⟨K1, 0, none⟩ = some (.bool false) := HSW.r.cell 0
            have z2 := HSW.r.fz 0
            by_cases hy : T p ≤ 1
            · have HNE : Hid (∀ z ∈ pre ++ [y], T z.1.toNat ≤ 1) := fun z hz => by
                rcases List.mem_append.1 hz with hz | hz
                · exact hne z hz
                · rw [List.mem_singleton.1 hz, hpy, Int.toNat_natCast]; exact hy
              clear hne
              rw [hpy]
              generalize T p = tp at *
              clear hpy
              gi_wp2
              exact ⟨KeepsFrom.refl _ _, ⟨Nat.le_refl _, rfl, fun _ _ _ _ => rfl⟩, HNE.out, hB⟩
            · have HM : Hid (Mks w.heap.size W1.heap.size (W.setCell ⟨K1, 0, none⟩ (.bool false)) l) := (HS1.ms.later hB (Nat.le_refl _)).set c2
              have HB : Hid (Below w.heap.size w (W.setCell ⟨K1, 0, none⟩ (.bool false))) := HSW.bl.setCell (p := ⟨K1, 0, none⟩) HSW.h1 _
              have HY : Hid (∃ z ∈ pre ++ [y], ¬ T z.1.toNat ≤ 1) := ⟨y, by simp, by rw [hpy, Int.toNat_natCast]; exact hy⟩
              clear hne
              rw [hpy]
              generalize T p = tp at *
              clear hpy
              gi_wp2
              exact ⟨(KeepsOthers.setCell _ _ _).from _, ⟨rfl, HY.out⟩, ⟨World.cell?_setCell_same _ _ _ c2, HB.out⟩, HM.out⟩
          case done =>
            rintro D ys W hD hys ⟨hne, hB⟩ hK
            have HSW := HS1.later hB
            have HM : Hid (Mks w.heap.size W.heap.size W (D :: l)) := (HS1.ms.later hB (Nat.le_refl _)).cons hD (by omega) hK
            have HS2 : Hid (NeS w W K0 K1 K2 K3 len (.slice (some ⟨b, off, none⟩) len cap) (.int .i64 (m : Int)) T (D :: l)) := ⟨HSW.g, HSW.r, HSW.s, HSW.t, HSW.bl, HM.out, HSW.h1, HSW.h3, HSW.n0, HSW.n1, HSW.n2⟩
            have HQ2 : Hid (q = kNe T (ns.drop (j + 1))) := by
              show _ = _
              rw [HJ2.out]
              have : (kys nk 0 nl).all (fun a => decide (T a.toNat ≤ 1)) = true := by
                rw [← hys, List.all_eq_true]
                intro a ha
                obtain ⟨y, hy, rfl⟩ := List.mem_map.1 ha
                exact decide_eq_true (hne y hy)
              rw [this, Bool.true_and]
            clear hys hne
            gi_wp2
            refine ⟨⟨j + 1, D :: l, _, _, _, _, _, _, _, _, _, _, _, _, _, _, _, _, _, _, _, _, _, _, _, _, _, _, _, _, _, _, _, _, _, _, _, _, _, _, _, _, _, _, _, _, _, _, _, _, _, _, _, _, _, _, _, by omega, HS2, HQ2, rfl⟩, ?_⟩
            simp [intOf]
            omega
          case stop =>
            rintro D c pre W hD hpre ⟨⟨rfl, y, hy, e⟩, ⟨hc, hB⟩, hM⟩ hK
            have HE : Hid (q = false) := by
              show _ = _
              rw [HJ2.out]
              have : (kys nk 0 nl).all (fun a => decide (T a.toNat ≤ 1)) = false := by
                rw [Bool.eq_false_iff]
                intro h
                rw [List.all_eq_true] at h
                exact e (of_decide_eq_true (h y.1 (hpre.subset (List.mem_map.2 ⟨y, hy, rfl⟩))))
              rw [this, Bool.false_and]
            have HM : Hid (Mks w.heap.size W.heap.size W (D :: l)) := hM.cons hD (by omega) hK
            gi_wp2
            refine leaves_dfs (w0 := w) (D :: l) W HM.out (fun W' hb hcc => ?_)
            have g0 := hcc _ _ hc
            exact ⟨.bool false, by simp [results, Tryz.results50, go_sem, g0], by rw [HE.out], hB.trans hb⟩
        · have HE : Hid (q = true) := by
            rw [HJ.out, List.drop_of_length_le (by have := HLn.out; omega)]; exact rfl
          have c1 : wr.cell? ⟨K1, 0, none⟩ = some (.bool false) := HS.out.r.cell 0
          have z1 := HS.out.r.fz 0
          gi_wp2
          have HM : Mks w.heap.size wr.heap.size (wr.setCell ⟨K1, 0, none⟩ (.bool true)) l := HS.out.ms.set c1
          refine leaves_dfs (w0 := w) l _ HM (fun W' hb hcc => ?_)
          have g0 := hcc _ _ (World.cell?_setCell_same _ _ _ c1)
          exact ⟨.bool true, by simp [results, Tryz.results50, go_sem, g0], by rw [HE.out], (HS.out.bl.setCell (p := ⟨K1, 0, none⟩) HS.out.h1 _).trans hb⟩
end Go.Proofs.YtaphijgbebhdlaaGreatDoor.Grp
end

section
/- The set of keys, by the contracts of the map's operations. -/
namespace Go.Proofs.YtaphijgbebhdlaaGreatDoor.Grp
open Utf Rws Pln Flw
open Go.RowKit Go.Shelf Go.Maps
set_option linter.unusedSimpArgs false
set_option linter.unusedVariables false
set_option maxRecDepth 100000
set_option maxHeartbeats 4000000

theorem Tryz.laidG : laidOutB Tryz.prog = true := by kernel_rfl
theorem Tryz.rowK : (131 : TypeId) < Tryz.prog.types.size := of_decide_eq_true (by kernel_rfl)
theorem Tryz.wideK : (match Tryz.prog.underlying 131 with | some (.array _ _) | some (.struct _) => true | _ => false) = true := by kernel_rfl
theorem Tryz.lawK : WideMaps.KeyLaw Tryz.prog 131 := deep_law_laid Tryz.laidG (m := 3) (by omega) Tryz.rowK (by kernel_rfl) Tryz.wideK
theorem Tryz.keyedK : Keyed Tryz.prog 131 := Keyed.of_law Tryz.lawK
theorem Tryz.undSet : Tryz.prog.underlying 128 = some (.map 131 151) := by kernel_rfl
theorem Tryz.cellsK : Tryz.prog.cellsOf 131 = 2 := by kernel_rfl
theorem Tryz.keyTK : Tryz.prog.keyType 131 = true := by kernel_rfl
theorem Tryz.cellsI : Tryz.prog.cellsOf 3 = 1 := by kernel_rfl
theorem Tryz.cellsS : Tryz.prog.cellsOf 9 = 1 := by kernel_rfl
theorem Tryz.undI : Tryz.prog.underlying 3 = some (.int .i64) := by kernel_rfl
theorem Tryz.undS : Tryz.prog.underlying 9 = some .string := by kernel_rfl
theorem Tryz.undK0 : (match Tryz.prog.underlying 131 with | some (.struct fs) => fs.toList.map (fun f => (f.name != "_", f.type, f.offset)) | _ => []) = [(true, 3, 0), (true, 9, 1)] := by kernel_rfl
theorem undK : ∃ f0 f1, Tryz.prog.underlying 131 = some (.struct #[f0, f1]) ∧ (f0.name != "_") = true ∧ f0.type = 3 ∧ f0.offset = 0 ∧ (f1.name != "_") = true ∧ f1.type = 9 ∧ f1.offset = 1 := by
  have h := Tryz.undK0
  have hw := Tryz.wideK
  cases hu : Tryz.prog.underlying 131 with
  | none => rw [hu] at hw; cases hw
  | some d =>
    rw [hu] at h
    cases d with
    | struct fs =>
      simp only at h
      obtain ⟨l⟩ := fs
      match l, h with
      | [f0, f1], h =>
        simp only [List.map_cons, List.map_nil, List.cons.injEq, Prod.mk.injEq, and_true] at h
        exact ⟨f0, f1, rfl, h.1.1, h.1.2.1, h.1.2.2, h.2.1, h.2.2.1, h.2.2.2⟩
    | _ => simp at h
abbrev kv (p : Int × Ln) : Value := .agg #[.int .i64 p.1, .string (mk p.2)]
/-- what a key is told as -/
def klt (p : Int × Ln) : Lit := .string (keyBytes [.int .i64 p.1, .string p.2])
theorem keyOf_kv {p : Int × Ln} (h1 : i64 p.1) (h2 : p.2.length ≤ 9223372036854775807) : keyOf Tryz.prog 131 (kv p) = some (klt p) := by
  obtain ⟨f0, f1, hu, a0, a1, a2, b0, b1, b2⟩ := undK
  have hf : (kv p).formed Tryz.prog 131 = true := by simp [Value.formed, hu, Tryz.cellsK]
  have hwf : (Lit.int .i64 p.1).wf = true := by
    show (decide (IntKind.min .i64 ≤ p.1) && decide (p.1 ≤ IntKind.max .i64)) = true
    rw [Bool.and_eq_true, decide_eq_true_eq, decide_eq_true_eq]
    exact ⟨h1.1, h1.2⟩
  have hsz : (mk p.2).size ≤ maxLen := by rw [mk_size]; exact h2
  obtain ⟨d, hd⟩ : ∃ d, Tryz.prog.types.size + 1 = d + 1 + 1 := ⟨Tryz.prog.types.size - 1, by have : 131 < Tryz.prog.types.size := Tryz.rowK; omega⟩
  have hi : Tryz.prog.keyLits (d + 1) 3 [.int .i64 p.1] = some [.int .i64 p.1] := by unfold Program.keyLits; rw [Tryz.undI]; simp [hwf]
  have hs : Tryz.prog.keyLits (d + 1) 9 [.string (mk p.2)] = some [.string p.2] := by unfold Program.keyLits; rw [Tryz.undS]; simp [hsz, mk_data]
  have h : Tryz.prog.keyLits (d + 1 + 1) 131 [.int .i64 p.1, .string (mk p.2)] = some [.int .i64 p.1, .string p.2] := by
    unfold Program.keyLits
    simp only [hu, List.length_cons, List.length_nil, Tryz.cellsK]
    rw [if_pos ⟨trivial, by simp [a0, b0]⟩]
    simp only [List.mapM_cons, List.mapM_nil, a1, a2, b1, b2, Tryz.cellsI, Tryz.cellsS, List.drop_zero, List.drop_succ_cons, List.take_succ_cons, List.take_zero, hi, hs]
    rfl
  unfold keyOf
  rw [hu]
  simp only [Tryz.keyTK, hf, Bool.and_self, if_true]
  rw [hd]
  show (Tryz.prog.keyLits (d + 1 + 1) 131 [.int .i64 p.1, .string (mk p.2)]).map _ = _
  rw [h]
  rfl
abbrev okp (p : Int × Ln) : Prop := i64 p.1 ∧ p.2.length ≤ 9223372036854775807
theorem klt_inj {p q : Int × Ln} (hp : okp p) (hq : okp q) (e : klt p = klt q) : p = q := by
  have h := Tryz.keyedK.inj (keyOf_kv hp.1 hp.2) (by rw [e]; exact keyOf_kv hq.1 hq.2)
  simp only [kv, Value.agg.injEq, Array.mk.injEq, List.cons.injEq, Value.int.injEq, Value.string.injEq, and_true, true_and] at h
  exact Prod.ext h.1 (mk_inj h.2)
/-- a set in memory -/
def SetAt (w : World) (B : Nat) (ps : List (Int × Ln)) : Prop := w.ownsMap (H := Unit) Tryz.prog 131 unitElem B ps.length (setOf (.agg []) (ps.map klt)) ∧ ∀ p ∈ ps, okp p
theorem has_set {ps : List (Int × Ln)} {p : Int × Ln} (h : ∀ q ∈ ps, okp q) (hp : okp p) : has (setOf (H := Unit) (.agg []) (ps.map klt)) (klt p) = decide (p ∈ ps) := by
  rw [has_setOf _ _ _ (fun x hx => by obtain ⟨q, hq, rfl⟩ := List.mem_map.1 hx; exact Tryz.keyedK.key (keyOf_kv (h q hq).1 (h q hq).2)), Bool.eq_iff_iff, List.any_eq_true, decide_eq_true_eq]
  constructor
  · rintro ⟨x, hx, hs⟩
    obtain ⟨q, hq, rfl⟩ := List.mem_map.1 hx
    have := klt_inj (h q hq) hp (WideAt.sameKey_eq hs)
    rw [← this]
    exact hq
  · intro hm
    exact ⟨klt p, List.mem_map_of_mem hm, WideAt.sameKey_self (Tryz.keyedK.key (keyOf_kv hp.1 hp.2))⟩
theorem SetAt.kept {w w' : World} {B : Nat} {row : Option Nat} {ps : List (Int × Ln)} (h : SetAt w B ps) (hg : w.grownBy w' row) (hne : some B ≠ row) : SetAt w' B ps := ⟨h.1.kept hg hne, h.2⟩
theorem SetAt.later {w w' : World} {B : Nat} {ps : List (Int × Ln)} (h : SetAt w B ps) (hb : Below w.heap.size w w') : SetAt w' B ps := h.kept (row := none) ⟨hb.os, hb.tape, hb.output, hb.size, fun k hk _ => hb.block k hk⟩ (by simp)
theorem SetAt.new (w : World) : SetAt (w.alloc (.map #[] 0)) w.heap.size [] := ⟨World.ownsMap_made w _ _ _, fun p hp => absurd hp (by simp)⟩
theorem zeroU (w : World) : (zeroValue 151).run Tryz.prog w = .ok (.agg #[]) w := by kernel_rfl
theorem add_any {w : World} {B : Nat} {ps : List (Int × Ln)} {p : Int × Ln} (h : SetAt w B ps) (hp : okp p) (hr : ps.length < 9223372036854775807) :
    Calls Tryz.prog 72 #[.map (some B), kv p] w fun e w' => e = .returned (.bool (!decide (p ∈ ps))) ∧ SetAt w' B (ps ++ [p]) ∧ w.grownBy w' (some B) := by
  have HH : Hid (has (setOf (H := Unit) (.agg []) (ps.map klt)) (klt p) = decide (p ∈ ps)) := has_set h.2 hp
  have HS : Hid (setOf (H := Unit) (.agg []) ((ps ++ [p]).map klt) = (setOf (.agg []) (ps.map klt)).put (klt p) (.agg [])) := by
    show _ = _
    rw [List.map_append]
    exact setOf_snoc _ _ _
  have HO : Hid (∀ q ∈ ps ++ [p], okp q) := fun q hq => by
    rcases List.mem_append.1 hq with hq | hq
    · exact h.2 q hq
    · rw [List.mem_singleton.1 hq]; exact hp
  have hkey := keyOf_kv hp.1 hp.2
  obtain ⟨k, x⟩ := p
  have hown1 := h.1.alloc (.cells #[.int .i64 k, .string (mk x)] 131)
  have hsz : maxLen = 9223372036854775807 := rfl
  generalize decide ((k, x) ∈ ps) = q at *
  generalize setOf (H := Unit) (.agg []) (ps.map klt) = D at *
  clear h
  go_enter Tryz.func72, Tryz.ntmps72
  go_wp2_with (first | (at_lookup; refine wpList_lookup_own_unit _ rfl _ _ 128 rfl 131 151 Tryz.keyedK Tryz.undSet (zeroU _) B ps.length D rfl hown1 _ _ rfl hkey ?_) | (at_mapUpdate; refine wpList_mapUpdate_own _ rfl _ _ _ 128 rfl 131 151 Tryz.keyedK Tryz.undSet _ B ps.length D rfl (hown1.alloc _) (by omega) _ _ (klt (k, x)) rfl rfl hkey (.agg []) [] unitElem_mk ?_; intro w1 hown2 hgrow2))
  go_ret
  refine ⟨?_, ⟨?_, HO.out⟩, ((World.grownBy_alloc _ _ _).trans (World.grownBy_alloc _ _ _)).trans hgrow2⟩
  · rw [← HH.out]; rfl
  · rw [HS.out, List.length_append]; exact hown2
end Go.Proofs.YtaphijgbebhdlaaGreatDoor.Grp
end

section
/- A region whose operations come in any order: where all that is done ahead of a last one only reads, the places reached are walked once each. -/
namespace Go.Proofs.YtaphijgbebhdlaaGreatDoor.Grp
open Go
set_option linter.unusedSimpArgs false
set_option linter.unusedVariables false

/-- what was done so far leads on within St, each operation behind those of dp -/
def chk (ops : Array Oper) (N : Nat) (St : List (List Bool)) (fin : List Bool) (dp : List (List Nat)) : Bool :=
  decide (fin.count true < N) && St.all fun s => s.length == N && decide (s.count true ≤ fin.count true) && (s == fin || (!(Region.ready .any ops s.toArray).isEmpty && (Region.ready .any ops s.toArray).all fun i =>
    St.contains (s.set i true) && (s.set i true).count true == s.count true + 1 && (dp.getD i []).all (fun d => s.getD d false) && decide (i < dp.length)))
theorem any_walk {F : Fence} {n : Nat} {P : Program} {ops : Array Oper} {Q : Exit → Act → World → Prop} {N : Nat} {St : List (List Bool)} {fin : List Bool} {dp : List (List Nat)} (hc : chk ops N St fin dp = true) (w : World) (fr : List Bool → Act)
    (hS : ∀ s, s.length = N → ∀ i, i < dp.length → (∀ d ∈ dp.getD i [], s.getD d false = true) → ∀ K : Act → World → Prop, K (fr (s.set i true)) w → wpOpIn F n P ops Q i K (fr s) w)
    (hF : ∀ fuel, fuel + fin.count true = N → wpAnyIn F n P .any ops Q fuel fin.toArray (fr fin) w) :
    ∀ fuel s, s ∈ St → fuel + s.count true = N → wpAnyIn F n P .any ops Q fuel s.toArray (fr s) w := by
  unfold chk at hc
  rw [Bool.and_eq_true, decide_eq_true_eq, List.all_eq_true] at hc
  obtain ⟨hN, hc⟩ := hc
  intro fuel
  induction fuel with
  | zero =>
    intro s hs he
    have h := hc s hs
    rw [Bool.and_eq_true, Bool.and_eq_true, decide_eq_true_eq] at h
    omega
  | succ fuel ih =>
    intro s hs he
    have h := hc s hs
    rw [Bool.and_eq_true, Bool.and_eq_true, decide_eq_true_eq, Bool.or_eq_true, beq_iff_eq, beq_iff_eq] at h
    obtain ⟨⟨h1, h2⟩, h3⟩ := h
    rcases h3 with rfl | h3
    · exact hF _ he
    · rw [Bool.and_eq_true, List.all_eq_true] at h3
      obtain ⟨h4, h5⟩ := h3
      refine ⟨fun e => ?_, fun i hi => ?_⟩
      · rw [e] at h4; cases h4
      · have h6 := h5 i hi
        rw [Bool.and_eq_true, Bool.and_eq_true, Bool.and_eq_true, List.contains_iff_mem, beq_iff_eq, List.all_eq_true, decide_eq_true_eq] at h6
        obtain ⟨⟨⟨h7, h8⟩, h9⟩, h10⟩ := h6
        refine hS s h1 i h10 h9 _ ?_
        rw [List.setIfInBounds_toArray]
        exact ih _ h7 (by omega)
theorem wpOpIn_at {F : Fence} {n : Nat} {P : Program} {ops : Array Oper} {Q : Exit → Act → World → Prop} {i : Nat} {o : Oper} {K : Act → World → Prop} {a : Act} {w : World} (ho : ops[i]? = some o)
    (h : if Region.wanted o (yielded ops a.tmps) = true then o.wpIn F n P a w K Q else (∀ f, o.about P w a.eval = some f → F.fn f) ∧ K (a.put o.dst undef) w) : wpOpIn F n P ops Q i K a w := by
  unfold wpOpIn
  rw [ho]
  exact h
/-- a slot that is filled once its operation is done -/
def slt (b : Bool) (v : Value) : Value := if b = true then v else undef
theorem slt_t (v : Value) : slt true v = v := rfl
end Go.Proofs.YtaphijgbebhdlaaGreatDoor.Grp
end
