/- Several texts as one: GraphComp. -/
import Derived.Test.YtcplgjclkjcekaaGreatDoorYGraphPlc2
section
/- Package graph's Compose, by its contract. -/
namespace Go.Proofs.YtcplgjclkjcekaaGreatDoor.Grp
open Utf Rws Pln Flw
open Go.RowKit Go.Maps
set_option linter.unusedSimpArgs false
set_option linter.unusedVariables false
set_option maxRecDepth 100000
set_option maxHeartbeats 4000000

/-- a composer's nodes are a graph -/
theorem cms_grp {w0 W : World} {K M : Nat} {nv : Value} {l : List (Nd × Value)} {an : List (Ln × Nat)} (h : CmS w0 W K M nv l an) : ∃ ad len cap, nv = .slice ad len cap ∧ GrP (K + 1) W (gv ad len cap 0) ⟨l.map (·.1), 0⟩ := by
  obtain ⟨ad, cap, rfl, h1, h2⟩ := own_shapeN h.ow
  refine ⟨ad, l.length, cap, rfl, fun W' hs hk => ⟨ad, l.length, cap, rfl, h1, h2, ⟨(by decide : (-9223372036854775808 : Int) ≤ 0), (by decide : (0 : Int) ≤ 9223372036854775807)⟩, by rw [List.length_map], fun hp => ?_⟩⟩
  rcases h.ow.2 with ⟨_, h3⟩ | ⟨g, c, cur, e, hb, hh, _⟩
  · omega
  · cases e
    have hgl : g < W.heap.size := (Array.getElem?_eq_some_iff.1 hh).1
    have hkg := hk g hb hgl
    have hc : ∀ j, j < l.length * 3 → W'.cell? ⟨g, j, none⟩ = (ncs l)[j]? := fun j hj => (World.cell?_of_block (w := W) hkg).trans (h.ow.cellAt j hj)
    refine ⟨g, 0, rfl, by omega, fun i hi => ?_⟩
    have hli : l[i]? = some l[i] := List.getElem?_eq_getElem hi
    obtain ⟨k1, k2, kad, klen, kcap, k3, k4, k5, k6, k7⟩ := h.kk l[i] (List.getElem_mem hi)
    have hg : (l.map (·.1)).getD i nd0 = l[i].1 := by rw [List.getD_eq_getElem?_getD, List.getElem?_map, hli]; rfl
    obtain ⟨m1, m2, m3⟩ := ncs_get l i l[i] hli
    rw [hg]
    refine ⟨kad, klen, kcap, k4, k5, k1, k2, ⟨k6.1, fun hq => ?_⟩, ?_, ?_, ?_⟩
    · obtain ⟨b2, off2, e2, hlt, hcc⟩ := k6.2 hq
      have hbk := (k7 b2 off2 hq e2).1
      exact ⟨b2, off2, e2, by omega, fun j hj => ⟨(hcc j hj).1, (World.cell?_of_block (w := W) (hk b2 hbk hlt)).trans (hcc j hj).2⟩⟩
    · rw [Nat.zero_add, hc _ (by omega)]; exact m1
    · rw [Nat.zero_add, hc _ (by omega)]; exact m2
    · rw [Nat.zero_add, hc _ (by omega), m3, k3]
def cmR (d : Nat) (t : Tr) : Nat × Nat × Cs := plc d t ⟨[], []⟩
def cmOk (d : Nat) (t : Tr) : Bool := rgh d t && decide ((cmR d t).2.1 = 0)
def cmEr (d : Nat) (t : Tr) : Int := if rgh d t = true then ((cmR d t).2.1 : Int) else 1
/-- the boxes of a tree and of an answer -/
structure CoS (w W : World) (tc : Array Value) : Prop where
  g : Bx W w.heap.size tc 29
  r : Bx W (w.heap.size + 1) #[.slice none 0 0, .int .i64 0] 24
  bl : Below w.heap.size w W
theorem CoS.later {w W W' : World} {tc : Array Value} (h : CoS w W tc) (hb : Below W.heap.size W W') : CoS w W' tc := ⟨h.g.later hb, h.r.later hb, h.bl.trans (hb.mono h.bl.size)⟩
theorem CoS.new (w : World) (tc : Array Value) : CoS w ((w.alloc (.cells tc 29)).alloc (.cells #[.slice none 0 0, .int .i64 0] 24)) tc := by
  have b1 := below_alloc w (.cells tc 29)
  have s1 : (w.alloc (.cells tc 29)).heap.size = w.heap.size + 1 := World.size_alloc _ _
  have b2 := below_alloc (w.alloc (.cells tc 29)) (.cells #[.slice none 0 0, .int .i64 0] 24)
  have n2 := Bx.new (w.alloc (.cells tc 29)) #[.slice none 0 0, .int .i64 0] 24
  rw [s1] at n2
  exact ⟨(Bx.new w _ _).later b2, n2, b1.trans (b2.mono b1.size)⟩
/-- a composer begins -/
theorem cms_new {w W : World} {tc : Array Value} (h : CoS w W tc) : CmS w (((W.alloc (.map #[] 0)).alloc (.cells #[.slice none 0 0, .map (some W.heap.size)] 60))) (W.heap.size + 1) W.heap.size (.slice none 0 0) [] [] := by
  have b1 := below_alloc W (.map #[] 0)
  have s1 : (W.alloc (.map #[] 0)).heap.size = W.heap.size + 1 := World.size_alloc _ _
  have b2 := below_alloc (W.alloc (.map #[] 0)) (.cells #[.slice none 0 0, .map (some W.heap.size)] 60)
  have n2 := Bx.new (W.alloc (.map #[] 0)) #[.slice none 0 0, .map (some W.heap.size)] 60
  rw [s1] at n2
  have m1 : AncAt ((W.alloc (.map #[] 0)).alloc (.cells #[.slice none 0 0, .map (some W.heap.size)] 60)) W.heap.size [] := (World.ownsMap_made W Tryz.prog 9 (plainElem Tryz.prog 3)).alloc _
  exact ⟨n2, World.ownsRow_nil _ _ _ _, m1, fun p hp => absurd hp (by simp), h.bl.trans ((b1.trans (b2.mono b1.size)).mono h.bl.size), h.bl.size, by omega, fun q hq => absurd hq (by simp), Nat.le_refl _⟩
theorem compose_any {w : World} {d : Nat} {v : Value} {t : Tr} (hb : bri 2147483648 d t) (h : TrV w d v t) (hT : Tb w) (hz : tsz d t ≤ 1000000) : Calls Tryz.prog 11 #[v] w (GRes w (cmOk d t) (cmEr d t) ⟨(cmR d t).2.2.ns, 0⟩) := by
  obtain ⟨ad, len, cap, hv⟩ := h.open4
  obtain ⟨tc, htc⟩ : ∃ tc : Array Value, tc = #[.int .i64 t.kind, .string (mk t.text), .string (mk t.anc), .slice ad len cap] := ⟨_, rfl⟩
  have h0 := CoS.new w tc
  have HR : Hid (∀ w', Hid (CoS w w' tc) → Calls Tryz.prog 13 #[v] w' fun e w'' => e = .returned (.bool (rgh d t)) ∧ Hid (CoS w w'' tc)) :=
    fun w' h' => (right_big hb (h.later h'.out.bl (Nat.le_refl _)) (hT.later h'.out.bl)).mono (fun e w'' q => ⟨q.1, h'.out.later q.2⟩)
  subst hv
  have HV : Hid (TrV w d (tv t.kind t.text t.anc ad len cap) t) := h
  cases hq : rgh d t
  · have HE : Hid (cmOk d t = false ∧ cmEr d t = 1) := ⟨by unfold cmOk; rw [hq]; rfl, by unfold cmEr; rw [hq]; rfl⟩
    rw [hq] at HR
    clear h
    subst htc
    go_enter Tryz.func11, Tryz.ntmps11
    go_wp2_with fail
    generalize (w.alloc (.cells #[.int .i64 t.kind, .string (mk t.text), .string (mk t.anc), .slice ad len cap] 29)).alloc (.cells #[.slice none 0 0, .int .i64 0] 24) = W0 at h0 ⊢
    refine (HR.out _ h0).mono ?_
    rintro e w1 ⟨rfl, H1⟩
    obtain ⟨c0, c1⟩ := H1.out.r.c2
    have z0 := H1.out.r.fz 0
    have z1 := H1.out.r.fz 1
    have HB : Hid (_ ∧ _) := ⟨(H1.out.r.set 0 (.slice none 0 0)).set 1 (.int .i64 0), (H1.out.bl.setCell (p := ⟨w.heap.size + 1, 0, none⟩) (by show w.heap.size ≤ w.heap.size + 1; omega) (.slice none 0 0)).setCell (p := ⟨w.heap.size + 1, 1, none⟩) (by show w.heap.size ≤ w.heap.size + 1; omega) (.int .i64 0)⟩
    clear H1 h0 HR hT HV
    go_wp2
    generalize (w1.setCell ⟨w.heap.size + 1, 0, none⟩ (.slice none 0 0)).setCell ⟨w.heap.size + 1, 1, none⟩ (.int .i64 0) = W9 at HB ⊢
    have g0 : W9.cell? ⟨w.heap.size + 1, 0, none⟩ = some (.slice none 0 0) := HB.out.1.cell 0
    have g1 : W9.cell? ⟨w.heap.size + 1, 1, none⟩ = some (.int .i64 0) := HB.out.1.cell 1
    refine bodyPost_ret (v := .tuple #[gv none 0 0 0, .int .i64 1]) (by simp [results, Tryz.results11, go_sem, g0, g1]) rfl ?_
    exact ⟨by rw [HE.out.1, HE.out.2, if_neg (by decide)], HB.out.2⟩
  · rw [hq] at HR
    clear h
    obtain ⟨R, HRR⟩ : ∃ R, Hid (R = cmR d t) := ⟨_, rfl⟩
    have HP : Hid (∀ W, Hid (CoS w W tc) → Calls Tryz.prog 25 #[.pointer (some ⟨W.heap.size + 1, 0, none⟩), tv t.kind t.text t.anc ad len cap] ((W.alloc (.map #[] 0)).alloc (.cells #[.slice none 0 0, .map (some W.heap.size)] 60)) fun e W' => ∃ na nl nc, e = .returned (.tuple #[.int .i64 (R.1 : Int), .int .i64 (R.2.1 : Int)]) ∧ Hid (GrP (W.heap.size + 1 + 1) W' (gv na nl nc 0) ⟨R.2.2.ns, 0⟩) ∧ R.2.1 ≤ 100 ∧ W'.cell? ⟨W.heap.size + 1, 0, none⟩ = some (.slice na nl nc) ∧ Hid (CoS w W' tc) ∧ W.heap.size + 1 < W'.heap.size) := fun W hW => by
      have hc := cms_new hW.out
      have b1 := below_alloc W (.map #[] 0)
      have b2 := below_alloc (W.alloc (.map #[] 0)) (.cells #[.slice none 0 0, .map (some W.heap.size)] 60)
      have b3 : Below W.heap.size W _ := b1.trans (b2.mono b1.size)
      refine (place_any w (W.heap.size + 1) W.heap.size d _ t _ _ [] [] HV.out hc (by simpa using hz)).mono ?_
      rintro e W' ⟨rfl, q1, q2, nv', l', hC, hN, hCh, _, _⟩
      obtain ⟨na, nl, nc, rfl, hg⟩ := cms_grp hC
      have e1 : R = plc d t ⟨([] : List (Nd × Value)).map (·.1), []⟩ := HRR.out
      rw [hN] at hg
      rw [e1]
      have hsz := hW.out.r.lt
      have hch2 : ∀ k, k < W.heap.size → W'.heap[k]? = W.heap[k]? := fun k hk => (hCh.bk k (Nat.lt_of_lt_of_le hk b3.size) (by omega) (by omega) (by simp [Value.ownBlock])).trans (b3.block k hk)
      exact ⟨na, nl, nc, rfl, hg, q2, hC.bx.cell 0, ⟨(hch2 _ hW.out.g.lt).trans hW.out.g, (hch2 _ hW.out.r.lt).trans hW.out.r, hC.bl⟩, hC.bx.lt⟩
    have hmm := @run_makeMap Tryz.prog
    subst htc
    clear hb hT hz HV
    go_enter Tryz.func11, Tryz.ntmps11
    go_wp2_with fail
    generalize (w.alloc (.cells #[.int .i64 t.kind, .string (mk t.text), .string (mk t.anc), .slice ad len cap] 29)).alloc (.cells #[.slice none 0 0, .int .i64 0] 24) = W0 at h0 ⊢
    refine (HR.out _ h0).mono ?_
    rintro e w1 ⟨rfl, H1⟩
    go_upto_region 4 with fail
    have HPW : Hid (Calls Tryz.prog 25 _ _ _) := HP.out w1 H1
    have b1 := below_alloc w1 (.map #[] 0)
    have b2 := below_alloc (w1.alloc (.map #[] 0)) (.cells #[.slice none 0 0, .map (some w1.heap.size)] 60)
    obtain ⟨d0, d1, d2, d3⟩ := (H1.out.later (b1.trans (b2.mono b1.size))).g.c4
    have hlt1 : w.heap.size + 1 < w1.heap.size := H1.out.r.lt
    clear hmm b1 b2 HP HR h0
    generalize (w1.alloc (.map #[] 0)).alloc (.cells #[.slice none 0 0, .map (some w1.heap.size)] 60) = W2 at HPW d0 d1 d2 d3 ⊢
    go_upto_region 5 with (go_at_call 25; refine HPW.out.mono ?_; rintro e w3 ⟨na, nl, nc, rfl, H4, her, y0, H5, hlt3⟩)
    obtain ⟨c0, c1⟩ := H5.out.r.c2
    have z0 := H5.out.r.fz 0
    have z1 := H5.out.r.fz 1
    clear d0 d1 d2 d3 HPW
    by_cases he : R.2.1 = 0
    · have HE : Hid (cmOk d t = true) := by show _ = _; unfold cmOk; rw [hq, ← HRR.out, he]; rfl
      have he' : ((R.2.1 : Int) != 0) = false := by rw [he]; rfl
      have HR2 : Hid ((cmR d t).2.2.ns = R.2.2.ns) := by rw [HRR.out]; exact rfl
      have HB : Hid (_ ∧ _ ∧ _) := ⟨(H5.out.r.set 0 (.slice na nl nc)).set 1 (.int .i64 0), (H5.out.bl.setCell (p := ⟨w.heap.size + 1, 0, none⟩) (by show w.heap.size ≤ w.heap.size + 1; omega) (.slice na nl nc)).setCell (p := ⟨w.heap.size + 1, 1, none⟩) (by show w.heap.size ≤ w.heap.size + 1; omega) (.int .i64 0), (H4.out.set (i := 0) (u := .slice na nl nc) (K := w.heap.size + 1) (by omega)).set (i := 1) (u := .int .i64 0) (K := w.heap.size + 1) (by omega)⟩
      have HEE : Hid (R.2.1 = 0) := he
      clear he
      go_wp2
      generalize (w3.setCell ⟨w.heap.size + 1, 0, none⟩ (.slice na nl nc)).setCell ⟨w.heap.size + 1, 1, none⟩ (.int .i64 0) = W9 at HB ⊢
      have g0 : W9.cell? ⟨w.heap.size + 1, 0, none⟩ = some (.slice na nl nc) := HB.out.1.cell 0
      have g1 : W9.cell? ⟨w.heap.size + 1, 1, none⟩ = some (.int .i64 0) := HB.out.1.cell 1
      refine bodyPost_ret (v := .tuple #[gv na nl nc 0, .int .i64 0]) (by simp [results, Tryz.results11, go_sem, g0, g1]) rfl ?_
      exact ⟨by rw [HE.out, if_pos rfl, HR2.out]; exact ⟨_, rfl, HB.out.2.2.mono (by omega)⟩, HB.out.2.1⟩
    · have HE : Hid (cmOk d t = false ∧ cmEr d t = (R.2.1 : Int)) := ⟨by unfold cmOk; rw [hq, ← HRR.out]; simp [he], by unfold cmEr; rw [hq, if_pos rfl, ← HRR.out]⟩
      have he' : ((R.2.1 : Int) != 0) = true := by simp; omega
      have HB : Hid (_ ∧ _) := ⟨(H5.out.r.set 0 (.slice none 0 0)).set 1 (.int .i64 0), (H5.out.bl.setCell (p := ⟨w.heap.size + 1, 0, none⟩) (by show w.heap.size ≤ w.heap.size + 1; omega) (.slice none 0 0)).setCell (p := ⟨w.heap.size + 1, 1, none⟩) (by show w.heap.size ≤ w.heap.size + 1; omega) (.int .i64 0)⟩
      go_wp2
      generalize (w3.setCell ⟨w.heap.size + 1, 0, none⟩ (.slice none 0 0)).setCell ⟨w.heap.size + 1, 1, none⟩ (.int .i64 0) = W9 at HB ⊢
      have g0 : W9.cell? ⟨w.heap.size + 1, 0, none⟩ = some (.slice none 0 0) := HB.out.1.cell 0
      have g1 : W9.cell? ⟨w.heap.size + 1, 1, none⟩ = some (.int .i64 0) := HB.out.1.cell 1
      refine bodyPost_ret (v := .tuple #[gv none 0 0 0, .int .i64 (R.2.1 : Int)]) (by simp [results, Tryz.results11, go_sem, g0, g1]) rfl ?_
      exact ⟨by rw [HE.out.1, HE.out.2, if_neg (by decide)], HB.out.2⟩
end Go.Proofs.YtcplgjclkjcekaaGreatDoor.Grp
end
