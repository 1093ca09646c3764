/- Scan: the frames in a row. -/
import Derived.Test.YthmoapigjafijaaFrameIter
namespace Go.Proofs.Ythmoapigjafijaa.Frm
open Go.RowKit Crc
set_option linter.unusedSimpArgs false
set_option linter.unusedVariables false
set_option maxRecDepth 100000
attribute [local go_sem] Oper.semAt_some

def ScanRes (w : World) (l : List UInt8) (s : Int) (e : Ending) (w' : World) : Prop :=
  ∃ v xs, e = .returned (.tuple #[v, .int .i64 (wdF xs)]) ∧ xs.map Fr.sd = scz l s ∧ w'.ownsRow w.heap.size 28 2 v xs.length (cellsF xs) ∧ (∀ x ∈ xs, dat w.heap.size w' x) ∧ Below w.heap.size w w'
theorem wdF_ge (l : List Fr) : 20 * l.length ≤ wdF l := by
  unfold wdF
  induction l with
  | nil => simp [wid]
  | cons x r ih =>
    show 20 * (r.length + 1) ≤ 20 + x.d.length + wid (r.map Fr.sd)
    omega
theorem infoFrame : (Try.prog.info? 28).map (fun i => (i.zero, i.size, i.bytes)) = some (some (.agg #[.int .i64 0, .slice none 0 0]), 2, 32) := by kernel_rfl

theorem cf_frames (args : Array Value) (w : World) : (callFunc 30 args).run Try.prog w = .ok (.enter 30 args) w := by
  simp only [callFunc]
  simp [Try.func30]
  rw [if_neg (by decide +kernel), if_neg (by decide +kernel)]
theorem below_put {B : Nat} {w W : World} (h : Below B w W) {k : Nat} (hk : B ≤ k) (o : Obj) : Below B w (W.putObj k o) := ⟨h.os, h.tape, h.output, by have := h.size; simpa [World.putObj] using this, fun i hi => by rw [World.putObj_heap_other (by omega)]; exact h.block i hi⟩
theorem ia_abide (w : World) (l : List UInt8) (s : Int) (Rn Ln B D : Nat) (hD : w.heap.size ≤ D) (pre : List Fr) : Abide D (Ia w l s Rn Ln B pre) := by
  intro W k o o' h hk ho hc
  obtain ⟨h1, h2, h3⟩ := h
  exact ⟨h1.cks (Cks.put ho hc) (by simp), h2.cks (Cks.put ho hc) (fun k e => by cases e), below_put h3 (by omega) _⟩
theorem ib_abide (w : World) (l : List UInt8) (s : Int) (Rn Ln B D : Nat) (hD : w.heap.size ≤ D) (pre : List Fr) (x : Fr) : Abide D (Ib w l s Rn Ln B pre x) := by
  intro W k o o' h hk ho hc
  obtain ⟨h1, h2, h3, h4⟩ := h
  exact ⟨h1.cks (Cks.put ho hc) (by simp), h2.cks (Cks.put ho hc) (fun k e => by cases e), h3.cks (Cks.put ho hc) (fun k e => by cases e), below_put h4 (by omega) _⟩
/-- at a round's body: the frame lies in a variable of its own -/
def Ic (w : World) (l : List UInt8) (s : Int) (Rn Ln B : Nat) (ac : Nat → Fr → Act) (pre : List Fr) (x : Fr) (a' : Act) (W : World) : Prop :=
  Ib w l s Rn Ln B pre x W ∧ ∃ fb, Row W fb 28 [.int .i64 x.s, .slice (some ⟨x.g, 0, none⟩) x.d.length x.c] ∧ a' = ac fb x
theorem ic_abide (w : World) (l : List UInt8) (s : Int) (Rn Ln B D : Nat) (ac : Nat → Fr → Act) (hD : w.heap.size ≤ D) (pre : List Fr) (x : Fr) (a' : Act) : Abide D (Ic w l s Rn Ln B ac pre x a') := by
  intro W k o o' h hk ho hc
  obtain ⟨h1, fb, h2, h3⟩ := h
  exact ⟨ib_abide w l s Rn Ln B D hD pre x W k o o' h1 hk ho hc, fb, h2.cks (Cks.put ho hc) (by simp), h3⟩
theorem cells2 (w : World) (a b : Value) (t : TypeId) : ∀ j u, ([a, b])[j]? = some u → (w.alloc (.cells #[a, b] t)).cell? ((⟨w.heap.size, 0, none⟩ : Addr).add j) = some u := by
  intro j u hj
  rw [Addr.add_mid, Nat.zero_add, (Row.mk w [a, b] t).cell]
  exact hj
theorem own_block {W : World} {B : Nat} {e : TypeId} {k n : Nat} {v : Value} {xs : List Value} (h : W.ownsRow B e k v n xs) (g : Nat) (hg : v.ownBlock = some g) : B ≤ g ∧ ∃ cur, Row W g e cur := by
  rcases h.2 with ⟨rfl, _⟩ | ⟨g', cap, cur, rfl, hB, hh, _⟩
  · cases hg
  · cases hg
    exact ⟨hB, cur.toList, by unfold Row; simpa using hh⟩
/-- what an append of a frame leaves -/
theorem appended {w W w3 : World} {l : List UInt8} {s : Int} {Rn Ln B : Nat} {pre : List Fr} {x : Fr} {v v' : Value} {o : Obj} (hB : B ≤ w.heap.size) (hLn : w.heap.size ≤ Ln)
    (hR : RunAt w l s Rn W (pre ++ [x])) (hRn : ∃ cs, Row W Rn 66 cs) (hv : Row W Ln 38 [v]) (hown : W.ownsRow B 28 2 v pre.length (cellsF pre)) (hd : ∀ y ∈ pre, dat B W y) (hx : dat B W x) (hb : Below w.heap.size w W) (hBw : w.heap.size ≤ B)
    (hown' : w3.ownsRow B 28 2 v' (pre.length + 1) (cellsF pre ++ [.int .i64 x.s, .slice (some ⟨x.g, 0, none⟩) x.d.length x.c])) (hgrow : (W.alloc o).grownBy w3 v.ownBlock) :
    Row w3 Ln 38 [v] ∧ KeepsOthers W (w3.setCell ⟨Ln, 0, none⟩ v') ∧ Ia w l s Rn Ln B (pre ++ [x]) (w3.setCell ⟨Ln, 0, none⟩ v') := by
  have hA : Cks none W (W.alloc o) := Cks.of_below ((Below.refl _ W).alloc (Nat.le_refl _) o)
  have hG : Cks v.ownBlock (W.alloc o) w3 := Cks.of_grown hgrow
  have hC : Cks v.ownBlock W w3 := hA.weak.trans hG
  have hob : ∀ k, v.ownBlock = some k → ∃ cs, Row W k 28 cs := fun k e => (own_block hown k e).2
  obtain ⟨cs, hRn⟩ := hRn
  have n1 : some Rn ≠ v.ownBlock := fun e => by obtain ⟨c, hc⟩ := hob Rn e.symm; exact hRn.ne hc (by decide) rfl
  have n2 : some Ln ≠ v.ownBlock := fun e => by obtain ⟨c, hc⟩ := hob Ln e.symm; exact hv.ne hc (by decide) rfl
  have hv3 := hv.cks hC n2
  have hR3 := hR.cks hC n1
  have hd3 : ∀ y, dat B W y → dat B w3 y := fun y hy => hy.cks hC (fun k e => by obtain ⟨c, hc⟩ := hob k e; exact ⟨_, c, by decide, hc⟩)
  have hS : Cks (some Ln) w3 (w3.setCell ⟨Ln, 0, none⟩ v') := Cks.set w3 ⟨Ln, 0, none⟩ v'
  have hb3 : Below w.heap.size w w3 := (hb.alloc hb.size o).grown hgrow (by have := hb.size; simp; omega) (fun k hk => Nat.le_trans hBw (own_block hown k hk).1)
  have hRn3 := hRn.cks hC n1
  refine ⟨hv3, ?_, hR3.cks hS (hRn3.ne hv3 (by decide)), ?_, hb3.setCell (p := ⟨Ln, 0, none⟩) hLn v'⟩
  · refine ((KeepsOthers.alloc W o).trans (KeepsOthers.of_grownBy hgrow ?_)).trans (KeepsOthers.setCell _ _ _)
    intro j o' e ho
    obtain ⟨c, hc⟩ := hob j e
    have := hc.cks hA (by simp)
    unfold Row at this
    rw [this] at ho
    cases ho
    rfl
  · refine ⟨v', ?_, ?_, ?_⟩
    · exact hv3.set 0 v'
    · rw [cellsF_app, List.length_append]
      obtain ⟨h1, h2⟩ := hown'
      refine ⟨h1, ?_⟩
      rcases h2 with ⟨_, h0⟩ | ⟨g, cap, cur, e1, e2, e3, e4⟩
      · omega
      · refine .inr ⟨g, cap, cur, e1, e2, hS g _ _ ?_ e3, e4⟩
        intro e
        cases e
        unfold Row at hv3
        rw [hv3] at e3
        cases e3
    · intro y hy
      have hy3 : dat B w3 y := by
        rcases List.mem_append.1 hy with h | h
        · exact hd3 y (hd y h)
        · rw [List.mem_singleton.1 h]; exact hd3 x hx
      exact hy3.cks hS (fun k e => by cases e; exact ⟨_, _, by decide, hv3⟩)

set_option maxHeartbeats 2000000 in
theorem scan_any (a : Option Addr) (len cap : Nat) (l : List UInt8) (s : Int) (w : World) (hl : Bys w a len l) (hlc : len ≤ cap) (hcm : cap ≤ maxLen) (hlen : len ≤ 87960930222080) (hs : (Lit.int .i64 s).wf = true) :
    Calls Try.prog 15 #[.slice a len cap, .int .i64 s] w fun e w' => ScanRes w l s e w' := by
  refine (callsIn_wide (n := 4)).1 ?_
  have HL : Hid (len = l.length) := hl.1
  have HBy : Hid (Bys w a len l) := hl
  have HLC : Hid (len ≤ cap) := hlc
  have HCM : Hid (cap ≤ maxLen) := hcm
  have HS : Hid ((Lit.int .i64 s).wf = true) := hs
  clear hl hlc hcm
  obtain ⟨i0, hi, hz0, hz1, hz2⟩ := info_parts infoFrame
  refine callsIn_of_wp_marks Try.func15 rfl trivial ?_ rfl
  simp only [Try.ntmps15, List.size_toArray, List.length_cons, List.length_nil, Nat.reduceAdd, Nat.reduceSub, Array.replicate_succ, Array.replicate_zero, List.push_toArray, List.append_toArray, List.nil_append, List.cons_append]
  gi_wp2
  obtain ⟨W0, hW0⟩ : ∃ W0, (w.alloc (.cells #[.slice a len cap, .int .i64 s, .int .i64 0] 66)).alloc (.cells #[.slice none 0 0] 38) = W0 := ⟨_, rfl⟩
  rw [hW0]
  have hS0 : W0.heap.size = w.heap.size + 1 + 1 := by rw [← hW0]; simp
  have hB0 : Below w.heap.size w W0 := by
    rw [← hW0]; exact ((Below.refl _ w).alloc (Nat.le_refl _) _).alloc (by simp) _
  have hR0 : Row W0 w.heap.size 66 [.slice a len cap, .int .i64 s, .int .i64 0] := by
    rw [← hW0]; exact (Row.mk w [.slice a len cap, .int .i64 s, .int .i64 0] _).old _
  have hL0 : Row W0 (w.heap.size + 1) 38 [.slice none 0 0] := by
    rw [← hW0]
    have h := Row.mk (w.alloc (.cells #[.slice a len cap, .int .i64 s, .int .i64 0] 66)) [.slice none 0 0] 38
    rw [size_alloc] at h
    exact h
  clear hW0
  refine range_go (F := Fence.wide) (S := fun xs => xs.map Fr.sd = scz l s) (encs := encF) rfl (by decide) (gf := 30) (ob := #[.pointer (some ⟨w.heap.size, 0, none⟩)]) rfl trivial cf_frames (fun _ => rfl)
    (Ia w l s w.heap.size (w.heap.size + 1) w.heap.size) (Ib w l s w.heap.size (w.heap.size + 1) w.heap.size)
    (Ic w l s w.heap.size (w.heap.size + 1) w.heap.size fun fb x => { tmps := #[.slice a len cap, .int .i64 s, undef, undef, .slice none 0 0, .int .i64 0, .pointer (some ⟨w.heap.size, 0, none⟩), .pointer (some ⟨w.heap.size + 1, 0, none⟩), .pointer (some ⟨fb, 0, none⟩), .slice a len cap, .int .i64 s, .agg #[.slice a len cap, .int .i64 s, .int .i64 0], .func (.func 30) #[.pointer (some ⟨w.heap.size, 0, none⟩)] #[], .agg #[.int .i64 x.s, .slice (some ⟨x.g, 0, none⟩) x.d.length x.c], undef, undef, undef, undef, undef, undef, undef], defers := [] })
    (fun pre => ia_abide _ _ _ _ _ _ _ (by omega) pre) (fun pre x a' => ic_abide _ _ _ _ _ _ _ _ (by omega) pre x a') ?start ?assign ?body ?iter ?done
  case start =>
    intro o o'
    have hk : Cks none W0 ((W0.alloc o).alloc o') := Cks.of_below (((Below.refl _ W0).alloc (Nat.le_refl _) o).alloc (by simp) o')
    refine ⟨⟨a, len, cap, ?_, ?_, HLC.out, HCM.out, ?_, Nat.zero_le _, fun h => absurd rfl h⟩, ⟨.slice none 0 0, hL0.cks hk (by simp), World.ownsRow_nil _ _ _ _, fun x hx => by cases hx⟩, (hB0.alloc hB0.size o).alloc (by have := hB0.size; simp; omega) o'⟩
    · have h := hR0.cks hk (by simp)
      simpa [wdF, wid] using h
    · exact HBy.out
    · simp [wdF, wid]
  case assign =>
    intro l' pre x W K hib hK
    have HK : Hid (∀ a' W', KeepsOthers W W' → Ic w l s w.heap.size (w.heap.size + 1) w.heap.size (fun fb x => { tmps := #[.slice a len cap, .int .i64 s, undef, undef, .slice none 0 0, .int .i64 0, .pointer (some ⟨w.heap.size, 0, none⟩), .pointer (some ⟨w.heap.size + 1, 0, none⟩), .pointer (some ⟨fb, 0, none⟩), .slice a len cap, .int .i64 s, .agg #[.slice a len cap, .int .i64 s, .int .i64 0], .func (.func 30) #[.pointer (some ⟨w.heap.size, 0, none⟩)] #[], .agg #[.int .i64 x.s, .slice (some ⟨x.g, 0, none⟩) x.d.length x.c], undef, undef, undef, undef, undef, undef, undef], defers := [] }) pre x a' W' → K a' W') := hK
    clear hK
    unfold encF
    gi_wp2
    refine HK.out _ _ (KeepsOthers.alloc _ _) ⟨?_, W.heap.size, Row.mk W [.int .i64 x.s, .slice (some ⟨x.g, 0, none⟩) x.d.length x.c] _, rfl⟩
    obtain ⟨h1, h2, h3, h4⟩ := hib
    have hk : ∀ o, Cks none W (W.alloc o) := fun o => Cks.of_below ((Below.refl _ W).alloc (Nat.le_refl _) o)
    exact ⟨h1.cks (hk _) (by simp), h2.cks (hk _) (fun k e => by cases e), h3.cks (hk _) (fun k e => by cases e), h4.alloc h4.size _⟩
  case body =>
    rintro l' pre x a' W ⟨⟨hR, ⟨v, hv, hown, hd⟩, hx, hb⟩, fb, hf, rfl⟩
    have hwd : 20 * (pre.length + 1) ≤ len := by
      obtain ⟨_, _, _, _, _, _, _, _, hw, _⟩ := hR
      have h1 := wdF_ge (pre ++ [x])
      rw [List.length_append] at h1
      have h2 := HL.out
      simp at h1
      omega
    have HR : Hid (RunAt w l s w.heap.size W (pre ++ [x])) := hR
    have HV : Hid (Row W (w.heap.size + 1) 38 [v]) := hv
    have HO : Hid (W.ownsRow w.heap.size 28 2 v pre.length (cellsF pre)) := hown
    have HD : Hid (∀ y ∈ pre, dat w.heap.size W y) := hd
    have HX : Hid (dat w.heap.size W x) := hx
    have HB : Hid (Below w.heap.size w W) := hb
    have HRn : Hid (∃ cs, Row W w.heap.size 66 cs) := by obtain ⟨_, _, _, h, _⟩ := hR; exact ⟨_, h⟩
    have hc : W.cell? ⟨w.heap.size + 1, 0, none⟩ = some v := by rw [hv.cell]; rfl
    have hf0 : W.cell? ⟨fb, 0, none⟩ = some (.int .i64 x.s) := by rw [hf.cell]; rfl
    have hf1 : W.cell? ⟨fb, 1, none⟩ = some (.slice (some ⟨x.g, 0, none⟩) x.d.length x.c) := by rw [hf.cell]; rfl
    have hbs := hb.size
    have HN : Hid (Cks none W (W.alloc (.cells #[.int .i64 x.s, .slice (some ⟨x.g, 0, none⟩) x.d.length x.c] 28))) := Cks.of_below ((Below.refl _ W).alloc (Nat.le_refl _) _)
    clear hR hv hown hd hx hb hf
    gi_wp2_with (gi_at_builtin; refine wpListIn_append_own _ rfl _ _ 38 rfl w.heap.size 28 i0 (.agg #[.int .i64 0, .slice none 0 0]) 2 32 Try.underlying38 hi hz0 hz1 hz2 rfl (by decide) _ _ _ rfl (HO.out.alloc _) ⟨W.heap.size, 0, none⟩ 1 1 [.int .i64 x.s, .slice (some ⟨x.g, 0, none⟩) x.d.length x.c] rfl rfl (cells2 _ _ _ _) (by intro u hu; rcases List.mem_cons.1 hu with h | h; (rw [h]; rfl); (rw [List.mem_singleton.1 h]; rfl)) (by unfold maxLen; omega) (by omega) (by simp; omega) ?_; intro v' w3 hown' hgrow _; obtain ⟨g', cap', rfl⟩ := ownsRow_succ hown'; obtain ⟨hv3, hk3, hia3⟩ := appended (Nat.le_refl _) (by omega) HR.out HRn.out HV.out HO.out HD.out HX.out HB.out (Nat.le_refl _) hown' hgrow; have hcv := hv3.cell 0; rw [show ([v] : List Value)[0]? = some v from rfl] at hcv; have hcf := hv3.free 0; clear hv3)
  case iter =>
    intro lp bk W1 hbk hY h0 hb
    exact frames_in 3 (by decide) w l s HS.out w.heap.size (w.heap.size + 1) w.heap.size (Nat.le_refl _) (Nat.le_refl _) (by rw [← HL.out]; omega) lp bk W1 hbk hY h0 hb
  case done =>
    rintro D xs W hD hS ⟨⟨ra, rl, rc, hR, _⟩, ⟨v, hv, hown, hd⟩, hb⟩ hK
    have hcv : W.cell? ⟨w.heap.size + 1, 0, none⟩ = some v := by rw [hv.cell]; rfl
    have hcr : W.cell? ⟨w.heap.size, 2, none⟩ = some (.int .i64 (wdF xs)) := by rw [hR.cell]; rfl
    have HO : Hid (W.ownsRow w.heap.size 28 2 v xs.length (cellsF xs)) := hown
    have HD : Hid (∀ y ∈ xs, dat w.heap.size W y) := hd
    have HB : Hid (Below w.heap.size w W) := hb
    have HS2 : Hid (xs.map Fr.sd = scz l s) := hS
    clear hR hv hown hd hb hS
    gi_wp2
    refine wpIn_wide.2 ?_
    go_quiet (fail)
    go_wp2
    gi_wp2
    have hK' : (W.drewN nq).heap[D]? = some (.deferred (some [])) := hK
    have hO' : (W.drewN nq).ownsRow w.heap.size 28 2 v xs.length (cellsF xs) := HO.out
    have hD' : ∀ y ∈ xs, dat w.heap.size (W.drewN nq) y := HD.out
    have hB' : Below w.heap.size w (W.drewN nq) := below_drewN HB.out nq
    refine ⟨by simp, .inl ⟨_, _, rfl, run_takeDeferred hK', ?_⟩⟩
    refine ⟨_, results_tmp2 rfl _ _ _, v, xs, rfl, HS2.out, ownsRow_putObj hO' _ hK' rfl, fun y hy => (hD' y hy).cks (Cks.put hK' rfl) (fun k e => by cases e), below_put hB' (by omega) _⟩

end Go.Proofs.Ythmoapigjafijaa.Frm
