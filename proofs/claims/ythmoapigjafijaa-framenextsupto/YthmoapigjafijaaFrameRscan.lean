/- The reference's Scan. -/
import Derived.Test.YthmoapigjafijaaFrameRnext2
import Derived.Test.YthmoapigjafijaaFrameScan0
import Derived.OpenShut
import Derived.ProofKit
namespace Go.Proofs.Ythmoapigjafijaa.Frm
open Go.ChangeShapes Go.WideShapes Go.ChangeAt Go.RowKit Crc
set_option linter.unusedSimpArgs false
set_option linter.unusedVariables false

/-- a frame in memory: its number, and where its bytes lie -/
structure Gr where
  s : Nat
  a : Option Addr
  c : Nat
  d : List UInt8
def Gr.sd (x : Gr) : Nat × List UInt8 := (x.s, x.d)
def cellsG : List Gr → List Value
  | [] => []
  | x :: r => .int .i64 x.s :: .slice x.a x.d.length x.c :: cellsG r
theorem cellsG_app (a b : List Gr) : cellsG (a ++ b) = cellsG a ++ cellsG b := by
  induction a with
  | nil => rfl
  | cons x r ih => rw [List.cons_append, cellsG, cellsG, ih]; rfl
theorem cellsG_at (xs : List Gr) (i : Nat) (y : Gr) (h : xs[i]? = some y) : (cellsG xs)[i * 2]? = some (.int .i64 y.s) ∧ (cellsG xs)[i * 2 + 1]? = some (.slice y.a y.d.length y.c) := by
  induction xs generalizing i with
  | nil => simp at h
  | cons x r ih =>
    cases i with
    | zero => cases h; exact ⟨rfl, rfl⟩
    | succ i =>
      have := ih i (by simpa using h)
      simp only [cellsG]
      rw [show (i + 1) * 2 = i * 2 + 1 + 1 by omega]
      exact this
/-- a list of frames in memory -/
def GAt (w : World) (a : Option Addr) (n : Nat) (gs : List Gr) : Prop :=
  n = gs.length ∧ (0 < n → ∃ g, a = some ⟨g, 0, none⟩ ∧ g < w.heap.size ∧ ∀ (i : Nat) (y : Gr), gs[i]? = some y → w.cell? ⟨g, i * 2, none⟩ = some (.int .i64 y.s) ∧ w.cell? ⟨g, i * 2 + 1, none⟩ = some (.slice y.a y.d.length y.c)) ∧ ∀ y ∈ gs, Bys w y.a y.d.length y.d
theorem GAt.later {w w' : World} {a : Option Addr} {n : Nat} {gs : List Gr} (h : GAt w a n gs) (hb : Below w.heap.size w w') : GAt w' a n gs := by
  obtain ⟨h1, h2, h3⟩ := h
  refine ⟨h1, fun hp => ?_, fun y hy => (h3 y hy).later hb (Nat.le_refl _)⟩
  obtain ⟨g, ha, hg, hc⟩ := h2 hp
  refine ⟨g, ha, Nat.lt_of_lt_of_le hg hb.size, fun i y hi => ?_⟩
  obtain ⟨c0, c1⟩ := hc i y hi
  exact ⟨(hb.cell (p := ⟨g, i * 2, none⟩) hg).trans c0, (hb.cell (p := ⟨g, i * 2 + 1, none⟩) hg).trans c1⟩
theorem own_gat {w : World} {B : Nat} {e : TypeId} {v : Value} {gs : List Gr} (h : w.ownsRow B e 2 v gs.length (cellsG gs)) (hd : ∀ y ∈ gs, Bys w y.a y.d.length y.d) : ∃ a c, v = .slice a gs.length c ∧ gs.length ≤ c ∧ c ≤ maxLen ∧ GAt w a gs.length gs := by
  obtain ⟨h1, h2⟩ := h
  rcases h2 with ⟨rfl, h0⟩ | ⟨g, cap, cur, rfl, hB, hg, h3, h4, h5, h6⟩
  · exact ⟨none, 0, by rw [h0], by omega, Nat.zero_le _, rfl, fun h => by omega, hd⟩
  · have hR : Row w g e cur.toList := by unfold Row; simpa using hg
    refine ⟨_, cap, rfl, h3, h4, rfl, fun _ => ⟨g, rfl, hR.lt, fun i y hi => ?_⟩, hd⟩
    have hil : i < gs.length := (List.getElem?_eq_some_iff.1 hi).1
    have hc := cellsG_at gs i y hi
    rw [← h6] at hc
    rw [List.getElem?_take, if_pos (by omega), List.getElem?_take, if_pos (by omega)] at hc
    exact ⟨by rw [hR.cell]; exact hc.1, by rw [hR.cell]; exact hc.2⟩
/-- bytes of one's own, if there are some -/
def datG (W : World) (x : Gr) : Prop := 0 < x.d.length → ∃ g cur, x.a = some ⟨g, 0, none⟩ ∧ Row W g 5 cur ∧ cur.take x.d.length = byC x.d
theorem datG.bys {W : World} {x : Gr} (h : datG W x) : Bys W x.a x.d.length x.d := by
  refine ⟨rfl, fun hp => ?_⟩
  obtain ⟨g, cur, ha, hR, ht⟩ := h hp
  have := row_bys hR 0 x.d.length x.d rfl (by rw [List.drop_zero]; exact ht)
  rw [ha]
  exact this.2 hp
theorem datG.cks {W W' : World} {x : Gr} {r : Option Nat} (h : datG W x) (hc : Cks r W W') (hr : ∀ k, r = some k → ∃ t cs, t ≠ 5 ∧ Row W k t cs) : datG W' x := by
  intro hp
  obtain ⟨g, cur, h3, h4, h5⟩ := h hp
  refine ⟨g, cur, h3, h4.cks hc ?_, h5⟩
  intro e
  obtain ⟨t, cs, ht, hk⟩ := hr _ e.symm
  exact h4.ne hk (fun e => ht e.symm) rfl
def wdG (l : List Gr) : Nat := wid (l.map Gr.sd)
theorem wdG_snoc (l : List Gr) (x : Gr) : wdG (l ++ [x]) = wdG l + (20 + x.d.length) := by
  unfold wdG
  rw [List.map_append, wid_app]
  simp [wid, Gr.sd]
theorem wdG_ge (l : List Gr) : 20 * l.length ≤ wdG l := by
  unfold wdG
  induction l with
  | nil => simp [wid]
  | cons x r ih =>
    show 20 * (r.length + 1) ≤ 20 + x.d.length + wid (r.map Gr.sd)
    omega
theorem infoRframe : (Try.prog.info? 24).map (fun i => (i.zero, i.size, i.bytes)) = some (some (.agg #[.int .i64 0, .slice none 0 0]), 2, 32) := by kernel_rfl
theorem cells2' (w : World) (a b : Value) (t : TypeId) : ∀ j u, ([a, b])[j]? = some u → (w.alloc (.cells #[a, b] t)).cell? ((⟨w.heap.size, 0, none⟩ : Addr).add j) = some u := by
  intro j u hj
  rw [Addr.add_mid, Nat.zero_add, (Row.mk w [a, b] t).cell]
  exact hj
theorem own_block' {W : World} {B : Nat} {e : TypeId} {k n : Nat} {v : Value} {xs : List Value} (h : W.ownsRow B e k v n xs) (g : Nat) (hg : v.ownBlock = some g) : B ≤ g ∧ ∃ cur, Row W g e cur := by
  rcases h.2 with ⟨rfl, _⟩ | ⟨g', cap, cur, rfl, hB, hh, _⟩
  · cases hg
  · cases hg
    exact ⟨hB, cur.toList, by unfold Row; simpa using hh⟩
theorem own_below2 {w w' : World} {B : Nat} {e : TypeId} {k n : Nat} {v : Value} {xs : List Value} (h : w.ownsRow B e k v n xs) (hb : Below w.heap.size w w') : w'.ownsRow B e k v n xs := by
  obtain ⟨h1, h2⟩ := h
  refine ⟨h1, ?_⟩
  rcases h2 with h2 | ⟨g, cap, cur, hv, hg, hh, rest⟩
  · exact .inl h2
  · refine .inr ⟨g, cap, cur, hv, hg, ?_, rest⟩
    rw [hb.block g (Array.getElem?_eq_some_iff.1 hh).1]
    exact hh

def RScanRes (w : World) (l : List UInt8) (s : Int) (e : Ending) (w' : World) : Prop :=
  ∃ v gs, e = .returned (.tuple #[v, .int .i64 (wdG gs)]) ∧ gs.map Gr.sd = scz l s ∧ w'.ownsRow w.heap.size 24 2 v gs.length (cellsG gs) ∧ (∀ y ∈ gs, datG w' y) ∧ Below w.heap.size w w'

set_option maxHeartbeats 2000000 in
theorem rscan_any (a : Option Addr) (len cap : Nat) (l : List UInt8) (s : Int) (w : World) (hl : Bys w a len l) (hlc : len ≤ cap) (hcm : cap ≤ maxLen) (hlen : len ≤ 87960930222080) (hs : (Lit.int .i64 s).wf = true) :
    Calls Try.prog 16 #[.slice a len cap, .int .i64 s] w fun e w' => RScanRes w l s e w' := by
  have HL : Hid (len = l.length) := hl.1
  have HBy : Hid (Bys w a len l) := hl
  have HCM : Hid (cap ≤ maxLen) := hcm
  have hcm' : cap ≤ 9223372036854775807 := hcm
  have hsb := bounds_i64 hs
  obtain ⟨i0, hi, hz0, hz1, hz2⟩ := info_parts infoRframe
  clear hl hs hcm
  go_enter Try.func16, Try.ntmps16
  go_wp2
  go_loopw [1, 6, 7] (fun u1 u6 u7 wr => ∃ (gs : List Gr) (q : Int) (t : Nat), u1 = .int .i64 q ∧ u7 = .int .i64 t ∧ t = wdG gs ∧ t ≤ len ∧ q ≤ 9223372036854775807 ∧ -9223372036854775808 ≤ q ∧ wr.ownsRow w.heap.size 24 2 u6 gs.length (cellsG gs) ∧ (∀ y ∈ gs, datG wr y) ∧ Below w.heap.size w wr ∧ scz l s = gs.map Gr.sd ++ scz (l.drop t) q) (fun _ _ u7 _ => len - (intOf u7).toNat)
  case atStart => exact ⟨[], s, 0, rfl, rfl, rfl, Nat.zero_le _, by omega, by omega, World.ownsRow_nil _ _ _ _, (fun y hy => by cases hy), Below.refl _ _, rfl⟩
  case round =>
    obtain ⟨gs, q, t, rfl, rfl, ht, htl, hq1, hq2, hown, hdat, hbe, hsc⟩ := hrel
    have HT : Hid (t = wdG gs) := ht
    have HO : Hid (wr.ownsRow w.heap.size 24 2 u6 gs.length (cellsG gs)) := hown
    have HDT : Hid (∀ y ∈ gs, datG wr y) := hdat
    have HBE : Hid (Below w.heap.size w wr) := hbe
    obtain ⟨rest, HRE⟩ : ∃ r, Hid (r = l.drop t) := ⟨_, rfl⟩
    rw [← HRE.out] at hsc
    have HSC : Hid (scz l s = gs.map Gr.sd ++ scz rest q) := hsc
    obtain ⟨ua, uc, rfl⟩ := own_slice hown
    clear ht hown hdat hbe hsc
    have HEND : Hid (scz rest q = [] → ∀ W', Below wr.heap.size wr W' → gs.map Gr.sd = scz l s ∧ W'.ownsRow w.heap.size 24 2 (.slice ua gs.length uc) gs.length (cellsG gs) ∧ (∀ y ∈ gs, datG W' y) ∧ Below w.heap.size w W') := by
      intro h0 W' hb
      exact ⟨by rw [HSC.out, h0, List.append_nil], own_below2 HO.out hb, fun y hy => (HDT.out y hy).cks (Cks.of_below hb) (fun k e => by cases e), HBE.out.trans (hb.mono HBE.out.size)⟩
    by_cases hq : q < 1
    · have hd : decide ((1 : Int) ≤ q) = false := decide_eq_false (by omega)
      have hE := HEND.out (by unfold scz; rw [if_pos hq]) wr (Below.refl _ _)
      have HE : Hid (gs.map Gr.sd = scz l s ∧ wr.ownsRow w.heap.size 24 2 (.slice ua gs.length uc) gs.length (cellsG gs) ∧ (∀ y ∈ gs, datG wr y) ∧ Below w.heap.size w wr) := hE
      clear hE
      go_wp2
      refine bodyPost_ret (results_tmp2 rfl _ _ _) rfl ?_
      exact ⟨_, gs, by rw [← HT.out]; rfl, HE.out⟩
    · have hd : decide ((1 : Int) ≤ q) = true := decide_eq_true (by omega)
      have hd2 : decide ((t : Int) ≤ (len : Int)) = true := decide_eq_true (by omega)
      obtain ⟨P, hP⟩ : ∃ P : Option Addr, (if cap = t then a else Option.map (fun x => x.add t) a) = P := ⟨_, rfl⟩
      have HBP : Hid (Bys wr P (len - t) rest) := by
        rw [HRE.out]
        exact bys_drop (HBy.out.later HBE.out (Nat.le_refl _)) t htl P (fun hlt b' off' e' => by rw [← hP, if_neg (by omega), e']; simp only [Option.map_some, Addr.add_mid])
      go_wp2_with fail
      refine (rnext_all _ _ _ _ _ HBP.out (by omega) (by unfold maxLen; omega)).mono ?_
      rintro e w2 ⟨hB2, hr⟩
      rcases hr with ⟨hE, rfl⟩ | ⟨hE, v, rfl, hov⟩
      · have HEnd0 : Hid (scz rest q = []) := scz_none _ _ (.inl hE)
        obtain ⟨E, HEE⟩ : ∃ E, Hid (E = nxtE rest) := ⟨_, rfl⟩
        rw [← HEE.out]
        have hE' : ((E : Int) == 0) = false := by rw [HEE.out, beq_eq_false_iff_ne]; omega
        have hE2 : ((E : Int) != 0) = true := by rw [HEE.out, bne_iff_ne]; omega
        unfold nul
        have HE := HEND.out HEnd0.out (w2.alloc (.cells #[.int .i64 0, .slice none 0 0] 24)) (hB2.alloc hB2.size _)
        have HE1 : Hid (_ ∧ _) := HE
        clear HE hE hB2 hP
        go_wp2
        refine bodyPost_ret (results_tmp2 rfl _ _ _) rfl ?_
        exact ⟨_, gs, by rw [← HT.out]; rfl, HE1.out⟩
      · obtain ⟨z1, z2, z3, z4, z5, z6⟩ := nxt_sound rest hE
        have HE : Hid (nxtE rest = 0) := hE
        obtain ⟨S, HS⟩ : ∃ S, Hid (S = nxtS rest) := ⟨_, rfl⟩
        obtain ⟨N, HN⟩ : ∃ N, Hid (N = nxtN rest) := ⟨_, rfl⟩
        obtain ⟨D, HD⟩ : ∃ D, Hid (D = nxtD rest) := ⟨_, rfl⟩
        rw [← HS.out] at z1 z2
        rw [← HN.out] at z4 z5
        rw [← HD.out] at z3 z4
        unfold most at z3
        unfold maxSeq at z2
        have HLR : Hid (len - t = rest.length) := HBP.out.1
        rw [← HLR.out] at z5
        rw [← HD.out] at hov
        rw [← HS.out, ← HN.out]
        obtain ⟨xa, xc, rfl⟩ := own_slice hov
        have HZ4 : Hid (N = 20 + D.length) := z4
        have hN20 : 20 ≤ N := by omega
        have hNle : N ≤ len - t := z5
        have HB2 : Hid (Below wr.heap.size wr w2) := hB2
        have HOV : Hid (w2.ownsRow (wr.heap.size + 1) 5 1 (.slice xa D.length xc) D.length (byC D)) := hov
        clear z6 hE z4 z3 z5 hov hB2 hP
        by_cases hqS : (S : Int) = q
        · have hq2' : ((S : Int) != q) = false := by rw [bne_eq_false_iff_eq]; exact hqS
          have HQS : Hid ((S : Int) = q) := hqS
          clear hqS
          obtain ⟨y, HY⟩ : ∃ y : Gr, Hid (y = ⟨S, xa, xc, D⟩) := ⟨_, rfl⟩
          have hbl : 20 * gs.length ≤ t := by have h1 := HT.out; have h2 := wdG_ge gs; omega
          obtain ⟨W3, HW3⟩ : ∃ W3, Hid (W3 = w2.alloc (.cells #[.int .i64 S, .slice xa D.length xc] 24)) := ⟨_, rfl⟩
          have HO3 : Hid (W3.ownsRow w.heap.size 24 2 (.slice ua gs.length uc) gs.length (cellsG gs)) := by rw [HW3.out]; exact own_below2 HO.out (HB2.out.alloc HB2.out.size _)
          have HB3 : Hid (Below wr.heap.size wr W3) := by rw [HW3.out]; exact HB2.out.alloc HB2.out.size _
          have HBW3 : Hid (Below w.heap.size w W3) := HBE.out.trans (HB3.out.mono HBE.out.size)
          have HS3 := HBW3.out.size
          have hdy : datG W3 y := by
            intro hp
            rw [HY.out] at hp ⊢
            rcases HOV.out.2 with ⟨h1, h2⟩ | ⟨g, cap', cur, h1, _, h3, _, _, _, h7⟩
            · exfalso; show False; have : 0 < D.length := hp; omega
            · have hR : Row w2 g 5 cur.toList := by unfold Row; simpa using h3
              refine ⟨g, cur.toList, ?_, by rw [HW3.out]; exact hR.old _, by rw [Nat.mul_one] at h7; exact h7⟩
              cases h1; rfl
          have HDY : Hid (datG W3 y) := hdy
          have HD3 : Hid (∀ z ∈ gs, datG W3 z) := fun z hz => (HDT.out z hz).cks (Cks.of_below HB3.out) (fun k e => by cases e)
          have hW3e : w2.alloc (.cells #[.int .i64 S, .slice xa D.length xc] 24) = W3 := HW3.out.symm
          have hfb0 : W3.cell? ⟨w2.heap.size, 0, none⟩ = some (.int .i64 S) := by rw [HW3.out, (Row.mk w2 [.int .i64 S, .slice xa D.length xc] _).cell]; rfl
          have hfb1 : W3.cell? ⟨w2.heap.size, 1, none⟩ = some (.slice xa D.length xc) := by rw [HW3.out, (Row.mk w2 [.int .i64 S, .slice xa D.length xc] _).cell]; rfl
          clear hdy
          go_wp2_with (at_builtin; refine wpList_append_own _ rfl _ _ 41 rfl w.heap.size 24 i0 (.agg #[.int .i64 0, .slice none 0 0]) 2 32 Try.underlying41 hi hz0 hz1 hz2 rfl (by decide) _ _ _ rfl (HO3.out.alloc _) ⟨W3.heap.size, 0, none⟩ 1 1 [.int .i64 S, .slice xa D.length xc] rfl rfl (cells2' _ _ _ _) (by intro u hu; rcases List.mem_cons.1 hu with h | h; (rw [h]; rfl); (rw [List.mem_singleton.1 h]; rfl)) ?_ ?_ ?_ ?_)
          · unfold maxLen; omega
          · omega
          · simp; omega
          intro v' w5 hown' hgrow _
          have hA : Cks none W3 (W3.alloc (.cells #[.int .i64 S, .slice xa D.length xc] 24)) := Cks.of_below ((Below.refl _ W3).alloc (Nat.le_refl _) _)
          have hC : Cks (Value.slice ua gs.length uc).ownBlock W3 w5 := hA.weak.trans (Cks.of_grown hgrow)
          have hob : ∀ k, (Value.slice ua gs.length uc).ownBlock = some k → ∃ t cs, t ≠ 5 ∧ Row W3 k t cs := fun k e => by obtain ⟨_, c, hc⟩ := own_block' HO3.out k e; exact ⟨_, c, by decide, hc⟩
          have HD5 : Hid (∀ z ∈ gs ++ [y], datG w5 z) := by
            intro z hz
            rcases List.mem_append.1 hz with h | h
            · exact (HD3.out z h).cks hC hob
            · rw [List.mem_singleton.1 h]; exact HDY.out.cks hC hob
          have HB5 : Hid (Below w.heap.size w w5) := (HBW3.out.alloc HS3 _).grown hgrow (by simp; omega) (fun k hk => (own_block' HO3.out k hk).1)
          obtain ⟨va', vc', rfl⟩ := own_slice hown'
          have HO5 : Hid (w5.ownsRow w.heap.size 24 2 (.slice va' (gs.length + 1) vc') (gs ++ [y]).length (cellsG (gs ++ [y]))) := by
            rw [cellsG_app, List.length_append, HY.out]; exact hown'
          have HW5 : Hid (t + N = wdG (gs ++ [y])) := by show _ = _; rw [wdG_snoc, HY.out, ← HT.out, HZ4.out]
          have HS5 : Hid (scz l s = (gs ++ [y]).map Gr.sd ++ scz (l.drop (t + N)) (q + 1)) := by
            show _ = _
            rw [HSC.out, scz_step rest q HE.out (by rw [← HS.out]; exact HQS.out), ← HS.out, ← HD.out, ← HN.out, List.map_append, List.append_assoc, HY.out, HRE.out, List.drop_drop]
            rfl
          clear hown' hgrow hA hC hob hfb0 hfb1 hW3e
          by_cases hmx : q = 4611686018427387904
          · have hmx' : (q == 4611686018427387904) = true := by rw [hmx]; rfl
            have hz0' : scz (l.drop (t + N)) (q + 1) = [] := by
              apply scz_none
              by_cases h0 : nxtE (l.drop (t + N)) = 0
              · have := (nxt_sound _ h0).2.1
                unfold maxSeq at this
                exact .inr (by omega)
              · exact .inl h0
            have HF5 : Hid ((gs ++ [y]).map Gr.sd = scz l s) := by show _ = _; rw [HS5.out, hz0', List.append_nil]
            clear hz0' hmx
            go_wp2
            refine bodyPost_ret (results_tmp2 rfl _ _ _) rfl ?_
            refine ⟨_, gs ++ [y], ?_, HF5.out, HO5.out, HD5.out, HB5.out⟩
            rw [← HW5.out]
            rfl
          · have hmx' : (q == 4611686018427387904) = false := by rw [beq_eq_false_iff_ne]; exact hmx
            have hqle : q < 4611686018427387904 := by have := HQS.out; omega
            clear hmx
            go_wp2
            go_roundw
            case rel => exact ⟨gs ++ [y], q + 1, t + N, rfl, by go_num, HW5.out, by omega, by omega, by omega, HO5.out, HD5.out, HB5.out, HS5.out⟩
            case measure => simp [intOf]; omega
        · have hq2' : ((S : Int) != q) = true := by rw [bne_iff_ne]; exact hqS
          have HE0 := HEND.out (scz_none _ _ (.inr (by rw [← HS.out]; exact hqS))) (w2.alloc (.cells #[.int .i64 S, .slice xa D.length xc] 24)) (HB2.out.alloc HB2.out.size _)
          have HE1 : Hid (_ ∧ _) := HE0
          clear HE0 hqS
          go_wp2
          refine bodyPost_ret (results_tmp2 rfl _ _ _) rfl ?_
          exact ⟨_, gs, by rw [← HT.out]; rfl, HE1.out⟩

end Go.Proofs.Ythmoapigjafijaa.Frm
