/- GraphTrees: the law's walk. -/
import Derived.Test.YtahmnpfmccipbaaGreatDoorGraphBack
import Derived.Test.YtahmnpfmccipbaaGreatDoorGraphAlive
import Derived.Test.YtahmnpfmccipbaaGreatDoorFlowRsame
namespace Go.Proofs.YtahmnpfmccipbaaGreatDoor.Grp
open Utf Rws Pln Flw
open Go.RowKit
set_option linter.unusedSimpArgs false
set_option linter.unusedVariables false
set_option maxRecDepth 100000
set_option maxHeartbeats 4000000

theorem rsame_yes {d d' : Nat} {v v' : Value} {t : Tr} {w : World} (h : TrV w d v t) (h' : TrV w d' v' t) : Calls Tryz.prog 18 #[v, v'] w fun e w' => e = .returned (.bool true) ∧ Hid (Below w.heap.size w w') :=
  (rsame_any d d' v v' t t w h h').mono (fun e w' g => by obtain ⟨q, e1, hq, hb⟩ := g; rw [hq.2 rfl] at e1; exact ⟨e1, hb⟩)
theorem grp_later {B : Nat} {w w' : World} {v : Value} {g : Gr} (h : GrP B w v g) (hb : Below w.heap.size w w') : GrP B w' v g :=
  fun W' hs hk => h W' (Nat.le_trans hb.size hs) (fun k h1 h2 => (hk k h1 (Nat.lt_of_lt_of_le h2 hb.size)).trans (hb.block k h2))
theorem grv_ok {W : World} {v : Value} {ns : List Nd} {r : Int} (h : GrV W v ⟨ns, r⟩) : ∀ n ∈ ns, i64 n.kind ∧ n.text.length ≤ 9223372036854775807 := fun n hn => by
  obtain ⟨ad, len, cap, _, _, _, _, hN⟩ := h
  obtain ⟨i, hi, rfl⟩ := List.getElem_of_mem hn
  have hl : len = ns.length := hN.1
  obtain ⟨b, off, _, _, hc⟩ := hN.2 (by omega)
  obtain ⟨_, _, _, _, _, h1, h2, _⟩ := hc i (by omega)
  simp only [List.getD_eq_getElem?_getD, List.getElem?_eq_getElem hi, Option.getD_some] at h1 h2
  exact ⟨h1, h2⟩
/-- the graph of a tree without Aliases is its tree -/
theorem cm_unf {d : Nat} {t : Tr} (hb : bri 2147483648 d t) (hp : plB d t = true) (h : cmOk d t = true) : unf d 0 (cmR d t).2.2.ns 0 t := by
  unfold cmOk at h
  rw [Bool.and_eq_true] at h
  have he := of_decide_eq_true h.2
  have := plc_unf d t ⟨[], []⟩ hb hp he
  cases d with
  | zero => exact hb.elim
  | succ d =>
    have e : (plc (d + 1) t ⟨[], []⟩).1 = 0 := by
      rw [plB, Bool.and_eq_true] at hp
      rw [plc, if_neg (of_decide_eq_true hp.2)]
      rfl
    rw [e] at this
    exact this
theorem cmEr_two {d : Nat} {t : Tr} (hp : plB d t = true) (h : cmOk d t = false) : (cmEr d t = 7) ∨ (rgh d t = false ∧ cmEr d t = 1) := by
  unfold cmOk at h
  unfold cmEr
  cases hq : rgh d t
  · exact .inr ⟨rfl, by simp⟩
  · rw [hq, Bool.true_and] at h
    have h1 := of_decide_eq_false h
    rcases plc_err d t ⟨[], []⟩ hp with e | e
    · exact absurd e h1
    · refine .inl ?_
      rw [if_pos rfl]
      have e2 : (cmR d t).2.1 = 7 := e
      rw [e2]; rfl
theorem trees_core {w : World} {d : Nat} {k : Int} {x a : Ln} {ad : Option Addr} {len cap : Nat} {t : Tr} (hV : TrV w d (tv k x a ad len cap) t) (hT : Tb w) : Calls Tryz.prog 5 #[tv k x a ad len cap] w fun e w' => e = .returned (.bool true) ∧ Below w.heap.size w w' := by
  have HA : Hid (∀ W, Below w.heap.size w W → Calls Tryz.prog 8 #[] W fun e W' => e = .returned (.bool true) ∧ Hid (Below w.heap.size w W')) := fun W b => (alive_any (hT.later b)).mono (fun e W' q => ⟨q.1, b.trans (q.2.mono b.size)⟩)
  have HF : Hid (Calls Tryz.prog 7 _ _ _) := far_new hV
  have HPL : Hid (∀ W, Hid (MyS w W #[.int .i64 k, .string (mk x), .string (mk a), .slice ad len cap]) → Calls Tryz.prog 16 #[tv k x a ad len cap] W fun e W' => e = .returned (.bool (plB d t)) ∧ Hid (Below W.heap.size W W')) := fun W hW => (plain_any (hV.later hW.out.bl (Nat.le_refl _))).mono (fun e W' q => ⟨q.1, q.2⟩)
  obtain ⟨er, her⟩ : ∃ er, er = cmEr d t := ⟨_, rfl⟩
  obtain ⟨ns, hns⟩ : ∃ ns, ns = (cmR d t).2.2.ns := ⟨_, rfl⟩
  go_enter Tryz.func5, Tryz.ntmps5
  go_wp2_with fail
  refine HF.out.mono ?_
  rintro e w3 ⟨q, rfl, B3, HL3, hq, hcq⟩
  have H3 : Hid (MyS w w3 #[.int .i64 k, .string (mk x), .string (mk a), .slice ad len cap]) := MyS.far B3.out
  clear HF B3
  cases q
  rotate_left
  · clear hV hT her hns hq hcq HPL HL3
    go_wp2_with (go_at_call 8; refine (HA.out _ H3.out.bl).mono ?_; rintro e w4 ⟨rfl, H4⟩)
    go_ret
    exact ⟨rfl, H4.out⟩
  · have hq2 := hq.out rfl
    obtain ⟨n0, hn0⟩ := hcq.out rfl
    have HN0 : Hid (w3.cell? ⟨w.heap.size + 1, 0, none⟩ = some (.int .i64 (n0 : Int))) := hn0
    obtain ⟨c0, c1, c2, c3⟩ := H3.out.b.c4
    have hbr : bri 2147483648 d t := bri_fine (by decide) hV hq2.1
    have htz : tsz d t ≤ 700 := Nat.le_trans (tsz_fine hV hq2.1) hq2.2
    clear hq hcq hn0 hq2
    have HP3 : Hid (Calls Tryz.prog 16 #[tv k x a ad len cap] w3 _) := HPL.out _ H3
    clear HPL
    cases hp : plB d t
    · rw [hp] at HP3
      clear hV hT her hns hp hbr htz
      go_wp2_with (first | (go_at_call 16; refine HP3.out.mono ?_; rintro e w4 ⟨rfl, B4⟩) | (go_at_call 8; refine (HA.out _ (H3.out.later B4.out).bl).mono ?_; rintro e w5 ⟨rfl, H5⟩))
      go_ret
      exact ⟨rfl, H5.out⟩
    · rw [hp] at HP3
      have HC : Hid (∀ W, Hid (MyS w W #[.int .i64 k, .string (mk x), .string (mk a), .slice ad len cap]) → Calls Tryz.prog 9 #[tv k x a ad len cap] W fun e W' => (if cmOk d t = true then ∃ ad' len' cap', e = .returned (.tuple #[gv ad' len' cap' 0, .int .i64 0]) ∧ Hid (GrP W.heap.size W' (gv ad' len' cap' 0) ⟨ns, 0⟩) else e = .returned (.tuple #[gv none 0 0 0, .int .i64 er])) ∧ Hid (Below W.heap.size W W')) := fun W hW => by
        refine (compose_any hbr (hV.later hW.out.bl (Nat.le_refl _)) (hT.later hW.out.bl) (by omega)).mono (fun e W' q => ⟨?_, q.2⟩)
        have q1 := q.1
        split at q1
        · rename_i hc
          rw [if_pos hc]
          obtain ⟨v, rfl, hv⟩ := q1
          have hv2 := hv
          obtain ⟨ad', len', cap', rfl, _⟩ := hv.v
          rw [hns]
          exact ⟨ad', len', cap', rfl, hv2⟩
        · rename_i hc
          rw [if_neg hc, her]
          exact q1
      go_upto_region 4 with (go_at_call 16; refine HP3.out.mono ?_; rintro e w4 ⟨rfl, B4⟩)
      have H4 : Hid (MyS w w4 #[.int .i64 k, .string (mk x), .string (mk a), .slice ad len cap]) := H3.out.later B4.out
      have HL4 : Hid (w.heap.size + 1 < w4.heap.size ∧ w4.frozen? ⟨w.heap.size + 1, 0, none⟩ = false ∧ w4.cell? ⟨w.heap.size + 1, 0, none⟩ = some (.int .i64 (n0 : Int))) := ⟨Nat.lt_of_lt_of_le HL3.out.1 B4.out.size, (froz_of_block (B4.out.block _ HL3.out.1)).trans HL3.out.2, (B4.out.cell (p := ⟨w.heap.size + 1, 0, none⟩) HL3.out.1).trans HN0.out⟩
      clear H3 HL3 HN0 HP3 B4 c0 c1 c2 c3
      obtain ⟨c0, c1, c2, c3⟩ := H4.out.b.c4
      have HC4 : Hid (Calls Tryz.prog 9 #[tv k x a ad len cap] w4 _) := HC.out _ H4
      clear HC
      cases hcm : cmOk d t
      · simp only [hcm, if_neg (show ¬ (false = true) by decide)] at HC4
        have HRT : Hid (∀ W, Hid (MyS w W #[.int .i64 k, .string (mk x), .string (mk a), .slice ad len cap]) → Calls Tryz.prog 17 #[tv k x a ad len cap] W fun e W' => e = .returned (.bool (rgh d t)) ∧ Hid (Below w.heap.size w W')) := fun W hW => (right_big hbr (hV.later hW.out.bl (Nat.le_refl _)) (hT.later hW.out.bl)).mono (fun e W' q => ⟨q.1, hW.out.bl.trans (q.2.mono hW.out.bl.size)⟩)
        have hee := cmEr_two hp hcm
        rw [← her] at hee
        clear hV hT her hns hp hbr htz hcm
        rcases hee with rfl | ⟨hr, rfl⟩
        · clear HRT
          go_upto_region 5 with (go_at_call 9; refine HC4.out.mono ?_; rintro e w5 ⟨rfl, B5⟩)
          have b6 := below_alloc w5 (.cells #[.slice none 0 0, .int .i64 0] 30)
          have H6 : Hid (MyS w (w5.alloc (.cells #[.slice none 0 0, .int .i64 0] 30)) #[.int .i64 k, .string (mk x), .string (mk a), .slice ad len cap]) := (H4.out.later B5.out).later b6
          generalize w5.alloc (.cells #[.slice none 0 0, .int .i64 0] 30) = w6 at H6 ⊢
          clear b6
          go_wp2_with (go_at_call 8; refine (HA.out _ H6.out.bl).mono ?_; rintro e w7 ⟨rfl, H7⟩)
          go_ret
          exact ⟨rfl, H7.out⟩
        · rw [hr] at HRT
          clear hr
          go_upto_region 5 with (go_at_call 9; refine HC4.out.mono ?_; rintro e w5 ⟨rfl, B5⟩)
          have b6 := below_alloc w5 (.cells #[.slice none 0 0, .int .i64 0] 30)
          have H6 : Hid (MyS w (w5.alloc (.cells #[.slice none 0 0, .int .i64 0] 30)) #[.int .i64 k, .string (mk x), .string (mk a), .slice ad len cap]) := (H4.out.later B5.out).later b6
          generalize w5.alloc (.cells #[.slice none 0 0, .int .i64 0] 30) = w6 at H6 ⊢
          clear b6 c0 c1 c2 c3
          obtain ⟨c0, c1, c2, c3⟩ := H6.out.b.c4
          go_wp2_with (first | (go_at_call 17; refine (HRT.out _ H6).mono ?_; rintro e w7 ⟨rfl, H7⟩) | (go_at_call 8; refine (HA.out _ H7.out).mono ?_; rintro e w8 ⟨rfl, H8⟩))
          go_ret
          exact ⟨rfl, H8.out⟩
      · have HU : Hid (unf d 0 ns 0 t) := by rw [hns]; exact cm_unf hbr hp hcm
        have hln : ns.length ≤ 4096 := by rw [hns]; have h9 : (cmR d t).2.2.ns.length ≤ ([] : List Nd).length + tsz d t := plc_len d t ⟨[], []⟩; simp only [List.length_nil] at h9; omega
        simp only [hcm, if_pos] at HC4
        have HBA : Hid (∀ W, Below w.heap.size w W → Calls Tryz.prog 20 #[tv k x a ad len cap] W (BRes W d (br d t))) := fun W b => bare_any (hV.later b (Nat.le_refl _)) (by omega)
        clear hV hT her hns hp hbr hcm
        go_upto_region 5 with (go_at_call 9; refine HC4.out.mono ?_; rintro e w5 ⟨⟨ad', len', cap', rfl, hg5⟩, B5⟩)
        have H5 : Hid (MyS w w5 #[.int .i64 k, .string (mk x), .string (mk a), .slice ad len cap]) := H4.out.later B5.out
        have HL5 : Hid (w.heap.size + 1 < w4.heap.size ∧ w4.heap.size ≤ w5.heap.size ∧ w5.frozen? ⟨w.heap.size + 1, 0, none⟩ = false ∧ w5.cell? ⟨w.heap.size + 1, 0, none⟩ = some (.int .i64 (n0 : Int))) := ⟨HL4.out.1, B5.out.size, (froz_of_block (B5.out.block _ HL4.out.1)).trans HL4.out.2.1, (B5.out.cell (p := ⟨w.heap.size + 1, 0, none⟩) HL4.out.1).trans HL4.out.2.2⟩
        clear c0 c1 c2 c3 HC4 H4 HL4 B5
        have b6 := below_alloc w5 (.cells #[.slice ad' len' cap', .int .i64 0] 30)
        have n6 := Bx.new w5 #[.slice ad' len' cap', .int .i64 0] 30
        have hg6 := grp_later hg5.out b6
        have H6 := H5.out.later b6
        have f6 : (w5.alloc (.cells #[.slice ad' len' cap', .int .i64 0] 30)).frozen? ⟨w.heap.size + 1, 0, none⟩ = false := (froz_of_block (b6.block _ (by have := HL5.out; omega))).trans HL5.out.2.2.1
        have q6 : (w5.alloc (.cells #[.slice ad' len' cap', .int .i64 0] 30)).cell? ⟨w.heap.size + 1, 0, none⟩ = some (.int .i64 (n0 : Int)) := (b6.cell (p := ⟨w.heap.size + 1, 0, none⟩) (by show w.heap.size + 1 < w5.heap.size; have := HL5.out; omega)).trans HL5.out.2.2.2
        generalize w5.alloc (.cells #[.slice ad' len' cap', .int .i64 0] 30) = w6 at b6 n6 hg6 H6 f6 q6 ⊢
        obtain ⟨K5, hK5⟩ : ∃ K5, w5.heap.size = K5 := ⟨_, rfl⟩
        obtain ⟨L, hL⟩ : ∃ L, w.heap.size + 1 = L := ⟨_, rfl⟩
        have HLK : Hid (w.heap.size < L ∧ L < K5 ∧ L < w4.heap.size) := by have := HL5.out; show _ ∧ _ ∧ _; omega
        rw [hK5] at n6 ⊢
        rw [hL] at f6 q6 ⊢
        have HG6 : Hid (GrP (L + 1) w6 (gv ad' len' cap' 0) ⟨ns, 0⟩) := hg6.mono (by have := HLK.out; omega)
        have HS6 : Hid (MyS w w6 #[.int .i64 k, .string (mk x), .string (mk a), .slice ad len cap]) := H6
        have HN6 : Hid (Bx w6 K5 #[.slice ad' len' cap', .int .i64 0] 30) := n6
        clear hK5 hL hg6 H6 b6 hg5 HL5 H5 n6
        -- the number is set anew
        have HF7 : Hid (Fr L w6 (w6.setCell ⟨L, 0, none⟩ (.int .i64 5000))) := Fr.refl.set 0 _
        have q7 : (w6.setCell ⟨L, 0, none⟩ (.int .i64 5000)).cell? ⟨L, 0, none⟩ = some (.int .i64 ((5000 : Nat) : Int)) := World.cell?_setCell_same' w6 ⟨L, 0, none⟩ _ (by rw [q6]; rfl)
        have f7 : (w6.setCell ⟨L, 0, none⟩ (.int .i64 5000)).frozen? ⟨L, 0, none⟩ = false := by rw [World.frozen?_setCell]; exact f6
        have HG7 : Hid (GrP (L + 1) (w6.setCell ⟨L, 0, none⟩ (.int .i64 5000)) (gv ad' len' cap' 0) ⟨ns, 0⟩) := HG6.out.set (Nat.lt_succ_self _)
        have HN7 : Hid (Bx (w6.setCell ⟨L, 0, none⟩ (.int .i64 5000)) K5 #[.slice ad' len' cap', .int .i64 0] 30) := HN6.out.other (by have := HLK.out; omega) _ _
        have HB7 : Hid (Below w.heap.size w (w6.setCell ⟨L, 0, none⟩ (.int .i64 5000))) := HS6.out.bl.setCell (p := ⟨L, 0, none⟩) (by show w.heap.size ≤ L; have := HLK.out; omega) _
        have HX7 : Hid (Bx (w6.setCell ⟨L, 0, none⟩ (.int .i64 5000)) w.heap.size #[.int .i64 k, .string (mk x), .string (mk a), .slice ad len cap] 24) := HS6.out.b.other (by have := HLK.out; omega) _ _
        clear HF7 HG6 HN6 HS6
        go_upto_region 8 with fail
        generalize w6.setCell ⟨L, 0, none⟩ (.int .i64 5000) = w7 at q7 f7 HG7 HN7 HB7 HX7 ⊢
        clear q6 f6
        obtain ⟨K0, hK0⟩ : ∃ K0, w.heap.size = K0 := ⟨_, rfl⟩
        rw [hK0] at HX7 ⊢
        have hK0L : K0 < L := by have := HLK.out; omega
        have HKK : Hid (w.heap.size = K0) := hK0
        clear hK0
        have hL7 : L < w7.heap.size := by have := HN7.out.lt; have := HLK.out; omega
        have HBK : Hid (Calls Tryz.prog 19 #[gv ad' len' cap' 0, .int .i64 0, .pointer (some ⟨L, 0, none⟩)] w7.drew fun e w8 => ∃ (rk : Int) (rx ry : ByteArray) (rad : Option Addr) (rlen rcap : Nat), e = .returned (.agg #[.int .i64 rk, .string rx, .string ry, .slice rad rlen rcap]) ∧ Hid (TrP w7.heap.size w8 d (.agg #[.int .i64 rk, .string rx, .string ry, .slice rad rlen rcap]) (br d t)) ∧ Hid (Below w.heap.size w w8) ∧ Hid (Bx w8 K0 #[.int .i64 k, .string (mk x), .string (mk a), .slice ad len cap] 24)) := by
          refine (back_any (lo := 0) HG7.out hL7 (by omega) (grv_ok HG7.out.v) d 0 5000 t w7.drew Fr.refl.drew HU.out (by omega) (Nat.le_refl _) q7 f7).mono ?_
          rintro e w8 ⟨rk, rx, ry, rad, rlen, rcap, rfl, h1, h2, _, _⟩
          have b8 : Below L w7.drew w8 := h2.out.1
          refine ⟨rk, rx, ry, rad, rlen, rcap, rfl, h1, HB7.out.drew.trans (b8.mono (by have := HLK.out; omega)), ?_⟩
          exact (b8.block K0 hK0L).trans HX7.out
        obtain ⟨c0, c1, c2, c3⟩ := HX7.out.c4
        obtain ⟨e0, e1⟩ := HN7.out.c2
        have HBB : Hid (∀ W, Hid (Below w.heap.size w W) → Calls Tryz.prog 20 #[tv k x a ad len cap] W (BRes W d (br d t))) := fun W b => HBA.out W b.out
        have HSM : Hid (∀ W v v', TrV W d v (br d t) → TrV W d v' (br d t) → Calls Tryz.prog 18 #[v, v'] W fun e W' => e = .returned (.bool true) ∧ Hid (Below W.heap.size W W')) := fun W v v' h h' => rsame_yes h h'
        clear HBA HU HG7 HN7 HB7 HX7 q7 f7 hln htz HKK
        go_region_with (first
          | (go_at_call 19; refine HBK.out.mono ?_; rintro e w8 ⟨rk, rx, ry, rad, rlen, rcap, rfl, HT8, HB8, HX8⟩; obtain ⟨i0, i1, i2, i3⟩ := HX8.out.c4)
          | (go_at_call 20; refine (HBB.out _ HB8).mono ?_; rintro e w9 ⟨sk, sx, sy, sad, slen, scap, rfl, HT9, HB9⟩)
          | (go_at_call 18; refine (HSM.out _ _ _ (HT8.out.later HB9.out).v HT9.out.v).mono ?_; rintro e w10 ⟨rfl, HB10⟩)
          | (go_at_call 8; refine (HA.out _ ((HB8.out.trans (HB9.out.mono HB8.out.size)).trans (HB10.out.mono (HB8.out.trans (HB9.out.mono HB8.out.size)).size))).mono ?_; rintro e w11 ⟨rfl, H11⟩))
        all_goals
          go_wp2
          go_ret
          exact ⟨rfl, H11.out⟩
theorem trees_walk (d : Nat) (v : Value) (t : Tr) (w : World) (hV : TrV w d v t) (hT : Tb w) : Calls Tryz.prog 5 #[v] w fun e w' => e = .returned (.bool true) ∧ Below w.heap.size w w' := by
  obtain ⟨ad, len, cap, rfl⟩ := hV.open4
  exact trees_core hV hT
end Go.Proofs.YtahmnpfmccipbaaGreatDoor.Grp
