/- GraphMay: the law's walk. -/
import Derived.Test.YtahmnpfmccipbaaGreatDoorGraphFar
import Derived.Test.YtahmnpfmccipbaaGreatDoorGraphAgS
import Derived.Test.YtahmnpfmccipbaaGreatDoorGraphAlive
import Derived.Test.YtahmnpfmccipbaaGreatDoorGgK
namespace Go.Proofs.YtahmnpfmccipbaaGreatDoor.Grp
open Utf Rws Pln Flw
open Go.RowKit
set_option linter.unusedSimpArgs false
set_option linter.unusedVariables false
set_option maxRecDepth 100000
set_option maxHeartbeats 4000000

/-- far, where a tree and a number have just been laid -/
theorem far_new {w : World} {d : Nat} {k : Int} {x a : Ln} {ad : Option Addr} {len cap : Nat} {t : Tr} (hV : TrV w d (tv k x a ad len cap) t) :
    Calls Tryz.prog 7 #[tv k x a ad len cap, .int .i64 0, .pointer (some ⟨w.heap.size + 1, 0, none⟩)] ((w.alloc (.cells #[.int .i64 k, .string (mk x), .string (mk a), .slice ad len cap] 24)).alloc (.cells #[.int .i64 700] 3)) fun e w' => ∃ q : Bool, e = .returned (.bool q) ∧ Hid (Below (w.heap.size + 1) (w.alloc (.cells #[.int .i64 k, .string (mk x), .string (mk a), .slice ad len cap] 24)) w') ∧ Hid (w.heap.size + 1 < w'.heap.size ∧ w'.frozen? ⟨w.heap.size + 1, 0, none⟩ = false) ∧ Hid (q = false → fineT 81 t ∧ cntT 81 t ≤ 700) := by
  have b1 := below_alloc w (.cells #[.int .i64 k, .string (mk x), .string (mk a), .slice ad len cap] 24)
  have s1 : (w.alloc (.cells #[.int .i64 k, .string (mk x), .string (mk a), .slice ad len cap] 24)).heap.size = w.heap.size + 1 := World.size_alloc _ _
  have hV1 := hV.later b1 (Nat.le_refl _)
  generalize w.alloc (.cells #[.int .i64 k, .string (mk x), .string (mk a), .slice ad len cap] 24) = w1 at b1 s1 hV1 ⊢
  have b2 := below_alloc w1 (.cells #[.int .i64 700] 3)
  have hcell := World.cell?_alloc_new w1 #[.int .i64 700] 3 0
  rw [s1] at hcell
  refine (far_any d _ t w1 _ (w.heap.size + 1) 0 700 hV1 b2 (Nat.le_refl _) (by rw [World.size_alloc]; omega) (by omega) (by rw [hcell]; rfl) ?_ (by omega)).mono ?_
  · rw [frozen?_alloc_cells]
    unfold World.frozen?
    rw [Array.getElem?_eq_none (by show w1.heap.size ≤ w.heap.size + 1; omega)]
  · rintro e w' ⟨q, rfl, hb, h1, h2, hq⟩
    rw [s1] at hb
    refine ⟨q, rfl, hb, ⟨h1, h2⟩, fun h => ?_⟩
    obtain ⟨h3, n', hn, _⟩ := hq h
    exact ⟨h3, by have e : cntT (81 - 0) t = cntT 81 t := rfl
                  omega⟩
theorem cmEr_ne {d : Nat} {t : Tr} (h : cmOk d t = false) : cmEr d t ≠ 0 := by
  unfold cmOk at h
  unfold cmEr
  cases hq : rgh d t
  · simp
  · rw [hq, Bool.true_and] at h
    have := of_decide_eq_false h
    rw [if_pos rfl]; omega
/-- a tree in its box -/
structure MyS (w W : World) (tc : Array Value) : Prop where
  b : Bx W w.heap.size tc 24
  bl : Below w.heap.size w W
theorem MyS.later {w W W' : World} {tc : Array Value} (h : MyS w W tc) (hb : Below W.heap.size W W') : MyS w W' tc := ⟨h.b.later hb, h.bl.trans (hb.mono h.bl.size)⟩
theorem MyS.far {w W : World} {tc : Array Value} (h : Below (w.heap.size + 1) (w.alloc (.cells tc 24)) W) : MyS w W tc := by
  have b1 := below_alloc w (.cells tc 24)
  have s1 : (w.alloc (.cells tc 24)).heap.size = w.heap.size + 1 := World.size_alloc _ _
  rw [← s1] at h
  exact ⟨(Bx.new w tc _).later h, b1.trans (h.mono b1.size)⟩
theorem may_core {w : World} {d : Nat} {k : Int} {x a : Ln} {ad : Option Addr} {len cap : Nat} {t : Tr} (hV : TrV w d (tv k x a ad len cap) t) (hT : Tb w) : Calls Tryz.prog 3 #[tv k x a ad len cap] w fun e w' => e = .returned (.bool true) ∧ Below w.heap.size w w' := by
  have HA : Hid (∀ W, Below w.heap.size w W → Calls Tryz.prog 8 #[] W fun e W' => e = .returned (.bool true) ∧ Hid (Below w.heap.size w W')) := fun W b => (alive_any (hT.later b)).mono (fun e W' q => ⟨q.1, b.trans (q.2.mono b.size)⟩)
  have HF : Hid (Calls Tryz.prog 7 _ _ _) := far_new hV
  obtain ⟨er, her⟩ : ∃ er, er = cmEr d t := ⟨_, rfl⟩
  obtain ⟨ns, hns⟩ : ∃ ns, ns = (cmR d t).2.2.ns := ⟨_, rfl⟩
  have HC : Hid (fineT 81 t ∧ cntT 81 t ≤ 700 → ∀ W, Hid (MyS w W #[.int .i64 k, .string (mk x), .string (mk a), .slice ad len cap]) → Calls Tryz.prog 9 #[tv k x a ad len cap] W fun e W' => (if cmOk d t = true then ∃ ad' len' cap', e = .returned (.tuple #[gv ad' len' cap' 0, .int .i64 0]) ∧ Hid (GrV W' (gv ad' len' cap' 0) ⟨ns, 0⟩) else e = .returned (.tuple #[gv none 0 0 0, .int .i64 er])) ∧ Hid (MyS w W' #[.int .i64 k, .string (mk x), .string (mk a), .slice ad len cap])) := fun hq W hW => by
    have z1 := tsz_fine hV hq.1
    refine (compose_any (bri_fine (by decide) hV hq.1) (hV.later hW.out.bl (Nat.le_refl _)) (hT.later hW.out.bl) (by omega)).mono (fun e W' q => ⟨?_, hW.out.later q.2⟩)
    have q1 := q.1
    split at q1
    · rename_i hc
      rw [if_pos hc]
      obtain ⟨v, rfl, hv⟩ := q1
      have hv2 := hv.v
      obtain ⟨ad', len', cap', rfl, _⟩ := hv.v
      rw [hns]
      exact ⟨ad', len', cap', rfl, hv2⟩
    · rename_i hc
      rw [if_neg hc, her]
      exact q1
  have HBR : Hid (fineT 81 t → bri 2147483648 d t) := fun h => bri_fine (by decide) hV h
  go_enter Tryz.func3, Tryz.ntmps3
  go_wp2_with fail
  refine HF.out.mono ?_
  rintro e w3 ⟨q, rfl, B3, _, hq⟩
  have H3 : Hid (MyS w w3 #[.int .i64 k, .string (mk x), .string (mk a), .slice ad len cap]) := MyS.far B3.out
  clear HF B3
  cases q
  rotate_left
  · clear hV hT HC her hns hq HBR
    go_wp2_with (go_at_call 8; refine (HA.out _ H3.out.bl).mono ?_; rintro e w4 ⟨rfl, H4⟩)
    go_ret
    exact ⟨rfl, H4.out⟩
  · have hq2 := hq.out rfl
    have HC2 : Hid (∀ W, Hid (MyS w W #[.int .i64 k, .string (mk x), .string (mk a), .slice ad len cap]) → Calls Tryz.prog 9 #[tv k x a ad len cap] W _) := HC.out hq2
    have hb := HBR.out hq2.1
    clear HC HBR hq hV
    cases hcm : cmOk d t
    · have he : er ≠ 0 := by rw [her]; exact cmEr_ne hcm
      have he' : (er != 0) = true := by simpa using he
      simp only [hcm, if_neg (show ¬ (false = true) by decide)] at HC2
      have HR0 : Hid (∀ W, Hid (Below w.heap.size w W) → Calls Tryz.prog 10 #[gv none 0 0 0] W fun e W' => e = .returned (.bool false) ∧ Hid (Below w.heap.size w W')) := fun W hW =>
        (right_gr (g := ⟨[], 0⟩) ⟨none, 0, 0, rfl, Nat.le_refl _, Nat.zero_le _, ⟨by decide, by decide⟩, rfl, fun h => absurd h (by decide)⟩ (fun _ => ⟨fun n hn => absurd hn (by simp), by decide⟩) (hT.later hW.out)).mono (fun e W' q => ⟨q.1, hW.out.trans (q.2.mono hW.out.size)⟩)
      clear hT her hns he hcm hq2 hb
      obtain ⟨c0, c1, c2, c3⟩ := H3.out.b.c4
      go_upto_region 5 with (go_at_call 9; refine (HC2.out _ H3).mono ?_; rintro e w4 ⟨rfl, H4⟩)
      have b4 := below_alloc w4 (.cells #[.slice none 0 0, .int .i64 0] 30)
      have H5 : Hid (Below w.heap.size w (w4.alloc (.cells #[.slice none 0 0, .int .i64 0] 30))) := H4.out.bl.trans (b4.mono H4.out.bl.size)
      have T5 := Bx.new w4 #[.slice none 0 0, .int .i64 0] 30
      generalize w4.alloc (.cells #[.slice none 0 0, .int .i64 0] 30) = w5 at H5 T5 ⊢
      obtain ⟨K5, hK5⟩ : ∃ K5, w4.heap.size = K5 := ⟨_, rfl⟩
      rw [hK5] at T5 ⊢
      obtain ⟨d0, d1⟩ := T5.c2
      clear T5 hK5 H3 H4 HC2 c0 c1 c2 c3 b4
      go_wp2_with (first | (go_at_call 10; refine (HR0.out _ H5).mono ?_; rintro e w6 ⟨rfl, H6⟩) | (go_at_call 8; refine (HA.out _ H6.out).mono ?_; rintro e w7 ⟨rfl, H7⟩))
      go_ret
      exact ⟨rfl, H7.out⟩
    · obtain ⟨f1, f2, f3, f4⟩ := cm_facts hb hcm
      rw [← hns] at f1 f2 f3 f4
      simp only [hcm, if_pos] at HC2
      have HC3 : Hid (∀ W ad' len' cap', Below w.heap.size w W → GrV W (gv ad' len' cap' 0) ⟨ns, 0⟩ → Calls Tryz.prog 11 #[gv ad' len' cap' 0] W fun e W' => ∃ a2 l2 c2, e = .returned (.tuple #[gv a2 l2 c2 0, .int .i64 0]) ∧ Hid (GrV W' (gv a2 l2 c2 0) ⟨ns, 0⟩) ∧ Hid (Below W.heap.size W W')) := fun W ad' len' cap' b h => (canon_any h f4 (hT.later b)).mono (fun e W' q => by
        have q1 := q.1
        rw [if_pos f1] at q1
        obtain ⟨v, rfl, hv⟩ := q1
        have e0 : (⟨cnN ns (odG ns (0 : Int).toNat), 0⟩ : Gr) = ⟨ns, 0⟩ := by rw [show (0 : Int).toNat = 0 from rfl, f3]
        have hv2 : GrV W' v ⟨ns, 0⟩ := by rw [← e0]; exact hv.v
        obtain ⟨a2, l2, c2, rfl, h5⟩ := hv2
        exact ⟨a2, l2, c2, rfl, ⟨a2, l2, c2, rfl, h5⟩, q.2⟩)
      have HRC : Hid (∀ W ad' len' cap', Below w.heap.size w W → GrV W (gv ad' len' cap' 0) ⟨ns, 0⟩ → Calls Tryz.prog 10 #[gv ad' len' cap' 0] W fun e W' => e = .returned (.bool true) ∧ Hid (Below W.heap.size W W')) := fun W ad' len' cap' b h => (right_gr h f4 (hT.later b)).mono (fun e W' q => by rw [f1] at q; exact ⟨q.1, q.2⟩)
      have HSA : Hid (∀ W v v', GrV W v ⟨ns, 0⟩ → GrV W v' ⟨ns, 0⟩ → Calls Tryz.prog 12 #[v, v'] W fun e W' => e = .returned (.bool true) ∧ Hid (Below W.heap.size W W')) := fun W v v' h h' => rsame_eq h h'
      clear hT her hns hcm hq2 hb f1 f2 f3 f4
      obtain ⟨c0, c1, c2, c3⟩ := H3.out.b.c4
      go_upto_region 5 with (go_at_call 9; refine (HC2.out _ H3).mono ?_; rintro e w4 ⟨⟨ad', len', cap', rfl, hg4⟩, H4⟩)
      have H5 : Hid (AgS w (w4.alloc (.cells #[.slice ad' len' cap', .int .i64 0] 30)) w4.heap.size ad' len' cap' 0 ns) := AgS.new H4.out.bl hg4.out
      clear H4 H3 HC2 c0 c1 c2 c3 hg4
      generalize w4.alloc (.cells #[.slice ad' len' cap', .int .i64 0] 30) = w5 at H5 ⊢
      obtain ⟨K5, hK5⟩ : ∃ K5, w4.heap.size = K5 := ⟨_, rfl⟩
      rw [hK5] at H5 ⊢
      clear hK5
      obtain ⟨d0, d1⟩ := H5.out.b.c2
      go_upto_region 8 with (go_at_call 11; refine (HC3.out _ _ _ _ H5.out.bl H5.out.g).mono ?_; rintro e w6 ⟨a2, l2, c2, rfl, hg6, B6⟩)
      have H7 : Hid (AgS w (w6.alloc (.cells #[.slice a2 l2 c2, .int .i64 0] 30)) K5 ad' len' cap' 0 ns) := (H5.out.later B6.out).later (below_alloc _ _)
      have HD7 : Hid (AgS w (w6.alloc (.cells #[.slice a2 l2 c2, .int .i64 0] 30)) w6.heap.size a2 l2 c2 0 ns) := AgS.new (H5.out.later B6.out).bl hg6.out
      clear H5 B6 hg6 d0 d1 HC3
      generalize w6.alloc (.cells #[.slice a2 l2 c2, .int .i64 0] 30) = w7 at H7 HD7 ⊢
      obtain ⟨K7, hK7⟩ : ∃ K7, w6.heap.size = K7 := ⟨_, rfl⟩
      rw [hK7] at HD7 ⊢
      clear hK7
      obtain ⟨d0, d1⟩ := H7.out.b.c2
      obtain ⟨e0, e1⟩ := HD7.out.b.c2
      go_wp2_with (first | (go_at_call 10; refine (HRC.out _ _ _ _ H7.out.bl H7.out.g).mono ?_; rintro e w8 ⟨rfl, B8⟩; have H8 : Hid (AgS w w8 K5 ad' len' cap' 0 ns) := H7.out.later B8.out; have HD8 : Hid (AgS w w8 K7 a2 l2 c2 0 ns) := HD7.out.later B8.out; obtain ⟨d0, d1⟩ := H8.out.b.c2; obtain ⟨e0, e1⟩ := HD8.out.b.c2) | (go_at_call 12; refine (HSA.out _ _ _ HD8.out.g H8.out.g).mono ?_; rintro e w9 ⟨rfl, B9⟩) | (go_at_call 8; refine (HA.out _ (H8.out.later B9.out).bl).mono ?_; rintro e w10 ⟨rfl, H10⟩))
      go_ret
      exact ⟨rfl, H10.out⟩
theorem may_walk (d : Nat) (v : Value) (t : Tr) (w : World) (hV : TrV w d v t) (hT : Tb w) : Calls Tryz.prog 3 #[v] w fun e w' => e = .returned (.bool true) ∧ Below w.heap.size w w' := by
  obtain ⟨ad, len, cap, rfl⟩ := hV.open4
  exact may_core hV hT
end Go.Proofs.YtahmnpfmccipbaaGreatDoor.Grp
