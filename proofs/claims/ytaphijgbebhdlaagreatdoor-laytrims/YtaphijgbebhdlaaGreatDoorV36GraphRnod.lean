/- Several texts as one: GraphRnod. -/
import Derived.Test.YtaphijgbebhdlaaGreatDoorV35GraphRtxt
import Derived.Test.YtaphijgbebhdlaaGreatDoorV32GraphKyV
import Derived.BigRegion
import Derived.BigQuiet
import Derived.Deep.QuietTactic
section
/- The document's node, of layer 12, by its contract. -/
namespace Go.Proofs.YtaphijgbebhdlaaGreatDoor.Grp
open Utf Rws Pln Flw
open Go.RowKit
set_option linter.unusedSimpArgs false
set_option linter.unusedVariables false
set_option maxRecDepth 100000
set_option maxHeartbeats 4000000

/-- what the document's node answers -/
def nodB (ns : List Nd) (k : Int) (x : Ln) (l : List Int) : Bool := rAl k x && rKd ns k l && dif ((kys k 0 l).map (kp ns))
theorem rAl_txt (k : Int) (x : Ln) : rAl k x = (decide (1 ≤ k) && decide (k ≤ 6) && txt k x) := by
  have e : rAl k x = ral k x [] 0 := by
    unfold rAl rgh
    rw [alw]
    show (if 0 + 1 > 4096 ∨ (if isLst ⟨k, x, [], []⟩ = true then 0 + 1 else 0) > 64 ∨ ral k x [] 0 = false then none else alk _ _ 0 [] (0 + 1)).isSome = _
    cases hr : ral k x [] 0
    · rw [if_pos (.inr (.inr rfl))]; rfl
    · rw [if_neg]
      · rfl
      · simp only [not_or]
        refine ⟨by omega, by split <;> omega, by decide⟩
  have hc : rct k 0 = true := by
    unfold rct
    split
    · rfl
    · split <;> rfl
  have hn : ran k [] = decide (k ≠ 7) := by unfold ran; rw [if_pos rfl]
  rw [e, ral, rtx_txt, hc, hn]
  by_cases h1 : 1 ≤ k
  · by_cases h6 : k ≤ 6
    · rw [decide_eq_true h1, decide_eq_true h6, decide_eq_true (show k ≤ 7 by omega), decide_eq_true (show k ≠ 7 by omega)]
      simp
    · by_cases h7 : k = 7
      · subst h7; simp
      · rw [decide_eq_false h6, decide_eq_false (show ¬ k ≤ 7 by omega)]; simp
  · rw [decide_eq_false h1]; simp
theorem rnode_six {w : World} {ad kad : Option Addr} {len cap klen kcap : Nat} {r k : Int} {x : Ln} {ns : List Nd} {l : List Int} (hlen : len ≤ 1000000) (hkl : klen ≤ 1000000) (hx : x.length ≤ 65536) (hN : NAt w ad len ns) (hI : IAt w kad klen l) (hsix : k = 6) :
    Calls Tryz.prog 53 #[gv ad len cap r, nv k x kad klen kcap] w fun e w' => e = .returned (.bool (nodB ns k x l)) ∧ Below w.heap.size w w' := by
  have HSX : Hid (k = 6) := hsix
  clear hsix
  obtain ⟨q, HQ⟩ : ∃ q, Hid (q = nodB ns k x l) := ⟨_, rfl⟩
  rw [← HQ.out]
  have HN : Hid (NAt w ad len ns) := hN
  have HI : Hid (IAt w kad klen l) := hI
  have HL : Hid (klen = l.length) := hI.1
  have HNL : Hid (len = ns.length) := hN.1
  clear hN hI
  have h0 : S2 w ((w.alloc (.cells #[.slice ad len cap, .int .i64 r] 24)).alloc (.cells #[.int .i64 k, .string (mk x), .slice kad klen kcap] 47)) w.heap.size (w.heap.size + 1) (.slice ad len cap) (.int .i64 r) (.int .i64 k) (.string (mk x)) (.slice kad klen kcap) := by
    have b1 := below_alloc w (.cells #[.slice ad len cap, .int .i64 r] 24)
    have s1 : (w.alloc (.cells #[.slice ad len cap, .int .i64 r] 24)).heap.size = w.heap.size + 1 := World.size_alloc _ _
    have b2 := below_alloc (w.alloc (.cells #[.slice ad len cap, .int .i64 r] 24)) (.cells #[.int .i64 k, .string (mk x), .slice kad klen kcap] 47)
    have n2 := Bx.new (w.alloc (.cells #[.slice ad len cap, .int .i64 r] 24)) #[.int .i64 k, .string (mk x), .slice kad klen kcap] 47
    rw [s1] at n2
    exact ⟨(Bx.new w _ _).later b2, n2, b1.trans (b2.mono b1.size)⟩
  have HT : Hid (∀ W, Hid (S2 w W w.heap.size (w.heap.size + 1) (.slice ad len cap) (.int .i64 r) (.int .i64 k) (.string (mk x)) (.slice kad klen kcap)) → Calls Tryz.prog 73 #[.int .i64 k, .string (mk x)] W fun e W' => e = .returned (.bool (txt k x)) ∧ Hid (S2 w W' w.heap.size (w.heap.size + 1) (.slice ad len cap) (.int .i64 r) (.int .i64 k) (.string (mk x)) (.slice kad klen kcap))) := fun W h => (rtext12_any k x W hx).mono (fun e W' q => ⟨q.1, h.out.later q.2⟩)
  have HSC : Hid (∀ k' W, Calls Tryz.prog 74 #[.int .i64 k'] W fun e W' => e = .returned (.bool (sca k')) ∧ W = W') := fun k' W => rscal12_any k' W
  have HRA : Hid (rAl k x = (decide (1 ≤ k) && decide (k ≤ 6) && txt k x)) := rAl_txt k x
  go_enter Tryz.func53, Tryz.ntmps53
  go_upto_region 1 with fail
  generalize (w.alloc (.cells #[.slice ad len cap, .int .i64 r] 24)).alloc (.cells #[.int .i64 k, .string (mk x), .slice kad klen kcap] 47) = W0 at h0 ⊢
  generalize w.heap.size + 1 = K1 at h0 HT ⊢
  obtain ⟨K0, hK0⟩ : ∃ K0, K0 = w.heap.size := ⟨_, rfl⟩
  simp only [← hK0] at h0 HT ⊢
  clear hK0
  have H0 : Hid (S2 w W0 K0 K1 (.slice ad len cap) (.int .i64 r) (.int .i64 k) (.string (mk x)) (.slice kad klen kcap)) := h0
  obtain ⟨c0, c1, c2, c3, c4⟩ := h0.c
  have HBL : Hid (Below w.heap.size w W0) := h0.bl
  clear h0
  by_cases hA : 1 ≤ k ∧ k ≤ 6
  rotate_left
  · have HQF : Hid (q = false) := by
      show _ = _
      rw [HQ.out, nodB, HRA.out]
      by_cases h1 : 1 ≤ k
      · rw [decide_eq_false (show ¬ k ≤ 6 from fun h => hA ⟨h1, h⟩)]; simp
      · rw [decide_eq_false h1]; simp
    have hk : k < 1 ∨ (¬ k < 1 ∧ 6 < k) := by omega
    clear HT HQ HRA
    rcases hk with hk | ⟨hk, hk2⟩
    all_goals
      go_wp2
      go_ret
      exact ⟨by rw [HQF.out]; rfl, HBL.out⟩
  have hk1 : ¬ k < 1 := by omega
  have hk2 : ¬ 6 < k := by omega
  rw [decide_eq_true hA.1, decide_eq_true hA.2] at HRA
  cases ht : txt k x
  · have HQF : Hid (q = false) := by
      show _ = _
      rw [HQ.out, nodB, HRA.out, ht]; rfl
    rw [ht] at HT
    clear HQ HRA ht
    go_wp2_with (go_at_call 73; refine (HT.out _ H0).mono ?_; rintro e w1 ⟨rfl, H1⟩)
    go_ret
    exact ⟨by rw [HQF.out]; rfl, H1.out.bl⟩
  rw [ht] at HT
  have HRA2 : Hid (rAl k x = true) := by show _ = _; rw [HRA.out, ht]; rfl
  clear HRA ht
  have hw : (sca k = true ∧ 0 < klen) ∨ (sca k = false ∧ (k == 6) = true ∧ ((klen : Int) % 2 == 1) = true) ∨ (sca k = true ∧ ¬ 0 < klen ∧ (k == 6) = false) ∨ (sca k = false ∧ (k == 6) = false) ∨ (sca k = false ∧ (k == 6) = true ∧ ((klen : Int) % 2 == 1) = false) := by
    cases hs : sca k
    · by_cases h6 : k = 6
      · have h6' : (k == 6) = true := by simpa using h6
        cases hm : ((klen : Int) % 2 == 1)
        · exact .inr (.inr (.inr (.inr ⟨rfl, h6', rfl⟩)))
        · exact .inr (.inl ⟨rfl, h6', rfl⟩)
      · exact .inr (.inr (.inr (.inl ⟨rfl, by simpa using h6⟩)))
    · by_cases h0 : 0 < klen
      · exact .inl ⟨rfl, h0⟩
      · refine .inr (.inr (.inl ⟨rfl, by omega, ?_⟩))
        unfold sca at hs
        rw [Bool.and_eq_true] at hs
        have := of_decide_eq_true hs.2
        rw [beq_eq_false_iff_ne]; omega
  have HKD : Hid (∀ b, rKd ns k l = b → q = (b && dif ((kys k 0 l).map (kp ns)))) := fun b hb => by rw [HQ.out, nodB, HRA2.out, hb]; rfl
  clear HQ HRA2
  have HRK : Hid (rKd ns k l = (!(sca k && decide (0 < l.length)) && !(decide (k = 6) && decide (l.length % 2 ≠ 0)) && kdOk ns k 0 l)) := rfl
  rcases hw with ⟨hs, hp⟩ | ⟨hs, h6, hm⟩ | hw
  · have HQF : Hid (q = false) := by
      have := HKD.out _ HRK.out
      rw [hs, decide_eq_true (show 0 < l.length by have := HL.out; omega)] at this
      exact this
    clear HKD HRK
    go_wp2_with (first | (go_at_call 73; refine (HT.out _ H0).mono ?_; rintro e w1 ⟨rfl, H1⟩; obtain ⟨c0, c1, c2, c3, c4⟩ := H1.out.c) | (go_at_call 74; refine (HSC.out _ _).mono ?_; rintro e w2 ⟨rfl, rfl⟩))
    go_ret
    exact ⟨by rw [HQF.out]; rfl, H1.out.bl⟩
  · have HQF : Hid (q = false) := by
      have := HKD.out _ HRK.out
      have e1 : l.length % 2 ≠ 0 := by have h := HL.out; have h2 := eq_of_beq hm; omega
      rw [decide_eq_true (eq_of_beq h6), decide_eq_true e1] at this
      show _ = _
      simpa using this
    clear HKD HRK
    go_wp2_with (first | (go_at_call 73; refine (HT.out _ H0).mono ?_; rintro e w1 ⟨rfl, H1⟩; obtain ⟨c0, c1, c2, c3, c4⟩ := H1.out.c) | (go_at_call 74; refine (HSC.out _ _).mono ?_; rintro e w2 ⟨rfl, rfl⟩))
    go_ret
    exact ⟨by rw [HQF.out]; rfl, H1.out.bl⟩
  have HQ2 : Hid (q = (kdOk ns k 0 l && dif ((kys k 0 l).map (kp ns)))) := by
    refine HKD.out _ ?_
    rw [HRK.out]
    rcases hw with ⟨hs, hp, h6⟩ | ⟨hs, h6⟩ | ⟨hs, h6, hm⟩
    · have e1 : ¬ k = 6 := by simpa using h6
      rw [hs, decide_eq_false (show ¬ 0 < l.length by have := HL.out; omega), decide_eq_false e1]; rfl
    · have e1 : ¬ k = 6 := by simpa using h6
      rw [hs, decide_eq_false e1]; rfl
    · have e1 : ¬ l.length % 2 ≠ 0 := by
        have h := HL.out
        have h2 : ¬ ((klen : Int) % 2 = 1) := by simpa using hm
        omega
      rw [hs, decide_eq_false e1]; simp
  clear HKD HRK
  rcases hw with ⟨hs, hp, h6⟩ | ⟨hs, h6⟩ | ⟨hs, h6, hm⟩
  · rw [HSX.out] at h6; cases h6
  · rw [HSX.out] at h6; cases h6
  all_goals
    clear HSX
    go_upto_region 3 with (first | (go_at_call 73; refine (HT.out _ H0).mono ?_; rintro e w1 ⟨rfl, H1⟩; obtain ⟨c0, c1, c2, c3, c4⟩ := H1.out.c) | (go_at_call 74; refine (HSC.out _ _).mono ?_; rintro e w2 ⟨rfl, rfl⟩))
    obtain ⟨K6, hK6⟩ : ∃ K6, (k == 6) = K6 := ⟨_, rfl⟩
    have HK6 : Hid (K6 = decide (k = 6)) := by show _ = _; rw [← hK6]; rfl
    clear c0 c1 c2 c3 c4 h6 HT H0 HBL hs
    try clear hp
    try clear hm
    obtain ⟨c0, c1, c2, c3, c4⟩ := H1.out.c
    go_wp2_with fail
    clear c0 c1 c2 c3 c4
    go_loopw [5] (fun i wr => ∃ j : Nat, j ≤ klen ∧ i = .int .i64 j ∧ Hid (S2 w wr K0 K1 (.slice ad len cap) (.int .i64 r) (.int .i64 k) (.string (mk x)) (.slice kad klen kcap)) ∧ Hid (∀ i, i < j → isP ns.length (l.getD i 0) = true)) (fun i _ => klen - (intOf i).toNat)
    case atStart => exact ⟨0, Nat.zero_le _, rfl, H1, fun i h => absurd h (Nat.not_lt_zero _)⟩
    case round =>
      obtain ⟨j, hj, rfl, HS, HPR⟩ := hrel
      clear H1
      obtain ⟨c0, c1, c2, c3, c4⟩ := HS.out.c
      by_cases hlt : j < klen
      · obtain ⟨b, off, rfl, hb, hcell⟩ := HI.out.2 (by omega)
        have x0 := (HS.out.bl.cell (p := ⟨b, off + j, none⟩) hb).trans (hcell j hlt).2
        obtain ⟨aj, haj⟩ : ∃ aj, aj = l.getD j 0 := ⟨_, rfl⟩
        rw [← haj] at x0
        have HAJ : Hid (aj = l.getD j 0) := haj
        clear haj hcell
        by_cases hP : isP ns.length aj = true
        · have HPR2 : Hid (∀ i, i < j + 1 → isP ns.length (l.getD i 0) = true) := fun i hi => by
            by_cases e : i = j
            · rw [e, ← HAJ.out]; exact hP
            · exact HPR.out i (by omega)
          have hn : 0 ≤ aj ∧ aj < (len : Int) := by
            obtain ⟨m, e, hm⟩ := isP_nat hP
            have := HNL.out
            omega
          obtain ⟨hn1, hn2⟩ := hn
          clear hP HPR
          go_wp2
          go_quiet (fail)
          go_wp2
          go_roundw
          case rel => exact ⟨j + 1, by omega, by go_num, HS.out.later (below_drewN (Below.refl _ _) _), HPR2⟩
          case measure => (simp [intOf] <;> omega)
        · have HQF : Hid (q = false) := by
            show _ = _
            rw [HQ2.out]
            cases hz : kdOk ns k 0 l
            · rfl
            · exfalso
              have := ((kdOk_iff ns k 0 l).1 hz).1 (l.getD j 0) (mem_getI (by have := HL.out; omega))
              rw [← HAJ.out] at this
              exact hP this
          have hn : aj < 0 ∨ (¬ aj < 0 ∧ (len : Int) ≤ aj) := by
            by_cases h1 : aj < 0
            · exact .inl h1
            · refine .inr ⟨h1, ?_⟩
              apply Int.not_lt.1
              intro h2
              apply hP
              have := HNL.out
              unfold isP
              rw [decide_eq_true (by omega), decide_eq_true (by omega)]; rfl
          have HBQ : Hid (∀ n, Below w.heap.size w (wr.drewN n)) := fun n => below_drewN HS.out.bl n
          clear hP HPR HQ2
          rcases hn with hn | ⟨hn, hn2⟩
          all_goals
            go_wp2
            go_quiet (fail)
            go_wp2
            go_ret
            exact ⟨by rw [HQF.out]; rfl, HBQ.out _⟩
      · have HALL : Hid (∀ a ∈ l, isP ns.length a = true) := fun a ha => by
          obtain ⟨i, hi, rfl⟩ := List.getElem_of_mem ha
          have := HPR.out i (by have := HL.out; omega)
          rw [List.getD_eq_getElem?_getD, List.getElem?_eq_getElem hi] at this
          exact this
        clear HPR
        go_wp2_with fail
        clear c0 c1 c2 c3 c4
        clear hlt hj
        go_loopw [6] (fun i wq => ∃ i2 : Nat, i2 % 2 = 0 ∧ i2 ≤ klen + 1 ∧ i = .int .i64 i2 ∧ Hid (S2 w wq K0 K1 (.slice ad len cap) (.int .i64 r) (.int .i64 k) (.string (mk x)) (.slice kad klen kcap)) ∧ Hid (((kyV k l i2).map (kp ns)).Nodup ∧ ∀ a ∈ kyV k l i2, sca (ns.getD a.toNat nd0).kind = true)) (fun v _ => klen + 2 - (intOf v).toNat)
        case atStart => exact ⟨0, rfl, Nat.zero_le _, rfl, HS, (by simp [kyV] : ((kyV k l 0).map (kp ns)).Nodup ∧ ∀ a ∈ kyV k l 0, sca (ns.getD a.toNat nd0).kind = true)⟩
        case round =>
          obtain ⟨i2, hev, hi2, rfl, HW, HIN⟩ := hrel
          clear HS
          by_cases hin : i2 < klen ∧ K6 = true
          · obtain ⟨hik, rfl⟩ := hin
            have hk6 : k = 6 := of_decide_eq_true HK6.out.symm
            have HKP : Hid (kyP k i2 = true ∧ ∀ i, kyP k i = decide (i % 2 = 0)) := by
              unfold kyP
              rw [decide_eq_true hk6, decide_eq_true hev]
              exact ⟨rfl, fun i => by simp⟩
            clear hk6
            obtain ⟨b, off, rfl, hb, hcell⟩ := HI.out.2 (by omega)
            have hil : i2 < l.length := by have := HL.out; omega
            obtain ⟨m2, hm2, hm2l⟩ := isP_nat (HALL.out _ (mem_getI hil))
            obtain ⟨nb, noff, rfl, hnb, hnc⟩ := HN.out.2 (by have := HNL.out; omega)
            have HCN : Hid (∀ m, m < len → ∃ ka kl kc, w.cell? ⟨nb, noff + m * 3, none⟩ = some (.int .i64 (ns.getD m nd0).kind) ∧ w.cell? ⟨nb, noff + m * 3 + 1, none⟩ = some (.string (mk (ns.getD m nd0).text)) ∧ w.cell? ⟨nb, noff + m * 3 + 2, none⟩ = some (.slice ka kl kc)) := fun m hm => by
              obtain ⟨ka, kl, kc, _, _, _, _, _, g6, g7, g8⟩ := hnc m hm
              exact ⟨ka, kl, kc, g6, g7, g8⟩
            have HCK : Hid (∀ i, i < klen → w.cell? ⟨b, off + i, none⟩ = some (.int .i64 (l.getD i 0))) := fun i hi => (hcell i hi).2
            have hml : m2 < len := by have := HNL.out; omega
            obtain ⟨ka, kl, kc, g6, g7, g8⟩ := HCN.out m2 hml
            have x0 := (HW.out.bl.cell (p := ⟨b, off + i2, none⟩) hb).trans (HCK.out i2 hik)
            rw [hm2] at x0
            replace g6 := (HW.out.bl.cell (p := ⟨nb, noff + m2 * 3, none⟩) hnb).trans g6
            replace g7 := (HW.out.bl.cell (p := ⟨nb, noff + m2 * 3 + 1, none⟩) hnb).trans g7
            replace g8 := (HW.out.bl.cell (p := ⟨nb, noff + m2 * 3 + 2, none⟩) hnb).trans g8
            obtain ⟨km, hkm⟩ : ∃ km, km = (ns.getD m2 nd0).kind := ⟨_, rfl⟩
            obtain ⟨xm, hxm⟩ : ∃ xm, xm = (ns.getD m2 nd0).text := ⟨_, rfl⟩
            rw [← hkm] at g6
            rw [← hxm] at g7
            have HP2 : Hid (kp ns (l.getD i2 0) = (km, xm) ∧ (ns.getD (l.getD i2 0).toNat nd0).kind = km) := by
              show _ ∧ _
              unfold kp
              rw [hm2, Int.toNat_natCast, ← hkm, ← hxm]
              exact ⟨rfl, rfl⟩
            clear hcell hnc hkm hxm hm2
            obtain ⟨c0, c1, c2, c3, c4⟩ := HW.out.c
            have hq0 : K0 < wr.heap.size := HW.out.g.lt
            have hq1 : K1 < wr.heap.size := HW.out.n.lt
            have hq2 : b < wr.heap.size := Nat.lt_of_lt_of_le hb HW.out.bl.size
            have hq3 : nb < wr.heap.size := Nat.lt_of_lt_of_le hnb HW.out.bl.size
            go_wp2
            go_region
            have b7 : Below wr.heap.size wr (wr.alloc (.cells #[.int .i64 km, .string (mk xm), .slice ka kl kc] 47)).drew := (below_alloc wr (.cells #[.int .i64 km, .string (mk xm), .slice ka kl kc] 47)).drew
            have H2 : Hid (S2 w (wr.alloc (.cells #[.int .i64 km, .string (mk xm), .slice ka kl kc] 47)).drew K0 K1 (.slice (some ⟨nb, noff, none⟩) len cap) (.int .i64 r) (.int .i64 k) (.string (mk x)) (.slice (some ⟨b, off, none⟩) klen kcap)) := HW.out.later b7
            have N7 : Hid (Bx (wr.alloc (.cells #[.int .i64 km, .string (mk xm), .slice ka kl kc] 47)).drew wr.heap.size #[.int .i64 km, .string (mk xm), .slice ka kl kc] 47) := Bx.new wr #[.int .i64 km, .string (mk xm), .slice ka kl kc] 47
            generalize (wr.alloc (.cells #[.int .i64 km, .string (mk xm), .slice ka kl kc] 47)).drew = W2 at H2 N7 ⊢
            obtain ⟨K7, hK7⟩ : ∃ K7, K7 = wr.heap.size := ⟨_, rfl⟩
            rw [← hK7] at N7 ⊢
            clear hK7 b7 HW c0 c1 c2 c3 c4 g6 g7 g8 x0 hq0 hq1 hq2 hq3
            obtain ⟨n0, n1, n2⟩ := N7.out.c3
            have HMK : Hid (l.getD i2 0 ∈ kys k 0 l) := by
              show _ ∈ _
              rw [kys_V]
              exact kyV_mem.2 ⟨i2, hil, HKP.out.1, rfl⟩
            cases hsm : sca km
            · have HQF : Hid (q = false) := by
                show _ = _
                rw [HQ2.out]
                cases hz : kdOk ns k 0 l
                · rfl
                · exfalso
                  have := ((kdOk_iff ns k 0 l).1 hz).2 _ HMK.out
                  rw [HP2.out.2, hsm] at this
                  cases this
              have HBL : Hid (Below w.heap.size w W2) := H2.out.bl
              clear HQ2 HMK HP2 HIN HALL
              go_wp2_with (go_at_call 74; refine (HSC.out _ _).mono ?_; rintro e w2 ⟨rfl, rfl⟩)
              go_ret
              exact ⟨by rw [HQF.out]; rfl, HBL.out⟩
            · have HSM : Hid (sca km = true) := hsm
              go_wp2_with (go_at_call 74; refine (HSC.out _ _).mono ?_; rintro e w2 ⟨rfl, rfl⟩)
              clear n0 n1 n2 hsm
              go_loopw [8] (fun i wz => ∃ i3 : Nat, i3 % 2 = 0 ∧ i3 ≤ i2 + 1 ∧ i = .int .i64 i3 ∧ Hid (S2 w wz K0 K1 (.slice (some ⟨nb, noff, none⟩) len cap) (.int .i64 r) (.int .i64 k) (.string (mk x)) (.slice (some ⟨b, off, none⟩) klen kcap)) ∧ Hid (Bx wz K7 #[.int .i64 km, .string (mk xm), .slice ka kl kc] 47) ∧ Hid ((km, xm) ∉ (kyV k l i3).map (kp ns))) (fun v _ => i2 + 2 - (intOf v).toNat)
              case atStart => exact ⟨0, rfl, Nat.zero_le _, rfl, H2, N7, (by simp [kyV] : (km, xm) ∉ (kyV k l 0).map (kp ns))⟩
              case round =>
                obtain ⟨i3, hev3, hi3, rfl, HZ, HZ7, HNI⟩ := hrel
                clear H2 N7
                obtain ⟨c0, c1, c2, c3, c4⟩ := HZ.out.c
                obtain ⟨n0, n1, n2⟩ := HZ7.out.c3
                by_cases h32 : i3 < i2
                · have hil3 : i3 < l.length := by omega
                  obtain ⟨m3, hm3, hm3l⟩ := isP_nat (HALL.out _ (mem_getI hil3))
                  have hml3 : m3 < len := by have := HNL.out; omega
                  have hik3 : i3 < klen := by omega
                  obtain ⟨ka3, kl3, kc3, g6, g7, g8⟩ := HCN.out m3 hml3
                  have x0 := (HZ.out.bl.cell (p := ⟨b, off + i3, none⟩) hb).trans (HCK.out i3 hik3)
                  rw [hm3] at x0
                  replace g6 := (HZ.out.bl.cell (p := ⟨nb, noff + m3 * 3, none⟩) hnb).trans g6
                  replace g7 := (HZ.out.bl.cell (p := ⟨nb, noff + m3 * 3 + 1, none⟩) hnb).trans g7
                  replace g8 := (HZ.out.bl.cell (p := ⟨nb, noff + m3 * 3 + 2, none⟩) hnb).trans g8
                  obtain ⟨kn, hkn⟩ : ∃ kn, kn = (ns.getD m3 nd0).kind := ⟨_, rfl⟩
                  obtain ⟨xn, hxn⟩ : ∃ xn, xn = (ns.getD m3 nd0).text := ⟨_, rfl⟩
                  rw [← hkn] at g6
                  rw [← hxn] at g7
                  have HP3 : Hid (kp ns (l.getD i3 0) = (kn, xn)) := by
                    show _ = _
                    unfold kp
                    rw [hm3, Int.toNat_natCast, ← hkn, ← hxn]
                  clear hkn hxn hm3
                  have hq0 : K0 < wr.heap.size := HZ.out.g.lt
                  have hq1 : K1 < wr.heap.size := HZ.out.n.lt
                  have hq2 : b < wr.heap.size := Nat.lt_of_lt_of_le hb HZ.out.bl.size
                  have hq3 : nb < wr.heap.size := Nat.lt_of_lt_of_le hnb HZ.out.bl.size
                  have hq7 : K7 < wr.heap.size := HZ7.out.lt
                  go_wp2
                  go_region
                  have b9 : Below wr.heap.size wr (wr.alloc (.cells #[.int .i64 kn, .string (mk xn), .slice ka3 kl3 kc3] 47)).drew := (below_alloc wr (.cells #[.int .i64 kn, .string (mk xn), .slice ka3 kl3 kc3] 47)).drew
                  have H3 : Hid (S2 w (wr.alloc (.cells #[.int .i64 kn, .string (mk xn), .slice ka3 kl3 kc3] 47)).drew K0 K1 (.slice (some ⟨nb, noff, none⟩) len cap) (.int .i64 r) (.int .i64 k) (.string (mk x)) (.slice (some ⟨b, off, none⟩) klen kcap)) := HZ.out.later b9
                  have H37 : Hid (Bx (wr.alloc (.cells #[.int .i64 kn, .string (mk xn), .slice ka3 kl3 kc3] 47)).drew K7 #[.int .i64 km, .string (mk xm), .slice ka kl kc] 47) := HZ7.out.later b9
                  have N9 : Hid (Bx (wr.alloc (.cells #[.int .i64 kn, .string (mk xn), .slice ka3 kl3 kc3] 47)).drew wr.heap.size #[.int .i64 kn, .string (mk xn), .slice ka3 kl3 kc3] 47) := Bx.new wr #[.int .i64 kn, .string (mk xn), .slice ka3 kl3 kc3] 47
                  generalize (wr.alloc (.cells #[.int .i64 kn, .string (mk xn), .slice ka3 kl3 kc3] 47)).drew = W3 at H3 H37 N9 ⊢
                  obtain ⟨K9, hK9⟩ : ∃ K9, K9 = wr.heap.size := ⟨_, rfl⟩
                  rw [← hK9] at N9 ⊢
                  clear hK9 b9 HZ HZ7 c0 c1 c2 c3 c4 n0 n1 n2 g6 g7 g8 x0 hq0 hq1 hq2 hq3 hq7
                  obtain ⟨n0, n1, n2⟩ := H37.out.c3
                  obtain ⟨o0, o1, o2⟩ := N9.out.c3
                  by_cases hpe : (kn, xn) = (km, xm)
                  · have hp1 : (kn == km) = true := by rw [show kn = km from congrArg Prod.fst hpe]; simp
                    have hp2 : ((mk xn).toList == (mk xm).toList) = true := by rw [show xn = xm from congrArg Prod.snd hpe]; simp
                    have HQF : Hid (q = false) := by
                      show _ = _
                      have hpre := kyV_pre k l (show i2 + 1 ≤ l.length by omega)
                      have hd : dif ((kys k 0 l).map (kp ns)) = false := by
                        rw [kys_V]
                        refine dif_pre (hpre.map (kp ns)) ?_
                        rw [kyV_succ, if_pos HKP.out.1, List.map_append, List.nodup_append]
                        rintro ⟨_, _, h9⟩
                        refine h9 (km, xm) ?_ (km, xm) ?_ rfl
                        · rw [← hpe, ← HP3.out]
                          exact List.mem_map_of_mem (kyV_mem.2 ⟨i3, h32, by rw [HKP.out.2, decide_eq_true hev3], rfl⟩)
                        · rw [List.map_cons, HP2.out.1]; simp
                      rw [HQ2.out, hd, Bool.and_false]
                    have HBL : Hid (Below w.heap.size w W3) := H3.out.bl
                    clear hpe HNI HP3 HP2 HQ2 HIN HMK HALL
                    go_wp2
                    go_ret
                    exact ⟨by rw [HQF.out]; rfl, HBL.out⟩
                  · have HNI2 : Hid ((km, xm) ∉ (kyV k l (i3 + 2)).map (kp ns)) := by
                      intro hm
                      obtain ⟨a, ha, ea⟩ := List.mem_map.1 hm
                      obtain ⟨i, h1, h2, h3⟩ := kyV_mem.1 ha
                      rw [HKP.out.2] at h2
                      have h4 := of_decide_eq_true h2
                      by_cases h5 : i < i3
                      · exact HNI.out (List.mem_map.2 ⟨a, kyV_mem.2 ⟨i, h5, by rw [HKP.out.2]; exact h2, h3⟩, ea⟩)
                      · have h6 : i = i3 := by omega
                        subst h6
                        rw [← h3, HP3.out] at ea
                        exact hpe ea
                    have hq : (kn == km) = false ∨ (kn == km) = true ∧ ((mk xn).toList == (mk xm).toList) = false := by
                      by_cases h1 : kn = km
                      · refine .inr ⟨by simpa using h1, ?_⟩
                        rw [beq_mk]
                        by_cases h2 : xn = xm
                        · exact absurd (by rw [h1, h2]) hpe
                        · simpa using h2
                      · exact .inl (by simpa using h1)
                    clear hpe
                    rcases hq with hp1 | ⟨hp1, hp2⟩
                    all_goals
                      go_wp2
                      go_roundw
                      case rel => exact ⟨i3 + 2, by omega, by omega, by go_num, H3, H37, HNI2⟩
                      case measure => (simp [intOf] <;> omega)
                · have e3 : i3 = i2 := by omega
                  have HIN2 : Hid (((kyV k l (i2 + 2)).map (kp ns)).Nodup ∧ ∀ a ∈ kyV k l (i2 + 2), sca (ns.getD a.toNat nd0).kind = true) := by
                    have ek : kyV k l (i2 + 2) = kyV k l i2 ++ [l.getD i2 0] := by
                      rw [show i2 + 2 = i2 + 1 + 1 from rfl, kyV_succ, if_neg (by rw [HKP.out.2]; simp; omega), kyV_succ, if_pos HKP.out.1]
                    rw [ek]
                    refine ⟨?_, fun a ha => ?_⟩
                    · rw [List.map_append, List.nodup_append]
                      refine ⟨HIN.out.1, by simp, fun p hp p' hp' => ?_⟩
                      rw [List.map_cons, List.map_nil, List.mem_singleton, HP2.out.1] at hp'
                      rw [hp']
                      rintro rfl
                      rw [e3] at HNI
                      exact HNI.out hp
                    · rcases List.mem_append.1 ha with ha | ha
                      · exact HIN.out.2 a ha
                      · rw [List.mem_singleton.1 ha, HP2.out.2]; exact HSM.out
                  clear HNI HIN HP2 HMK HSM
                  go_wp2
                  go_roundw
                  case rel => exact ⟨i2 + 2, by omega, by omega, by go_num, HZ, HIN2⟩
                  case measure => (simp [intOf] <;> omega)
          · have HQT : Hid (q = true) := by
              have h1 : kdOk ns k 0 l = true ∧ ((kys k 0 l).map (kp ns)).Nodup := by
                by_cases hk6 : K6 = true
                · have h2 : klen ≤ i2 := by
                    apply Nat.le_of_not_lt
                    intro h; exact hin ⟨h, hk6⟩
                  rw [kys_V]
                  have hpre := kyV_pre k l (show l.length ≤ i2 by have := HL.out; omega)
                  refine ⟨(kdOk_iff ns k 0 l).2 ⟨HALL.out, fun a ha => HIN.out.2 a ?_⟩, ?_⟩
                  · rw [kys_V] at ha; exact hpre.subset ha
                  · exact List.Sublist.nodup ((hpre.map (kp ns)).sublist) HIN.out.1
                · have h2 : kys k 0 l = [] := by
                    rw [kys_V]
                    apply List.eq_nil_iff_forall_not_mem.2
                    intro a ha
                    obtain ⟨i, _, h3, _⟩ := kyV_mem.1 ha
                    unfold kyP at h3
                    rw [Bool.and_eq_true] at h3
                    exact hk6 (by rw [HK6.out]; exact h3.1)
                  rw [h2]
                  refine ⟨(kdOk_iff ns k 0 l).2 ⟨HALL.out, fun a ha => ?_⟩, by simp⟩
                  rw [h2] at ha; cases ha
              show _ = _
              rw [HQ2.out, h1.1]
              exact decide_eq_true h1.2
            have hx2 : ¬ i2 < klen ∨ (i2 < klen ∧ K6 = false) := by
              by_cases h : i2 < klen
              · refine .inr ⟨h, ?_⟩
                cases hz : K6
                · rfl
                · exact absurd ⟨h, hz⟩ hin
              · exact .inl h
            obtain ⟨c0, c1, c2, c3, c4⟩ := HW.out.c
            have HBL : Hid (Below w.heap.size w wr) := HW.out.bl
            clear HIN HQ2 HALL hin HW HK6
            rcases hx2 with hx2 | ⟨hx2, rfl⟩
            all_goals
              go_wp2
              go_ret
              exact ⟨by rw [HQT.out]; rfl, HBL.out⟩
end Go.Proofs.YtaphijgbebhdlaaGreatDoor.Grp
end
