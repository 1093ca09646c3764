/- Several texts as one: GraphRnod2. -/
import Derived.Test.YtaphijgbebhdlaaGreatDoorV36GraphRnod
section
/- The document's node, of layer 12: the other kinds. -/
namespace Go.Proofs.YtaphijgbebhdlaaGreatDoor.Grp
open Utf Rws Pln Flw
open Go.RowKit
set_option linter.unusedSimpArgs false
set_option linter.unusedVariables false
set_option maxRecDepth 100000
set_option maxHeartbeats 4000000

theorem rnode_oth {w : World} {ad kad : Option Addr} {len cap klen kcap : Nat} {r k : Int} {x : Ln} {ns : List Nd} {l : List Int} (hlen : len ≤ 1000000) (hkl : klen ≤ 1000000) (hx : x.length ≤ 65536) (hN : NAt w ad len ns) (hI : IAt w kad klen l) (hnot : k ≠ 6) :
    Calls Tryz.prog 53 #[gv ad len cap r, nv k x kad klen kcap] w fun e w' => e = .returned (.bool (nodB ns k x l)) ∧ Below w.heap.size w w' := by
  have HK6 : Hid (¬ k = 6) := hnot
  clear hnot
  obtain ⟨q, HQ⟩ : ∃ q, Hid (q = nodB ns k x l) := ⟨_, rfl⟩
  rw [← HQ.out]
  have HN : Hid (NAt w ad len ns) := hN
  have HI : Hid (IAt w kad klen l) := hI
  have HL : Hid (klen = l.length) := hI.1
  have HNL : Hid (len = ns.length) := hN.1
  clear hN hI
  have h0 : S2 w ((w.alloc (.cells #[.slice ad len cap, .int .i64 r] 24)).alloc (.cells #[.int .i64 k, .string (mk x), .slice kad klen kcap] 47)) w.heap.size (w.heap.size + 1) (.slice ad len cap) (.int .i64 r) (.int .i64 k) (.string (mk x)) (.slice kad klen kcap) := by
    have b1 := below_alloc w (.cells #[.slice ad len cap, .int .i64 r] 24)
    have s1 : (w.alloc (.cells #[.slice ad len cap, .int .i64 r] 24)).heap.size = w.heap.size + 1 := World.size_alloc _ _
    have b2 := below_alloc (w.alloc (.cells #[.slice ad len cap, .int .i64 r] 24)) (.cells #[.int .i64 k, .string (mk x), .slice kad klen kcap] 47)
    have n2 := Bx.new (w.alloc (.cells #[.slice ad len cap, .int .i64 r] 24)) #[.int .i64 k, .string (mk x), .slice kad klen kcap] 47
    rw [s1] at n2
    exact ⟨(Bx.new w _ _).later b2, n2, b1.trans (b2.mono b1.size)⟩
  have HT : Hid (∀ W, Hid (S2 w W w.heap.size (w.heap.size + 1) (.slice ad len cap) (.int .i64 r) (.int .i64 k) (.string (mk x)) (.slice kad klen kcap)) → Calls Tryz.prog 73 #[.int .i64 k, .string (mk x)] W fun e W' => e = .returned (.bool (txt k x)) ∧ Hid (S2 w W' w.heap.size (w.heap.size + 1) (.slice ad len cap) (.int .i64 r) (.int .i64 k) (.string (mk x)) (.slice kad klen kcap))) := fun W h => (rtext12_any k x W hx).mono (fun e W' q => ⟨q.1, h.out.later q.2⟩)
  have HSC : Hid (∀ k' W, Calls Tryz.prog 74 #[.int .i64 k'] W fun e W' => e = .returned (.bool (sca k')) ∧ W = W') := fun k' W => rscal12_any k' W
  have HRA : Hid (rAl k x = (decide (1 ≤ k) && decide (k ≤ 6) && txt k x)) := rAl_txt k x
  go_enter Tryz.func53, Tryz.ntmps53
  go_upto_region 1 with fail
  generalize (w.alloc (.cells #[.slice ad len cap, .int .i64 r] 24)).alloc (.cells #[.int .i64 k, .string (mk x), .slice kad klen kcap] 47) = W0 at h0 ⊢
  generalize w.heap.size + 1 = K1 at h0 HT ⊢
  obtain ⟨K0, hK0⟩ : ∃ K0, K0 = w.heap.size := ⟨_, rfl⟩
  simp only [← hK0] at h0 HT ⊢
  clear hK0
  have H0 : Hid (S2 w W0 K0 K1 (.slice ad len cap) (.int .i64 r) (.int .i64 k) (.string (mk x)) (.slice kad klen kcap)) := h0
  obtain ⟨c0, c1, c2, c3, c4⟩ := h0.c
  have HBL : Hid (Below w.heap.size w W0) := h0.bl
  clear h0
  by_cases hA : 1 ≤ k ∧ k ≤ 6
  rotate_left
  · have HQF : Hid (q = false) := by
      show _ = _
      rw [HQ.out, nodB, HRA.out]
      by_cases h1 : 1 ≤ k
      · rw [decide_eq_false (show ¬ k ≤ 6 from fun h => hA ⟨h1, h⟩)]; simp
      · rw [decide_eq_false h1]; simp
    have hk : k < 1 ∨ (¬ k < 1 ∧ 6 < k) := by omega
    clear HT HQ HRA
    rcases hk with hk | ⟨hk, hk2⟩
    all_goals
      go_wp2
      go_ret
      exact ⟨by rw [HQF.out]; rfl, HBL.out⟩
  have hk1 : ¬ k < 1 := by omega
  have hk2 : ¬ 6 < k := by omega
  rw [decide_eq_true hA.1, decide_eq_true hA.2] at HRA
  cases ht : txt k x
  · have HQF : Hid (q = false) := by
      show _ = _
      rw [HQ.out, nodB, HRA.out, ht]; rfl
    rw [ht] at HT
    clear HQ HRA ht
    go_wp2_with (go_at_call 73; refine (HT.out _ H0).mono ?_; rintro e w1 ⟨rfl, H1⟩)
    go_ret
    exact ⟨by rw [HQF.out]; rfl, H1.out.bl⟩
  rw [ht] at HT
  have HRA2 : Hid (rAl k x = true) := by show _ = _; rw [HRA.out, ht]; rfl
  clear HRA ht
  have hw : (sca k = true ∧ 0 < klen) ∨ (sca k = false ∧ (k == 6) = true ∧ ((klen : Int) % 2 == 1) = true) ∨ (sca k = true ∧ ¬ 0 < klen ∧ (k == 6) = false) ∨ (sca k = false ∧ (k == 6) = false) ∨ (sca k = false ∧ (k == 6) = true ∧ ((klen : Int) % 2 == 1) = false) := by
    cases hs : sca k
    · by_cases h6 : k = 6
      · have h6' : (k == 6) = true := by simpa using h6
        cases hm : ((klen : Int) % 2 == 1)
        · exact .inr (.inr (.inr (.inr ⟨rfl, h6', rfl⟩)))
        · exact .inr (.inl ⟨rfl, h6', rfl⟩)
      · exact .inr (.inr (.inr (.inl ⟨rfl, by simpa using h6⟩)))
    · by_cases h0 : 0 < klen
      · exact .inl ⟨rfl, h0⟩
      · refine .inr (.inr (.inl ⟨rfl, by omega, ?_⟩))
        unfold sca at hs
        rw [Bool.and_eq_true] at hs
        have := of_decide_eq_true hs.2
        rw [beq_eq_false_iff_ne]; omega
  have HKD : Hid (∀ b, rKd ns k l = b → q = (b && dif ((kys k 0 l).map (kp ns)))) := fun b hb => by rw [HQ.out, nodB, HRA2.out, hb]; rfl
  clear HQ HRA2
  have HRK : Hid (rKd ns k l = (!(sca k && decide (0 < l.length)) && !(decide (k = 6) && decide (l.length % 2 ≠ 0)) && kdOk ns k 0 l)) := rfl
  rcases hw with ⟨hs, hp⟩ | ⟨hs, h6, hm⟩ | hw
  · have HQF : Hid (q = false) := by
      have := HKD.out _ HRK.out
      rw [hs, decide_eq_true (show 0 < l.length by have := HL.out; omega)] at this
      exact this
    clear HKD HRK
    go_wp2_with (first | (go_at_call 73; refine (HT.out _ H0).mono ?_; rintro e w1 ⟨rfl, H1⟩; obtain ⟨c0, c1, c2, c3, c4⟩ := H1.out.c) | (go_at_call 74; refine (HSC.out _ _).mono ?_; rintro e w2 ⟨rfl, rfl⟩))
    go_ret
    exact ⟨by rw [HQF.out]; rfl, H1.out.bl⟩
  · have HQF : Hid (q = false) := by
      have := HKD.out _ HRK.out
      have e1 : l.length % 2 ≠ 0 := by have h := HL.out; have h2 := eq_of_beq hm; omega
      rw [decide_eq_true (eq_of_beq h6), decide_eq_true e1] at this
      show _ = _
      simpa using this
    clear HKD HRK
    go_wp2_with (first | (go_at_call 73; refine (HT.out _ H0).mono ?_; rintro e w1 ⟨rfl, H1⟩; obtain ⟨c0, c1, c2, c3, c4⟩ := H1.out.c) | (go_at_call 74; refine (HSC.out _ _).mono ?_; rintro e w2 ⟨rfl, rfl⟩))
    go_ret
    exact ⟨by rw [HQF.out]; rfl, H1.out.bl⟩
  have HQ2 : Hid (q = (kdOk ns k 0 l && dif ((kys k 0 l).map (kp ns)))) := by
    refine HKD.out _ ?_
    rw [HRK.out]
    rcases hw with ⟨hs, hp, h6⟩ | ⟨hs, h6⟩ | ⟨hs, h6, hm⟩
    · have e1 : ¬ k = 6 := by simpa using h6
      rw [hs, decide_eq_false (show ¬ 0 < l.length by have := HL.out; omega), decide_eq_false e1]; rfl
    · have e1 : ¬ k = 6 := by simpa using h6
      rw [hs, decide_eq_false e1]; rfl
    · have e1 : ¬ l.length % 2 ≠ 0 := by
        have h := HL.out
        have h2 : ¬ ((klen : Int) % 2 = 1) := by simpa using hm
        omega
      rw [hs, decide_eq_false e1]; simp
  clear HKD HRK
  rcases hw with ⟨hs, hp, h6⟩ | ⟨hs, h6⟩ | ⟨hs, h6, hm⟩
  rotate_right
  · exact absurd (eq_of_beq h6) HK6.out
  all_goals
    go_upto_region 3 with (first | (go_at_call 73; refine (HT.out _ H0).mono ?_; rintro e w1 ⟨rfl, H1⟩; obtain ⟨c0, c1, c2, c3, c4⟩ := H1.out.c) | (go_at_call 74; refine (HSC.out _ _).mono ?_; rintro e w2 ⟨rfl, rfl⟩))
    clear c0 c1 c2 c3 c4 HT H0 HBL hs
    try clear hp
    try clear hm
    obtain ⟨c0, c1, c2, c3, c4⟩ := H1.out.c
    go_wp2_with fail
    clear c0 c1 c2 c3 c4
    go_loopw [5] (fun i wr => ∃ j : Nat, j ≤ klen ∧ i = .int .i64 j ∧ Hid (S2 w wr K0 K1 (.slice ad len cap) (.int .i64 r) (.int .i64 k) (.string (mk x)) (.slice kad klen kcap)) ∧ Hid (∀ i, i < j → isP ns.length (l.getD i 0) = true)) (fun i _ => klen - (intOf i).toNat)
    case atStart => exact ⟨0, Nat.zero_le _, rfl, H1, fun i h => absurd h (Nat.not_lt_zero _)⟩
    case round =>
      obtain ⟨j, hj, rfl, HS, HPR⟩ := hrel
      clear H1
      obtain ⟨c0, c1, c2, c3, c4⟩ := HS.out.c
      by_cases hlt : j < klen
      · obtain ⟨b, off, rfl, hb, hcell⟩ := HI.out.2 (by omega)
        have x0 := (HS.out.bl.cell (p := ⟨b, off + j, none⟩) hb).trans (hcell j hlt).2
        obtain ⟨aj, haj⟩ : ∃ aj, aj = l.getD j 0 := ⟨_, rfl⟩
        rw [← haj] at x0
        have HAJ : Hid (aj = l.getD j 0) := haj
        clear haj hcell
        by_cases hP : isP ns.length aj = true
        · have HPR2 : Hid (∀ i, i < j + 1 → isP ns.length (l.getD i 0) = true) := fun i hi => by
            by_cases e : i = j
            · rw [e, ← HAJ.out]; exact hP
            · exact HPR.out i (by omega)
          have hn : 0 ≤ aj ∧ aj < (len : Int) := by
            obtain ⟨m, e, hm⟩ := isP_nat hP
            have := HNL.out
            omega
          obtain ⟨hn1, hn2⟩ := hn
          clear hP HPR
          go_wp2
          go_quiet (fail)
          go_wp2
          go_roundw
          case rel => exact ⟨j + 1, by omega, by go_num, HS.out.later (below_drewN (Below.refl _ _) _), HPR2⟩
          case measure => (simp [intOf] <;> omega)
        · have HQF : Hid (q = false) := by
            show _ = _
            rw [HQ2.out]
            cases hz : kdOk ns k 0 l
            · rfl
            · exfalso
              have := ((kdOk_iff ns k 0 l).1 hz).1 (l.getD j 0) (mem_getI (by have := HL.out; omega))
              rw [← HAJ.out] at this
              exact hP this
          have hn : aj < 0 ∨ (¬ aj < 0 ∧ (len : Int) ≤ aj) := by
            by_cases h1 : aj < 0
            · exact .inl h1
            · refine .inr ⟨h1, ?_⟩
              apply Int.not_lt.1
              intro h2
              apply hP
              have := HNL.out
              unfold isP
              rw [decide_eq_true (by omega), decide_eq_true (by omega)]; rfl
          have HBQ : Hid (∀ n, Below w.heap.size w (wr.drewN n)) := fun n => below_drewN HS.out.bl n
          clear hP HPR HQ2
          rcases hn with hn | ⟨hn, hn2⟩
          all_goals
            go_wp2
            go_quiet (fail)
            go_wp2
            go_ret
            exact ⟨by rw [HQF.out]; rfl, HBQ.out _⟩
      · have HALL : Hid (∀ a ∈ l, isP ns.length a = true) := fun a ha => by
          obtain ⟨i, hi, rfl⟩ := List.getElem_of_mem ha
          have := HPR.out i (by have := HL.out; omega)
          rw [List.getD_eq_getElem?_getD, List.getElem?_eq_getElem hi] at this
          exact this
        clear HPR
        have HQT : Hid (q = true) := by
          have h2 : kys k 0 l = [] := by
            rw [kys_V]
            apply List.eq_nil_iff_forall_not_mem.2
            intro a ha
            obtain ⟨i, _, h3, _⟩ := kyV_mem.1 ha
            unfold kyP at h3
            rw [Bool.and_eq_true] at h3
            exact HK6.out (of_decide_eq_true h3.1)
          have h1 : kdOk ns k 0 l = true := (kdOk_iff ns k 0 l).2 ⟨HALL.out, fun a ha => by rw [h2] at ha; cases ha⟩
          show _ = _
          rw [HQ2.out, h1, h2]
          rfl
        have HBL : Hid (Below w.heap.size w wr) := HS.out.bl
        clear HQ2 HALL HS HK6
        go_wp2_with fail
        go_loopw [6] (fun i wq => wq = wr ∧ i = .int .i64 0) (fun _ _ => 0)
        case atStart => exact ⟨rfl, rfl⟩
        case round =>
          obtain ⟨rfl, rfl⟩ := hrel
          by_cases hz : 0 < klen
          all_goals
            go_wp2
            go_ret
            exact ⟨by rw [HQT.out]; rfl, HBL.out⟩
theorem rnode_any {w : World} {ad kad : Option Addr} {len cap klen kcap : Nat} {r k : Int} {x : Ln} {ns : List Nd} {l : List Int} (hlen : len ≤ 1000000) (hkl : klen ≤ 1000000) (hx : x.length ≤ 65536) (hN : NAt w ad len ns) (hI : IAt w kad klen l) :
    Calls Tryz.prog 53 #[gv ad len cap r, nv k x kad klen kcap] w fun e w' => e = .returned (.bool (nodB ns k x l)) ∧ Below w.heap.size w w' := by
  by_cases h : k = 6
  · exact rnode_six hlen hkl hx hN hI h
  · exact rnode_oth hlen hkl hx hN hI h
end Go.Proofs.YtaphijgbebhdlaaGreatDoor.Grp
end
