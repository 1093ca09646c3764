/- The reference's Read of a text in single quotes, by its contract. -/
import Derived.Test.YtiipndfogofhgaaDoorQuoteOb
namespace Go.Proofs.YtiipndfogofhgaaDoor.Quo
open Utf Rws
open Go.RowKit
set_option linter.unusedSimpArgs false
set_option linter.unusedVariables false
set_option maxRecDepth 100000

set_option maxHeartbeats 8000000 in
theorem rread_s (l : List UInt8) (w : World) (N : Nat) (hl : N ≤ 140737488351232) (hsz : (mk l).size = N) (HN : Hid (N = l.length)) (hl1 : 1 ≤ N) (c : UInt8) (hc : c = 39) (hg0 : ∀ h, (mk l)[0]'h = c) (R : List UInt8 × Nat × Nat × Nat) (HRD : Hid (R = rdA c (l.drop 1) 1 [])) :
    Calls Tryd.prog 10 #[.string (mk l)] w fun e w' => e = .returned (.tuple #[.string (mk R.1), .int .i64 (R.2.1 : Int), .agg #[.int .i64 (R.2.2.1 : Int), .int .i64 (R.2.2.2 : Int)]]) ∧ Below w.heap.size w w' := by
  obtain ⟨i0, hi, hz0, hz1, hz2⟩ := info_parts Tryd.info5
  have hs' : (mk l).size ≤ maxLen := by rw [hsz]; unfold maxLen; omega
  have h0 : l ≠ [] := by intro e; have := HN.out; rw [e] at this; simp at this; omega
  have hq : ((mk l).toList == []) = false := by rw [ByteArray.toList_eq, mk_data]; simpa using h0
  have HGM : Hid (∀ i h, (mk l)[i]'h = l.getD i 0) := fun i h => getD_mk l i h
  have hn39 : ((c.toNat : Int) != 39) = !(c == 39) := congrArg (!·) (blit c 39)
  have hn34 : ((c.toNat : Int) != 34) = !(c == 34) := congrArg (!·) (blit c 34)
  have hb39 : ((c.toNat : Int) == 39) = (c == 39) := blit c 39
  have hb34 : ((c.toNat : Int) == 34) = (c == 34) := blit c 34
  clear h0
  obtain ⟨W, hW⟩ : ∃ W, w.alloc (.cells #[.int .i64 0, .int .i64 0] 24) = W := ⟨_, rfl⟩
  have hbW : Below w.heap.size w W := by rw [← hW]; exact below_alloc _ _
  have hWs : W.heap.size = w.heap.size + 1 := by rw [← hW]; simp
  have hcW : W.heap[w.heap.size]? = some (.cells #[.int .i64 0, .int .i64 0] 24 (0, 0)) := by rw [← hW]; exact heap_alloc_new w _
  have HKK : Hid (∀ W2, Below (w.heap.size + 1) W W2 → Below w.heap.size w W2 ∧ W2.cell? ⟨w.heap.size, 0, none⟩ = some (.int .i64 0) ∧ W2.cell? ⟨w.heap.size, 1, none⟩ = some (.int .i64 0) ∧ W2.frozen? ⟨w.heap.size, 0, none⟩ = false ∧ W2.frozen? ⟨w.heap.size, 1, none⟩ = false) := fun W2 hb => by
    have hk : W2.heap[w.heap.size]? = some (.cells #[.int .i64 0, .int .i64 0] 24 (0, 0)) := (hb.block _ (by omega)).trans hcW
    exact ⟨hbW.trans (hb.mono (by omega)), by rw [Lib.cell_of_heap hk]; rfl, by rw [Lib.cell_of_heap hk]; rfl, Lib.frozen_of_heap hk 0, Lib.frozen_of_heap hk 1⟩
  have HWS : Hid (W.heap.size = w.heap.size + 1) := hWs
  clear hbW hcW hWs
  have c1 : (c == 39) = true := by rw [hc]; rfl
  have c2 : (c == 34) = false := by rw [hc]; rfl
  rw [c1] at hn39 hb39
  rw [c2] at hn34 hb34
  rw [hc] at HRD
  have HCC : Hid (c = 39) := hc
  clear hc c1 c2
  go_enter Tryd.func10, Tryd.ntmps10
  go_wp2
  go_loopw [5, 6] (fun v i wr => ∃ (p : Nat) (out : List UInt8), 1 ≤ p ∧ p ≤ N ∧ out.length ≤ p ∧ i = .int .i64 (p : Int) ∧ Ob (w.heap.size + 1) v out wr ∧ Below (w.heap.size + 1) W wr ∧ w.heap.size + 1 ≤ wr.heap.size ∧ R = rdA 39 (l.drop p) p out) (fun _ i _ => N - (intOf i).toNat)
  case atStart => exact ⟨1, [], Nat.le_refl _, hl1, by simp, rfl, World.ownsRow_nil _ _ _ _, Below.refl _ _, by rw [HWS.out]; exact Nat.le_refl _, HRD.out⟩
  case round =>
    clear HRD hW
    obtain ⟨p, out, hp1, hp, ho, rfl, hO, hBe, hB, hE⟩ := hrel
    have HO : Hid (Ob (w.heap.size + 1) u5 out wr) := hO
    have HBe : Hid (Below (w.heap.size + 1) W wr) := hBe
    have HE : Hid (R = rdA 39 (l.drop p) p out) := hE
    clear hO hBe hE
    by_cases hlt : p < N
    · have hlt2 : p < l.length := by rw [← HN.out]; exact hlt
      have hne : l.drop p ≠ [] := by intro e; have := congrArg List.length e; rw [List.length_drop] at this; simp at this; omega
      have hg : ∀ h, (mk l)[p]'h = l.getD p 0 := fun h => HGM.out p h
      have h0d : (l.drop p).getD 0 0 = l.getD p 0 := getD_dropR l p 0
      have h1d : (l.drop p).getD 1 0 = l.getD (p + 1) 0 := getD_dropR l p 1
      have hg1 : ∀ h, (mk l)[p + 1]'h = l.getD (p + 1) 0 := fun h => HGM.out (p + 1) h
      generalize l.getD p 0 = x at *
      generalize l.getD (p + 1) 0 = y at *
      have hbx := blit x c
      go_wp2
      go_quiet (fail)
      obtain ⟨w1, hw1⟩ : ∃ w1, w1 = wr.drewN nq := ⟨_, rfl⟩
      have HO1 : Hid (Ob (w.heap.size + 1) u5 out w1) := by rw [hw1]; exact HO.out.later (below_drewN (Below.refl _ _) nq)
      have HBe1 : Hid (Below (w.heap.size + 1) W w1) := by rw [hw1]; exact below_drewN HBe.out nq
      have hB1 : w.heap.size + 1 ≤ w1.heap.size := by rw [hw1]; exact hB
      rw [← hw1]
      clear hw1 HO HBe hB
      cases hxc : (x == c)
      · rw [hxc] at hbx
        have hxq : (l.drop p).getD 0 0 ≠ 39 := by rw [h0d, ← HCC.out]; simpa using hxc
        have hst := stp_other 39 (l.drop p) hne hxq (by rintro ⟨q, _⟩; cases q)
        have hfk := fk_pos _ hne
        rw [List.length_drop, ← HN.out] at hfk
        obtain ⟨f1, f2, f3, f4⟩ := hfk
        have htk : (l.drop p).take (fk (l.drop p)) = (l.drop p).take (fk (l.drop p)) := rfl
        have hext : (mk l).extract p (p + fk (l.drop p)) = mk ((l.drop p).take (fk (l.drop p))) := by rw [mk_ext, show p + fk (l.drop p) - p = fk (l.drop p) by omega]
        have htl : ((l.drop p).take (fk (l.drop p))).length = fk (l.drop p) := by rw [List.length_take, List.length_drop, ← HN.out]; omega
        have hneg : (fst (l.drop p)).1 < 0 → may (fst (l.drop p)).1 = false := fun h => by
          cases hm : may (fst (l.drop p)).1
          · rfl
          · have := may_fst hm; omega
        obtain ⟨n, hn⟩ : ∃ n, n = (fst (l.drop p)).1 := ⟨_, rfl⟩
        obtain ⟨k, hk⟩ : ∃ k, k = fk (l.drop p) := ⟨_, rfl⟩
        have HF : Hid (Calls Tryd.prog 25 #[.string ((mk l).extract p N)] w1 fun e w' => e = .returned (.tuple #[.int .i64 n, .int .i64 (k : Int)]) ∧ Below w1.heap.size w1 w') := by
          have q := rfirstAt_any (mk l) p w1 hs'
          rw [mk_data, ← f4, ← hn, ← hk, hsz] at q
          exact q
        rw [← hn] at hst hneg
        rw [← hk] at hst f1 f2 f3 hext htl
        generalize (l.drop p).take k = o at *
        clear f4 hn hk htk hxq h0d h1d hg1 hg
        cases hm : may n
        · rw [hm] at hst
          have hst' : stp 39 (l.drop p) = (8, [], 0) := by simpa using hst
          have HV : Hid (R = ([], 0, 8, p)) := by rw [HE.out, rdA_bad hne (by rw [hst']; decide) (by rw [hst']; decide) (by rw [hst']; decide), hst']; exact rfl
          clear hst hst' HE hne hneg
          go_wp2_with (first | (go_at_call 25; refine HF.out.mono ?_; rintro e w2 ⟨rfl, hb2⟩; obtain ⟨e0, d0, d1, d2, d3⟩ := HKK.out _ (HBe1.out.trans (hb2.mono hB1)); clear hb2) | (go_at_call 26; refine (rmay_any _ _).mono ?_; rintro e w' ⟨rfl, rfl⟩))
          all_goals
            refine bodyPost_ret (v := .tuple #[.string ⟨#[]⟩, .int .i64 0, .agg #[.int .i64 8, .int .i64 (p : Int)]]) (by simp [results, Tryd.results10, go_sem, d0, d1]) rfl ⟨?_, (e0.setCell (p := ⟨w.heap.size, 0, none⟩) (Nat.le_refl _) _).setCell (p := ⟨w.heap.size, 1, none⟩) (Nat.le_refl _) _⟩
            rw [HV.out]; rfl
        · rw [hm] at hst
          have hst' : stp 39 (l.drop p) = (1, o, k) := by simpa using hst
          have HV : Hid (R = rdA 39 (l.drop (p + k)) (p + k) (out ++ o)) := by rw [HE.out, rdA_step (by rw [hst']), hst', List.drop_drop]; exact rfl
          have hn0 : 0 ≤ n := by
            rcases Int.lt_or_le n 0 with h | h
            · rw [hneg h] at hm; cases hm
            · exact h
          clear hst hst' HE hne hneg
          go_wp2_with (first | (go_at_call 25; refine HF.out.mono ?_; rintro e w2 ⟨rfl, hb2⟩) | (go_at_call 26; refine (rmay_any _ _).mono ?_; rintro e w' ⟨rfl, rfl⟩) | (at_builtin; refine Lib.wpList_append_own_string _ rfl _ _ 42 9 rfl (w.heap.size + 1) 5 i0 Tryd.underlying42 Tryd.underlying9 hi hz0 hz1 hz2 _ _ _ rfl (HO1.out.later hb2) (mk o) (by first | rfl | exact congrArg Value.string hext) ?_ ?_ ?_ ?_))
          · rw [mk_size]; unfold maxLen; omega
          · rw [mk_size]; omega
          · have := hb2.size; omega
          intro v' w3 hown' hgrow _
          obtain ⟨R1, R2, R3⟩ := Ob.more (HO1.out.later hb2) (HBe1.out.trans (hb2.mono hB1)) (by have := hb2.size; omega) hown' hgrow
          have HR1 : Hid (Ob (w.heap.size + 1) v' (out ++ o) w3) := R1
          have HR2 : Hid (Below (w.heap.size + 1) W w3) := R2
          clear hown' hgrow HO1 HBe1 R1 R2 hb2
          go_wp2
          go_roundw
          case rel => exact ⟨p + k, out ++ o, by omega, by omega, by rw [List.length_append, htl]; omega, by go_num, HR1.out, HR2.out, R3, HV.out⟩
          case measure => simp [intOf]; omega
      · rw [hxc] at hbx
        have hxq : (l.drop p).getD 0 0 = 39 := by rw [h0d, ← HCC.out]; simpa using hxc
        by_cases hN1 : p + 1 < N
        · have hby : ((y.toNat : Int) == 39) = (y == 39) := blit y 39
          cases hy : (y == 39)
          · rw [hy] at hby
            have HV : Hid (R = (out, p + 1, 0, 0)) := by
              rw [HE.out, rdA_end (by rw [stp_quote 39 _ hne hxq (by rintro ⟨_, _, q⟩; rw [h1d] at q; rw [q] at hy; simp at hy)])]; exact rfl
            clear HE hne hxq h0d h1d hg
            have hcv := HO1.out.conv
            obtain ⟨e0, d0, d1, d2, d3⟩ := HKK.out _ HBe1.out
            clear HBe1 HO1
            go_wp2
            refine bodyPost_ret (v := .tuple #[.string (mk out), .int .i64 ((p : Int) + 1), .agg #[.int .i64 0, .int .i64 0]]) (by simp [results, Tryd.results10, go_sem, d0, d1]) rfl ⟨?_, (e0.setCell (p := ⟨w.heap.size, 0, none⟩) (Nat.le_refl _) _).setCell (p := ⟨w.heap.size, 1, none⟩) (Nat.le_refl _) _⟩
            rw [HV.out]; rfl
          · rw [hy] at hby
            have hy39 : y = 39 := by simpa using hy
            have hst := stp_twice (l.drop p) hne hxq (by rw [List.length_drop, ← HN.out]; omega) (by rw [h1d]; exact hy39)
            have HV : Hid (R = rdA 39 (l.drop (p + 2)) (p + 2) (out ++ [39])) := by rw [HE.out, rdA_step (by rw [hst]), hst, List.drop_drop]; exact rfl
            clear HE hne hxq h0d h1d hg hst hy39
            go_wp2_with (first | (at_builtin; refine wpList_append_own _ rfl _ _ 42 rfl (w.heap.size + 1) 5 i0 (.int .u8 0) 1 1 Tryd.underlying42 hi hz0 hz1 hz2 rfl (by decide) _ _ _ rfl (World.ownsRow.alloc HO1.out _) ⟨w1.heap.size, 0, none⟩ 1 1 ([(39 : Int)].map (Value.int .u8)) rfl rfl (news_cells _ _ _) (news_one _) ?_ ?_ ?_ ?_))
            · unfold maxLen; omega
            · omega
            · simp; omega
            intro v' w3 hown' hgrow _
            obtain ⟨R1, R2, R3⟩ := Ob.snoc (c := 39) HO1.out HBe1.out hB1 hown' hgrow
            have HR1 : Hid (Ob (w.heap.size + 1) v' (out ++ [39]) w3) := R1
            have HR2 : Hid (Below (w.heap.size + 1) W w3) := R2
            clear hown' hgrow HO1 HBe1 R1 R2
            go_wp2
            go_roundw
            case rel => exact ⟨p + 2, out ++ [39], by omega, by omega, by rw [List.length_append]; simp; omega, by go_num, HR1.out, HR2.out, R3, HV.out⟩
            case measure => simp [intOf]; omega
        · have HV : Hid (R = (out, p + 1, 0, 0)) := by
            rw [HE.out, rdA_end (by rw [stp_quote 39 _ hne hxq (by rintro ⟨_, q, _⟩; rw [List.length_drop, ← HN.out] at q; omega)])]; exact rfl
          clear HE hne hxq h0d h1d hg
          have hcv := HO1.out.conv
          obtain ⟨e0, d0, d1, d2, d3⟩ := HKK.out _ HBe1.out
          clear HBe1 HO1
          go_wp2
          refine bodyPost_ret (v := .tuple #[.string (mk out), .int .i64 ((p : Int) + 1), .agg #[.int .i64 0, .int .i64 0]]) (by simp [results, Tryd.results10, go_sem, d0, d1]) rfl ⟨?_, (e0.setCell (p := ⟨w.heap.size, 0, none⟩) (Nat.le_refl _) _).setCell (p := ⟨w.heap.size, 1, none⟩) (Nat.le_refl _) _⟩
          rw [HV.out]; rfl
    · have HV : Hid (R = ([], 0, 4, N)) := by rw [HE.out, List.drop_of_length_le (by rw [← HN.out]; omega), rdA_nil, show p = N by omega]; exact rfl
      have HO1 := HO
      have HBe1 := HBe
      clear HO HBe HE
      obtain ⟨e0, d0, d1, d2, d3⟩ := HKK.out _ HBe1.out
      clear HBe1 HO1
      go_wp2
      refine bodyPost_ret (v := .tuple #[.string ⟨#[]⟩, .int .i64 0, .agg #[.int .i64 4, .int .i64 (N : Int)]]) (by simp [results, Tryd.results10, go_sem, d0, d1]) rfl ⟨?_, (e0.setCell (p := ⟨w.heap.size, 0, none⟩) (Nat.le_refl _) _).setCell (p := ⟨w.heap.size, 1, none⟩) (Nat.le_refl _) _⟩
      rw [HV.out]; rfl


end Go.Proofs.YtiipndfogofhgaaDoor.Quo
