/- The reference's Take, by its contract. -/
import Derived.Test.YtoamfmockinknaaBlockRlines
import Derived.Test.YtoamfmockinknaaBlockTake
namespace Go.Proofs.Ytoamfmockinknaa.Blk
open Go.RowKit
open Rws (mk mk_data mk_size mk_of mk_ext mk_get mk_inj)
set_option linter.unusedSimpArgs false
set_option linter.unusedVariables false
set_option maxRecDepth 100000

theorem join_take_len (c : UInt8) : ∀ (xs : List Ln) (k : Nat), (joinW c (xs.take k)).length ≤ (joinW c xs).length
  | [], k => by simp [joinW]
  | [x], 0 => by simp [joinW]
  | [x], k + 1 => by simp [joinW]
  | x :: y :: t, 0 => by simp [joinW]
  | x :: y :: t, 1 => by simp [joinW]
  | x :: y :: t, k + 2 => by
    have ih := join_take_len c (y :: t) (k + 1)
    rw [List.take_succ_cons, List.take_succ_cons, join_cons, join_cons, List.length_append, List.length_append, List.length_cons, List.length_cons]
    rw [List.take_succ_cons] at ih
    omega
set_option maxHeartbeats 16000000 in
theorem rtake_any (a : Option Addr) (len cap : Nat) (rs : List Rw) (col : Int) (f : Bool) (c : Int) (w : World) (h : RwAt w a len rs) (hl : len ≤ 1048576) (hw : ∀ r ∈ rs, r.1 ≤ 9223372036854775807 ∧ r.2.1.length ≤ 140737488355328)
    (hb : ∀ ls, lo none (rws rs col) = .inl ls → (joinW 10 (trm ls)).length ≤ 1000000000 ∧ (fld (trm ls)).length ≤ 1000000000) :
    Calls Try.prog 19 #[.slice a len cap, .int .i64 col, .agg #[.bool f, .int .i64 c]] w fun e w' => e = .returned (takV f c (lo none (rws rs col))) ∧ Below w.heap.size w w' := by
  have HLN : Hid (∀ W, Below w.heap.size w W → Calls Try.prog 30 #[.slice a len cap, .int .i64 col] W fun e w' => RLines (lo none (rws rs col)) W e w') := fun W hb => rlines_any a len cap rs col W (h.later hb (Nat.le_refl _)) hl hw
  have HLL : Hid (∀ ls, lo none (rws rs col) = .inl ls → ls.length ≤ 1048576) := fun ls q => by
    have h1 := lo_len _ _ _ q
    have h2 : (rws rs col).length ≤ rs.length := by unfold rws; exact (List.takeWhile_sublist _).length_le
    rw [h1]; have := h.1; omega
  have HBB : Hid (∀ ls, lo none (rws rs col) = .inl ls → (joinW 10 (trm ls)).length ≤ 1000000000 ∧ (fld (trm ls)).length ≤ 1000000000) := hb
  clear h hw hb
  obtain ⟨R, hR⟩ : ∃ R, lo none (rws rs col) = R := ⟨_, rfl⟩
  rw [hR] at HLN HLL HBB ⊢
  clear hR
  obtain ⟨W2, hW2⟩ : ∃ W2, (w.alloc (.cells #[.bool f, .int .i64 c] 23)).alloc (.cells #[.int .i64 0, .int .i64 0] 42) = W2 := ⟨_, rfl⟩
  have hbW : Below w.heap.size w W2 := by rw [← hW2]; exact ((Below.refl _ _).alloc (Nat.le_refl _) _).alloc (by simp) _
  have hWs : W2.heap.size = w.heap.size + 2 := by rw [← hW2]; simp
  have hc0 : W2.heap[w.heap.size]? = some (.cells #[.bool f, .int .i64 c] 23 (0, 0)) := by
    rw [← hW2]
    exact ((Below.refl _ (w.alloc _)).alloc (Nat.le_refl _) _).block _ (by simp) |>.trans (heap_alloc_new w _)
  have hc1 : W2.heap[w.heap.size + 1]? = some (.cells #[.int .i64 0, .int .i64 0] 42 (0, 0)) := by
    rw [← hW2]
    have h := heap_alloc_new (w.alloc (.cells #[.bool f, .int .i64 c] 23)) (.cells #[.int .i64 0, .int .i64 0] 42)
    rw [World.size_alloc] at h
    exact h
  have HKK : Hid (∀ W, Below (w.heap.size + 2) W2 W → Below w.heap.size w W ∧ W.cell? ⟨w.heap.size, 0, none⟩ = some (.bool f) ∧ W.cell? ⟨w.heap.size, 1, none⟩ = some (.int .i64 c) ∧ W.cell? ⟨w.heap.size + 1, 0, none⟩ = some (.int .i64 0) ∧ W.cell? ⟨w.heap.size + 1, 1, none⟩ = some (.int .i64 0) ∧ W.frozen? ⟨w.heap.size + 1, 0, none⟩ = false ∧ W.frozen? ⟨w.heap.size + 1, 1, none⟩ = false) := fun W hb => by
    have hk : W.heap[w.heap.size]? = some (.cells #[.bool f, .int .i64 c] 23 (0, 0)) := (hb.block _ (by omega)).trans hc0
    have hk1 : W.heap[w.heap.size + 1]? = some (.cells #[.int .i64 0, .int .i64 0] 42 (0, 0)) := (hb.block _ (by omega)).trans hc1
    exact ⟨hbW.trans (hb.mono (by omega)), by rw [Lib.cell_of_heap hk]; rfl, by rw [Lib.cell_of_heap hk]; rfl, by rw [Lib.cell_of_heap hk1]; rfl, by rw [Lib.cell_of_heap hk1]; rfl, Lib.frozen_of_heap hk1 0, Lib.frozen_of_heap hk1 1⟩
  have HLN2 := HLN.out W2 hbW
  have HLN2 : Hid (Calls Try.prog 30 #[.slice a len cap, .int .i64 col] W2 fun e w' => RLines R W2 e w') := HLN2
  clear hbW hc0 hc1 HLN
  go_enter Try.func19, Try.ntmps19
  go_wp2_with fail
  clear hW2
  refine HLN2.out.mono ?_
  clear HLN2
  intro e w1 hres
  rcases hres with ⟨ls, a1, cap1, rfl, rfl, hat, hb1⟩ | ⟨x, rfl, rfl, hb1⟩
  · have hls := HLL.out ls rfl
    obtain ⟨hJ, hF⟩ := HBB.out ls rfl
    clear HLL HBB
    have HT : Hid (StrsAt w1 a1 (trm ls).length (trm ls)) := hat
    clear hat
    rw [hWs] at hb1
    obtain ⟨k0, k1, k2, k3, k4, k5, k6⟩ := HKK.out _ hb1
    obtain ⟨N, hN⟩ : ∃ N, N = ls.length := ⟨_, rfl⟩
    obtain ⟨n, hn⟩ : ∃ n, n = (trm ls).length := ⟨_, rfl⟩
    have hnN : n ≤ N := by rw [hn, hN]; exact trm_le ls
    have HTX : Hid (takV f c (.inl ls) = .tuple #[.string (mk (body f (trm ls) ++ List.replicate (ed c n (N - n)) 10)), .int .i64 (N : Int), .agg #[.int .i64 0, .int .i64 0]]) := by rw [hn, hN]; exact rfl
    rw [← hN] at hls ⊢
    rw [← hn] at HT ⊢
    generalize hm : N - n = m at *
    have hml : m ≤ 1048576 := by omega
    clear hN hm
    have HNL : Hid (n = (trm ls).length) := hn
    clear hn
    have hs1 := hb1.size
    go_wp2
    obtain ⟨W3, hW3⟩ : ∃ W3, w1.alloc (.cells #[.int .i64 0, .int .i64 0] 42) = W3 := ⟨_, rfl⟩
    have B3 : Below w1.heap.size w1 W3 := by rw [← hW3]; exact (Below.refl _ _).alloc (Nat.le_refl _) _
    rw [hW3]
    clear hW3
    obtain ⟨j0, j1, j2, j3, j4, j5, j6⟩ := HKK.out _ (hb1.trans (B3.mono (by omega)))
    cases f
    · have HBX : Hid (body false (trm ls) = joinW 10 (trm ls)) := rfl
      go_loop [13, 14] (fun us ui => ∃ (k : Nat) (T : Ln), k ≤ n ∧ ui = .int .i64 (k : Int) ∧ us = .string (mk T) ∧ T = joinW 10 ((trm ls).take k)) (fun _ ui => n - (intOf ui).toNat)
      case atStart => exact ⟨0, [], Nat.zero_le _, rfl, rfl, rfl⟩
      case round =>
        obtain ⟨k, T, hk, rfl, rfl, hT⟩ := hrel
        have HTT : Hid (T = joinW 10 ((trm ls).take k)) := hT
        have hTl : T.length ≤ 1000000000 := by
          have h1 := join_take_len 10 (trm ls) k
          rw [hT]; omega
        clear hT
        by_cases hlt : k < n
        · obtain ⟨b, off, rfl, hbb, hcc⟩ := HT.out.2 (by omega)
          have c0 := (B3.cell (p := ⟨b, off + k, none⟩) hbb).trans (hcc k hlt)
          have hkx : k < (trm ls).length := by rw [← HNL.out]; exact hlt
          have HTK : Hid ((trm ls).take (k + 1) = (trm ls).take k ++ [(trm ls).getD k []]) := take_getD _ k hkx
          have hjl := join_take_len 10 (trm ls) (k + 1)
          obtain ⟨x, hx⟩ : ∃ x, x = (trm ls).getD k [] := ⟨_, rfl⟩
          rw [← hx] at c0 HTK
          clear hx hcc hkx
          have hTs : (mk T).size = T.length := mk_size T
          have hxs : (mk x).size = x.length := mk_size x
          rcases Nat.eq_zero_or_pos k with hk0 | hk0
          · subst hk0
            have hT0 : T = [] := HTT.out
            have HTN : Hid (x = joinW 10 ((trm ls).take (0 + 1))) := by rw [HTK.out]; exact rfl
            rw [← HTN.out] at hjl
            have hxl : x.length ≤ 1000000000 := by omega
            rw [Nat.add_zero] at c0
            rw [hT0] at hTs ⊢
            rw [show mk [] = (⟨#[]⟩ : ByteArray) from rfl]
            clear hTs hTl HTT hT0
            have hes : (⟨#[]⟩ : ByteArray).size = 0 := rfl
            have hea : (⟨#[]⟩ : ByteArray) ++ mk x = mk x := mk_appR [] x
            go_wp2
            go_round
            case rel => exact ⟨0 + 1, x, by omega, by go_num, by first | rfl | rw [hea], HTN.out⟩
            case measure => (simp [intOf] <;> omega)
          · have HTN : Hid (T ++ [10] ++ x = joinW 10 ((trm ls).take (k + 1))) := by
              have hne : (trm ls).take k ≠ [] := by intro h; have := congrArg List.length h; rw [List.length_take, ← HNL.out] at this; simp at this; omega
              rw [HTK.out, join_snoc 10 _ _ hne, HTT.out]
              simp [Hid]
            rw [← HTN.out, List.length_append, List.length_append] at hjl
            have hxl : x.length ≤ 1000000000 := by omega
            obtain ⟨Y, HY⟩ : ∃ Y : Ln, Hid (Y = T ++ [10] ++ x) := ⟨T ++ [10] ++ x, rfl⟩
            obtain ⟨Z, HZZ⟩ : ∃ Z : Ln, Hid (Z = T ++ [10]) := ⟨T ++ [10], rfl⟩
            have hap : mk T ++ (⟨#[10]⟩ : ByteArray) = mk Z := by rw [HZZ.out]; exact mk_appR T [10]
            have has : (mk Z).size = T.length + 1 := by rw [mk_size, HZZ.out, List.length_append]; rfl
            have hone : (⟨#[10]⟩ : ByteArray).size = 1 := rfl
            have hap2 : mk Z ++ mk x = mk Y := by rw [HY.out, HZZ.out]; exact mk_appR _ _
            rw [← HY.out] at HTN
            go_wp2
            go_round
            case rel => exact ⟨k + 1, Y, by omega, by go_num, rfl, HTN.out⟩
            case measure => (simp [intOf] <;> omega)
        · have HTE : Hid (T = joinW 10 (trm ls)) := by rw [HTT.out, List.take_of_length_le (by rw [← HNL.out]; omega)]; exact rfl
          rw [← HTE.out] at HBX
          clear HTT
          have hXs : (mk T).size = T.length := mk_size _
          have hone : (⟨#[10]⟩ : ByteArray).size = 1 := rfl
          by_cases h1 : c = 1
          · subst h1
            by_cases hn0 : 0 < n
            · obtain ⟨S, HS⟩ : ∃ S : Ln, Hid (S = (T : Ln)) := ⟨(T : Ln), rfl⟩
              have hSl : S.length ≤ 1000000001 := by rw [HS.out]; first | (rw [List.length_append]; simp; omega) | omega
              obtain ⟨G, HG⟩ : ∃ G : Nat → Ln, Hid (∀ j, G j = S ++ List.replicate j 10) := ⟨fun j => S ++ List.replicate j 10, fun _ => rfl⟩
              have hg0 : mk (G 0) = mk S := by rw [HG.out]; simp
              have HGS : Hid (∀ j, mk (G j) ++ (⟨#[10]⟩ : ByteArray) = mk (G (j + 1))) := fun j => by rw [HG.out, HG.out, List.replicate_succ', ← List.append_assoc]; exact mk_appR _ [10]
              have HGZ : Hid (∀ j, (mk (G j)).size = S.length + j) := fun j => by rw [HG.out, mk_size, List.length_append, List.length_replicate]
              have hap : mk T = mk S := by rw [HS.out]
              go_wp2
              go_loop [13, 15] (fun us ui => ui = .int .i64 0 ∧ us = .string (mk (G 0))) (fun _ _ => 0)
              case atStart => exact ⟨rfl, by rw [hg0]⟩
              case round =>
                obtain ⟨rfl, rfl⟩ := hrel
                by_cases hm0 : 0 < m
                · go_wp2
                  refine bodyPost_ret (v := .tuple #[.string (mk (S)), .int .i64 (N : Int), .agg #[.int .i64 0, .int .i64 0]]) (by simp [results, Try.results19, go_sem, j3, j4]) rfl ⟨?_, (j0.setCell (p := ⟨w.heap.size + 1, 0, none⟩) (Nat.le_succ _) _).setCell (p := ⟨w.heap.size + 1, 1, none⟩) (Nat.le_succ _) _⟩
                  rw [HTX.out, HBX.out]
                  congr 5
                  rw [HS.out]
                  simp [ed]
                · go_wp2
                  refine bodyPost_ret (v := .tuple #[.string (mk (S)), .int .i64 (N : Int), .agg #[.int .i64 0, .int .i64 0]]) (by simp [results, Try.results19, go_sem, j3, j4]) rfl ⟨?_, (j0.setCell (p := ⟨w.heap.size + 1, 0, none⟩) (Nat.le_succ _) _).setCell (p := ⟨w.heap.size + 1, 1, none⟩) (Nat.le_succ _) _⟩
                  rw [HTX.out, HBX.out]
                  congr 5
                  rw [HS.out]
                  simp [ed]
            · obtain ⟨S, HS⟩ : ∃ S : Ln, Hid (S = (T : Ln)) := ⟨(T : Ln), rfl⟩
              have hSl : S.length ≤ 1000000001 := by rw [HS.out]; first | (rw [List.length_append]; simp; omega) | omega
              obtain ⟨G, HG⟩ : ∃ G : Nat → Ln, Hid (∀ j, G j = S ++ List.replicate j 10) := ⟨fun j => S ++ List.replicate j 10, fun _ => rfl⟩
              have hg0 : mk (G 0) = mk S := by rw [HG.out]; simp
              have HGS : Hid (∀ j, mk (G j) ++ (⟨#[10]⟩ : ByteArray) = mk (G (j + 1))) := fun j => by rw [HG.out, HG.out, List.replicate_succ', ← List.append_assoc]; exact mk_appR _ [10]
              have HGZ : Hid (∀ j, (mk (G j)).size = S.length + j) := fun j => by rw [HG.out, mk_size, List.length_append, List.length_replicate]
              have hap : mk T = mk S := by rw [HS.out]
              go_wp2
              go_loop [13, 15] (fun us ui => ui = .int .i64 0 ∧ us = .string (mk (G 0))) (fun _ _ => 0)
              case atStart => exact ⟨rfl, by rw [hg0]⟩
              case round =>
                obtain ⟨rfl, rfl⟩ := hrel
                by_cases hm0 : 0 < m
                · go_wp2
                  refine bodyPost_ret (v := .tuple #[.string (mk (S)), .int .i64 (N : Int), .agg #[.int .i64 0, .int .i64 0]]) (by simp [results, Try.results19, go_sem, j3, j4]) rfl ⟨?_, (j0.setCell (p := ⟨w.heap.size + 1, 0, none⟩) (Nat.le_succ _) _).setCell (p := ⟨w.heap.size + 1, 1, none⟩) (Nat.le_succ _) _⟩
                  rw [HTX.out, HBX.out]
                  congr 5
                  rw [HS.out]
                  simp [ed]
                · go_wp2
                  refine bodyPost_ret (v := .tuple #[.string (mk (S)), .int .i64 (N : Int), .agg #[.int .i64 0, .int .i64 0]]) (by simp [results, Try.results19, go_sem, j3, j4]) rfl ⟨?_, (j0.setCell (p := ⟨w.heap.size + 1, 0, none⟩) (Nat.le_succ _) _).setCell (p := ⟨w.heap.size + 1, 1, none⟩) (Nat.le_succ _) _⟩
                  rw [HTX.out, HBX.out]
                  congr 5
                  rw [HS.out]
                  simp [ed]
          have e1 : (c != 1) = true := by simpa using h1
          by_cases h2 : c = 2
          · subst h2
            by_cases hn0 : 0 < n
            · obtain ⟨S, HS⟩ : ∃ S : Ln, Hid (S = (T ++ [10] : Ln)) := ⟨(T ++ [10] : Ln), rfl⟩
              have hSl : S.length ≤ 1000000001 := by rw [HS.out]; first | (rw [List.length_append]; simp; omega) | omega
              obtain ⟨G, HG⟩ : ∃ G : Nat → Ln, Hid (∀ j, G j = S ++ List.replicate j 10) := ⟨fun j => S ++ List.replicate j 10, fun _ => rfl⟩
              have hg0 : mk (G 0) = mk S := by rw [HG.out]; simp
              have HGS : Hid (∀ j, mk (G j) ++ (⟨#[10]⟩ : ByteArray) = mk (G (j + 1))) := fun j => by rw [HG.out, HG.out, List.replicate_succ', ← List.append_assoc]; exact mk_appR _ [10]
              have HGZ : Hid (∀ j, (mk (G j)).size = S.length + j) := fun j => by rw [HG.out, mk_size, List.length_append, List.length_replicate]
              have hap : mk T ++ (⟨#[10]⟩ : ByteArray) = mk S := by rw [HS.out]; exact mk_appR _ [10]
              go_wp2
              go_loop [13, 15] (fun us ui => ∃ j : Nat, j ≤ m ∧ ui = .int .i64 (j : Int) ∧ us = .string (mk (G j))) (fun _ ui => m - (intOf ui).toNat)
              case atStart => exact ⟨0, Nat.zero_le _, rfl, by rw [hg0]⟩
              case round =>
                obtain ⟨j, hj, rfl, rfl⟩ := hrel
                by_cases hjm : j < m
                · have hsp := HGS.out j
                  have hgz := HGZ.out j
                  have hone : (⟨#[10]⟩ : ByteArray).size = 1 := rfl
                  go_wp2
                  go_round
                  case rel => exact ⟨j + 1, by omega, by go_num, by first | rfl | rw [hsp]⟩
                  case measure => (simp [intOf] <;> omega)
                · go_wp2
                  have hjm2 : j = m := by omega
                  refine bodyPost_ret (v := .tuple #[.string (mk (G j)), .int .i64 (N : Int), .agg #[.int .i64 0, .int .i64 0]]) (by simp [results, Try.results19, go_sem, j3, j4]) rfl ⟨?_, (j0.setCell (p := ⟨w.heap.size + 1, 0, none⟩) (Nat.le_succ _) _).setCell (p := ⟨w.heap.size + 1, 1, none⟩) (Nat.le_succ _) _⟩
                  rw [HTX.out, HBX.out]
                  congr 5
                  rw [HG.out, HS.out, hjm2]
                  simp [ed, hn0]
                  rw [Nat.add_comm 1 m, List.replicate_succ]
            · obtain ⟨S, HS⟩ : ∃ S : Ln, Hid (S = (T : Ln)) := ⟨(T : Ln), rfl⟩
              have hSl : S.length ≤ 1000000001 := by rw [HS.out]; first | (rw [List.length_append]; simp; omega) | omega
              obtain ⟨G, HG⟩ : ∃ G : Nat → Ln, Hid (∀ j, G j = S ++ List.replicate j 10) := ⟨fun j => S ++ List.replicate j 10, fun _ => rfl⟩
              have hg0 : mk (G 0) = mk S := by rw [HG.out]; simp
              have HGS : Hid (∀ j, mk (G j) ++ (⟨#[10]⟩ : ByteArray) = mk (G (j + 1))) := fun j => by rw [HG.out, HG.out, List.replicate_succ', ← List.append_assoc]; exact mk_appR _ [10]
              have HGZ : Hid (∀ j, (mk (G j)).size = S.length + j) := fun j => by rw [HG.out, mk_size, List.length_append, List.length_replicate]
              have hap : mk T = mk S := by rw [HS.out]
              go_wp2
              go_loop [13, 15] (fun us ui => ∃ j : Nat, j ≤ m ∧ ui = .int .i64 (j : Int) ∧ us = .string (mk (G j))) (fun _ ui => m - (intOf ui).toNat)
              case atStart => exact ⟨0, Nat.zero_le _, rfl, by rw [hg0]⟩
              case round =>
                obtain ⟨j, hj, rfl, rfl⟩ := hrel
                by_cases hjm : j < m
                · have hsp := HGS.out j
                  have hgz := HGZ.out j
                  have hone : (⟨#[10]⟩ : ByteArray).size = 1 := rfl
                  go_wp2
                  go_round
                  case rel => exact ⟨j + 1, by omega, by go_num, by first | rfl | rw [hsp]⟩
                  case measure => (simp [intOf] <;> omega)
                · go_wp2
                  have hjm2 : j = m := by omega
                  refine bodyPost_ret (v := .tuple #[.string (mk (G j)), .int .i64 (N : Int), .agg #[.int .i64 0, .int .i64 0]]) (by simp [results, Try.results19, go_sem, j3, j4]) rfl ⟨?_, (j0.setCell (p := ⟨w.heap.size + 1, 0, none⟩) (Nat.le_succ _) _).setCell (p := ⟨w.heap.size + 1, 1, none⟩) (Nat.le_succ _) _⟩
                  rw [HTX.out, HBX.out]
                  congr 5
                  rw [HG.out, HS.out, hjm2]
                  simp [ed, hn0]
          have e2 : (c == 2) = false := by simpa using h2
          by_cases hn0 : 0 < n
          · obtain ⟨S, HS⟩ : ∃ S : Ln, Hid (S = (T ++ [10] : Ln)) := ⟨(T ++ [10] : Ln), rfl⟩
            have hSl : S.length ≤ 1000000001 := by rw [HS.out]; first | (rw [List.length_append]; simp; omega) | omega
            obtain ⟨G, HG⟩ : ∃ G : Nat → Ln, Hid (∀ j, G j = S ++ List.replicate j 10) := ⟨fun j => S ++ List.replicate j 10, fun _ => rfl⟩
            have hg0 : mk (G 0) = mk S := by rw [HG.out]; simp
            have HGS : Hid (∀ j, mk (G j) ++ (⟨#[10]⟩ : ByteArray) = mk (G (j + 1))) := fun j => by rw [HG.out, HG.out, List.replicate_succ', ← List.append_assoc]; exact mk_appR _ [10]
            have HGZ : Hid (∀ j, (mk (G j)).size = S.length + j) := fun j => by rw [HG.out, mk_size, List.length_append, List.length_replicate]
            have hap : mk T ++ (⟨#[10]⟩ : ByteArray) = mk S := by rw [HS.out]; exact mk_appR _ [10]
            go_wp2
            go_loop [13, 15] (fun us ui => ui = .int .i64 0 ∧ us = .string (mk (G 0))) (fun _ _ => 0)
            case atStart => exact ⟨rfl, by rw [hg0]⟩
            case round =>
              obtain ⟨rfl, rfl⟩ := hrel
              by_cases hm0 : 0 < m
              · go_wp2
                refine bodyPost_ret (v := .tuple #[.string (mk (S)), .int .i64 (N : Int), .agg #[.int .i64 0, .int .i64 0]]) (by simp [results, Try.results19, go_sem, j3, j4]) rfl ⟨?_, (j0.setCell (p := ⟨w.heap.size + 1, 0, none⟩) (Nat.le_succ _) _).setCell (p := ⟨w.heap.size + 1, 1, none⟩) (Nat.le_succ _) _⟩
                rw [HTX.out, HBX.out]
                congr 5
                rw [HS.out]
                simp [ed, hn0, h1, h2]
              · go_wp2
                refine bodyPost_ret (v := .tuple #[.string (mk (S)), .int .i64 (N : Int), .agg #[.int .i64 0, .int .i64 0]]) (by simp [results, Try.results19, go_sem, j3, j4]) rfl ⟨?_, (j0.setCell (p := ⟨w.heap.size + 1, 0, none⟩) (Nat.le_succ _) _).setCell (p := ⟨w.heap.size + 1, 1, none⟩) (Nat.le_succ _) _⟩
                rw [HTX.out, HBX.out]
                congr 5
                rw [HS.out]
                simp [ed, hn0, h1, h2]
          · obtain ⟨S, HS⟩ : ∃ S : Ln, Hid (S = (T : Ln)) := ⟨(T : Ln), rfl⟩
            have hSl : S.length ≤ 1000000001 := by rw [HS.out]; first | (rw [List.length_append]; simp; omega) | omega
            obtain ⟨G, HG⟩ : ∃ G : Nat → Ln, Hid (∀ j, G j = S ++ List.replicate j 10) := ⟨fun j => S ++ List.replicate j 10, fun _ => rfl⟩
            have hg0 : mk (G 0) = mk S := by rw [HG.out]; simp
            have HGS : Hid (∀ j, mk (G j) ++ (⟨#[10]⟩ : ByteArray) = mk (G (j + 1))) := fun j => by rw [HG.out, HG.out, List.replicate_succ', ← List.append_assoc]; exact mk_appR _ [10]
            have HGZ : Hid (∀ j, (mk (G j)).size = S.length + j) := fun j => by rw [HG.out, mk_size, List.length_append, List.length_replicate]
            have hap : mk T = mk S := by rw [HS.out]
            go_wp2
            go_loop [13, 15] (fun us ui => ui = .int .i64 0 ∧ us = .string (mk (G 0))) (fun _ _ => 0)
            case atStart => exact ⟨rfl, by rw [hg0]⟩
            case round =>
              obtain ⟨rfl, rfl⟩ := hrel
              by_cases hm0 : 0 < m
              · go_wp2
                refine bodyPost_ret (v := .tuple #[.string (mk (S)), .int .i64 (N : Int), .agg #[.int .i64 0, .int .i64 0]]) (by simp [results, Try.results19, go_sem, j3, j4]) rfl ⟨?_, (j0.setCell (p := ⟨w.heap.size + 1, 0, none⟩) (Nat.le_succ _) _).setCell (p := ⟨w.heap.size + 1, 1, none⟩) (Nat.le_succ _) _⟩
                rw [HTX.out, HBX.out]
                congr 5
                rw [HS.out]
                simp [ed, hn0, h1, h2]
              · go_wp2
                refine bodyPost_ret (v := .tuple #[.string (mk (S)), .int .i64 (N : Int), .agg #[.int .i64 0, .int .i64 0]]) (by simp [results, Try.results19, go_sem, j3, j4]) rfl ⟨?_, (j0.setCell (p := ⟨w.heap.size + 1, 0, none⟩) (Nat.le_succ _) _).setCell (p := ⟨w.heap.size + 1, 1, none⟩) (Nat.le_succ _) _⟩
                rw [HTX.out, HBX.out]
                congr 5
                rw [HS.out]
                simp [ed, hn0, h1, h2]
    · have HBX : Hid (body true (trm ls) = fld (trm ls)) := rfl
      have HFO : Hid (Calls Try.prog 16 #[.slice a1 n cap1] W3 fun e w' => e = .returned (.string (mk (fld (trm ls)))) ∧ Below W3.heap.size W3 w') := rfold_any a1 n cap1 (trm ls) W3 (HT.out.later B3 (Nat.le_refl _)) (by omega) (by omega)
      generalize fld (trm ls) = F at *
      go_loop [13, 14] (fun us ui => ui = .int .i64 0 ∧ us = .string ⟨#[]⟩) (fun _ _ => 0)
      case atStart => exact ⟨rfl, rfl⟩
      case round =>
        obtain ⟨rfl, rfl⟩ := hrel
        by_cases hnz : 0 < n
        · go_wp2_with fail
          refine HFO.out.mono ?_
          rintro e w5 ⟨rfl, hb5⟩
          have s3 := B3.size
          have B5 : Below w1.heap.size w1 w5 := B3.trans (hb5.mono s3)
          clear j0 j1 j2 j3 j4 j5 j6 hb5 HFO
          obtain ⟨j0, j1, j2, j3, j4, j5, j6⟩ := HKK.out _ (hb1.trans (B5.mono (by omega)))
          have hXs : (mk F).size = F.length := mk_size _
          have hone : (⟨#[10]⟩ : ByteArray).size = 1 := rfl
          by_cases h1 : c = 1
          · subst h1
            by_cases hn0 : 0 < n
            · obtain ⟨S, HS⟩ : ∃ S : Ln, Hid (S = (F : Ln)) := ⟨(F : Ln), rfl⟩
              have hSl : S.length ≤ 1000000001 := by rw [HS.out]; first | (rw [List.length_append]; simp; omega) | omega
              obtain ⟨G, HG⟩ : ∃ G : Nat → Ln, Hid (∀ j, G j = S ++ List.replicate j 10) := ⟨fun j => S ++ List.replicate j 10, fun _ => rfl⟩
              have hg0 : mk (G 0) = mk S := by rw [HG.out]; simp
              have HGS : Hid (∀ j, mk (G j) ++ (⟨#[10]⟩ : ByteArray) = mk (G (j + 1))) := fun j => by rw [HG.out, HG.out, List.replicate_succ', ← List.append_assoc]; exact mk_appR _ [10]
              have HGZ : Hid (∀ j, (mk (G j)).size = S.length + j) := fun j => by rw [HG.out, mk_size, List.length_append, List.length_replicate]
              have hap : mk F = mk S := by rw [HS.out]
              go_wp2
              go_loop [13, 15] (fun us ui => ui = .int .i64 0 ∧ us = .string (mk (G 0))) (fun _ _ => 0)
              case atStart => exact ⟨rfl, by rw [hg0]⟩
              case round =>
                obtain ⟨rfl, rfl⟩ := hrel
                by_cases hm0 : 0 < m
                · go_wp2
                  refine bodyPost_ret (v := .tuple #[.string (mk (S)), .int .i64 (N : Int), .agg #[.int .i64 0, .int .i64 0]]) (by simp [results, Try.results19, go_sem, j3, j4]) rfl ⟨?_, (j0.setCell (p := ⟨w.heap.size + 1, 0, none⟩) (Nat.le_succ _) _).setCell (p := ⟨w.heap.size + 1, 1, none⟩) (Nat.le_succ _) _⟩
                  rw [HTX.out, HBX.out]
                  congr 5
                  rw [HS.out]
                  simp [ed]
                · go_wp2
                  refine bodyPost_ret (v := .tuple #[.string (mk (S)), .int .i64 (N : Int), .agg #[.int .i64 0, .int .i64 0]]) (by simp [results, Try.results19, go_sem, j3, j4]) rfl ⟨?_, (j0.setCell (p := ⟨w.heap.size + 1, 0, none⟩) (Nat.le_succ _) _).setCell (p := ⟨w.heap.size + 1, 1, none⟩) (Nat.le_succ _) _⟩
                  rw [HTX.out, HBX.out]
                  congr 5
                  rw [HS.out]
                  simp [ed]
            · exact absurd hnz hn0
          have e1 : (c != 1) = true := by simpa using h1
          by_cases h2 : c = 2
          · subst h2
            by_cases hn0 : 0 < n
            · obtain ⟨S, HS⟩ : ∃ S : Ln, Hid (S = (F ++ [10] : Ln)) := ⟨(F ++ [10] : Ln), rfl⟩
              have hSl : S.length ≤ 1000000001 := by rw [HS.out]; first | (rw [List.length_append]; simp; omega) | omega
              obtain ⟨G, HG⟩ : ∃ G : Nat → Ln, Hid (∀ j, G j = S ++ List.replicate j 10) := ⟨fun j => S ++ List.replicate j 10, fun _ => rfl⟩
              have hg0 : mk (G 0) = mk S := by rw [HG.out]; simp
              have HGS : Hid (∀ j, mk (G j) ++ (⟨#[10]⟩ : ByteArray) = mk (G (j + 1))) := fun j => by rw [HG.out, HG.out, List.replicate_succ', ← List.append_assoc]; exact mk_appR _ [10]
              have HGZ : Hid (∀ j, (mk (G j)).size = S.length + j) := fun j => by rw [HG.out, mk_size, List.length_append, List.length_replicate]
              have hap : mk F ++ (⟨#[10]⟩ : ByteArray) = mk S := by rw [HS.out]; exact mk_appR _ [10]
              go_wp2
              go_loop [13, 15] (fun us ui => ∃ j : Nat, j ≤ m ∧ ui = .int .i64 (j : Int) ∧ us = .string (mk (G j))) (fun _ ui => m - (intOf ui).toNat)
              case atStart => exact ⟨0, Nat.zero_le _, rfl, by rw [hg0]⟩
              case round =>
                obtain ⟨j, hj, rfl, rfl⟩ := hrel
                by_cases hjm : j < m
                · have hsp := HGS.out j
                  have hgz := HGZ.out j
                  have hone : (⟨#[10]⟩ : ByteArray).size = 1 := rfl
                  go_wp2
                  go_round
                  case rel => exact ⟨j + 1, by omega, by go_num, by first | rfl | rw [hsp]⟩
                  case measure => (simp [intOf] <;> omega)
                · go_wp2
                  have hjm2 : j = m := by omega
                  refine bodyPost_ret (v := .tuple #[.string (mk (G j)), .int .i64 (N : Int), .agg #[.int .i64 0, .int .i64 0]]) (by simp [results, Try.results19, go_sem, j3, j4]) rfl ⟨?_, (j0.setCell (p := ⟨w.heap.size + 1, 0, none⟩) (Nat.le_succ _) _).setCell (p := ⟨w.heap.size + 1, 1, none⟩) (Nat.le_succ _) _⟩
                  rw [HTX.out, HBX.out]
                  congr 5
                  rw [HG.out, HS.out, hjm2]
                  simp [ed, hn0]
                  rw [Nat.add_comm 1 m, List.replicate_succ]
            · exact absurd hnz hn0
          have e2 : (c == 2) = false := by simpa using h2
          by_cases hn0 : 0 < n
          · obtain ⟨S, HS⟩ : ∃ S : Ln, Hid (S = (F ++ [10] : Ln)) := ⟨(F ++ [10] : Ln), rfl⟩
            have hSl : S.length ≤ 1000000001 := by rw [HS.out]; first | (rw [List.length_append]; simp; omega) | omega
            obtain ⟨G, HG⟩ : ∃ G : Nat → Ln, Hid (∀ j, G j = S ++ List.replicate j 10) := ⟨fun j => S ++ List.replicate j 10, fun _ => rfl⟩
            have hg0 : mk (G 0) = mk S := by rw [HG.out]; simp
            have HGS : Hid (∀ j, mk (G j) ++ (⟨#[10]⟩ : ByteArray) = mk (G (j + 1))) := fun j => by rw [HG.out, HG.out, List.replicate_succ', ← List.append_assoc]; exact mk_appR _ [10]
            have HGZ : Hid (∀ j, (mk (G j)).size = S.length + j) := fun j => by rw [HG.out, mk_size, List.length_append, List.length_replicate]
            have hap : mk F ++ (⟨#[10]⟩ : ByteArray) = mk S := by rw [HS.out]; exact mk_appR _ [10]
            go_wp2
            go_loop [13, 15] (fun us ui => ui = .int .i64 0 ∧ us = .string (mk (G 0))) (fun _ _ => 0)
            case atStart => exact ⟨rfl, by rw [hg0]⟩
            case round =>
              obtain ⟨rfl, rfl⟩ := hrel
              by_cases hm0 : 0 < m
              · go_wp2
                refine bodyPost_ret (v := .tuple #[.string (mk (S)), .int .i64 (N : Int), .agg #[.int .i64 0, .int .i64 0]]) (by simp [results, Try.results19, go_sem, j3, j4]) rfl ⟨?_, (j0.setCell (p := ⟨w.heap.size + 1, 0, none⟩) (Nat.le_succ _) _).setCell (p := ⟨w.heap.size + 1, 1, none⟩) (Nat.le_succ _) _⟩
                rw [HTX.out, HBX.out]
                congr 5
                rw [HS.out]
                simp [ed, hn0, h1, h2]
              · go_wp2
                refine bodyPost_ret (v := .tuple #[.string (mk (S)), .int .i64 (N : Int), .agg #[.int .i64 0, .int .i64 0]]) (by simp [results, Try.results19, go_sem, j3, j4]) rfl ⟨?_, (j0.setCell (p := ⟨w.heap.size + 1, 0, none⟩) (Nat.le_succ _) _).setCell (p := ⟨w.heap.size + 1, 1, none⟩) (Nat.le_succ _) _⟩
                rw [HTX.out, HBX.out]
                congr 5
                rw [HS.out]
                simp [ed, hn0, h1, h2]
          · exact absurd hnz hn0
        · go_wp2_with fail
          refine HFO.out.mono ?_
          rintro e w5 ⟨rfl, hb5⟩
          have s3 := B3.size
          have B5 : Below w1.heap.size w1 w5 := B3.trans (hb5.mono s3)
          clear j0 j1 j2 j3 j4 j5 j6 hb5 HFO
          obtain ⟨j0, j1, j2, j3, j4, j5, j6⟩ := HKK.out _ (hb1.trans (B5.mono (by omega)))
          have hXs : (mk F).size = F.length := mk_size _
          have hone : (⟨#[10]⟩ : ByteArray).size = 1 := rfl
          by_cases h1 : c = 1
          · subst h1
            by_cases hn0 : 0 < n
            · exact absurd hn0 hnz
            · obtain ⟨S, HS⟩ : ∃ S : Ln, Hid (S = (F : Ln)) := ⟨(F : Ln), rfl⟩
              have hSl : S.length ≤ 1000000001 := by rw [HS.out]; first | (rw [List.length_append]; simp; omega) | omega
              obtain ⟨G, HG⟩ : ∃ G : Nat → Ln, Hid (∀ j, G j = S ++ List.replicate j 10) := ⟨fun j => S ++ List.replicate j 10, fun _ => rfl⟩
              have hg0 : mk (G 0) = mk S := by rw [HG.out]; simp
              have HGS : Hid (∀ j, mk (G j) ++ (⟨#[10]⟩ : ByteArray) = mk (G (j + 1))) := fun j => by rw [HG.out, HG.out, List.replicate_succ', ← List.append_assoc]; exact mk_appR _ [10]
              have HGZ : Hid (∀ j, (mk (G j)).size = S.length + j) := fun j => by rw [HG.out, mk_size, List.length_append, List.length_replicate]
              have hap : mk F = mk S := by rw [HS.out]
              go_wp2
              go_loop [13, 15] (fun us ui => ui = .int .i64 0 ∧ us = .string (mk (G 0))) (fun _ _ => 0)
              case atStart => exact ⟨rfl, by rw [hg0]⟩
              case round =>
                obtain ⟨rfl, rfl⟩ := hrel
                by_cases hm0 : 0 < m
                · go_wp2
                  refine bodyPost_ret (v := .tuple #[.string (mk (S)), .int .i64 (N : Int), .agg #[.int .i64 0, .int .i64 0]]) (by simp [results, Try.results19, go_sem, j3, j4]) rfl ⟨?_, (j0.setCell (p := ⟨w.heap.size + 1, 0, none⟩) (Nat.le_succ _) _).setCell (p := ⟨w.heap.size + 1, 1, none⟩) (Nat.le_succ _) _⟩
                  rw [HTX.out, HBX.out]
                  congr 5
                  rw [HS.out]
                  simp [ed]
                · go_wp2
                  refine bodyPost_ret (v := .tuple #[.string (mk (S)), .int .i64 (N : Int), .agg #[.int .i64 0, .int .i64 0]]) (by simp [results, Try.results19, go_sem, j3, j4]) rfl ⟨?_, (j0.setCell (p := ⟨w.heap.size + 1, 0, none⟩) (Nat.le_succ _) _).setCell (p := ⟨w.heap.size + 1, 1, none⟩) (Nat.le_succ _) _⟩
                  rw [HTX.out, HBX.out]
                  congr 5
                  rw [HS.out]
                  simp [ed]
          have e1 : (c != 1) = true := by simpa using h1
          by_cases h2 : c = 2
          · subst h2
            by_cases hn0 : 0 < n
            · exact absurd hn0 hnz
            · obtain ⟨S, HS⟩ : ∃ S : Ln, Hid (S = (F : Ln)) := ⟨(F : Ln), rfl⟩
              have hSl : S.length ≤ 1000000001 := by rw [HS.out]; first | (rw [List.length_append]; simp; omega) | omega
              obtain ⟨G, HG⟩ : ∃ G : Nat → Ln, Hid (∀ j, G j = S ++ List.replicate j 10) := ⟨fun j => S ++ List.replicate j 10, fun _ => rfl⟩
              have hg0 : mk (G 0) = mk S := by rw [HG.out]; simp
              have HGS : Hid (∀ j, mk (G j) ++ (⟨#[10]⟩ : ByteArray) = mk (G (j + 1))) := fun j => by rw [HG.out, HG.out, List.replicate_succ', ← List.append_assoc]; exact mk_appR _ [10]
              have HGZ : Hid (∀ j, (mk (G j)).size = S.length + j) := fun j => by rw [HG.out, mk_size, List.length_append, List.length_replicate]
              have hap : mk F = mk S := by rw [HS.out]
              go_wp2
              go_loop [13, 15] (fun us ui => ∃ j : Nat, j ≤ m ∧ ui = .int .i64 (j : Int) ∧ us = .string (mk (G j))) (fun _ ui => m - (intOf ui).toNat)
              case atStart => exact ⟨0, Nat.zero_le _, rfl, by rw [hg0]⟩
              case round =>
                obtain ⟨j, hj, rfl, rfl⟩ := hrel
                by_cases hjm : j < m
                · have hsp := HGS.out j
                  have hgz := HGZ.out j
                  have hone : (⟨#[10]⟩ : ByteArray).size = 1 := rfl
                  go_wp2
                  go_round
                  case rel => exact ⟨j + 1, by omega, by go_num, by first | rfl | rw [hsp]⟩
                  case measure => (simp [intOf] <;> omega)
                · go_wp2
                  have hjm2 : j = m := by omega
                  refine bodyPost_ret (v := .tuple #[.string (mk (G j)), .int .i64 (N : Int), .agg #[.int .i64 0, .int .i64 0]]) (by simp [results, Try.results19, go_sem, j3, j4]) rfl ⟨?_, (j0.setCell (p := ⟨w.heap.size + 1, 0, none⟩) (Nat.le_succ _) _).setCell (p := ⟨w.heap.size + 1, 1, none⟩) (Nat.le_succ _) _⟩
                  rw [HTX.out, HBX.out]
                  congr 5
                  rw [HG.out, HS.out, hjm2]
                  simp [ed, hn0]
          have e2 : (c == 2) = false := by simpa using h2
          by_cases hn0 : 0 < n
          · exact absurd hn0 hnz
          · obtain ⟨S, HS⟩ : ∃ S : Ln, Hid (S = (F : Ln)) := ⟨(F : Ln), rfl⟩
            have hSl : S.length ≤ 1000000001 := by rw [HS.out]; first | (rw [List.length_append]; simp; omega) | omega
            obtain ⟨G, HG⟩ : ∃ G : Nat → Ln, Hid (∀ j, G j = S ++ List.replicate j 10) := ⟨fun j => S ++ List.replicate j 10, fun _ => rfl⟩
            have hg0 : mk (G 0) = mk S := by rw [HG.out]; simp
            have HGS : Hid (∀ j, mk (G j) ++ (⟨#[10]⟩ : ByteArray) = mk (G (j + 1))) := fun j => by rw [HG.out, HG.out, List.replicate_succ', ← List.append_assoc]; exact mk_appR _ [10]
            have HGZ : Hid (∀ j, (mk (G j)).size = S.length + j) := fun j => by rw [HG.out, mk_size, List.length_append, List.length_replicate]
            have hap : mk F = mk S := by rw [HS.out]
            go_wp2
            go_loop [13, 15] (fun us ui => ui = .int .i64 0 ∧ us = .string (mk (G 0))) (fun _ _ => 0)
            case atStart => exact ⟨rfl, by rw [hg0]⟩
            case round =>
              obtain ⟨rfl, rfl⟩ := hrel
              by_cases hm0 : 0 < m
              · go_wp2
                refine bodyPost_ret (v := .tuple #[.string (mk (S)), .int .i64 (N : Int), .agg #[.int .i64 0, .int .i64 0]]) (by simp [results, Try.results19, go_sem, j3, j4]) rfl ⟨?_, (j0.setCell (p := ⟨w.heap.size + 1, 0, none⟩) (Nat.le_succ _) _).setCell (p := ⟨w.heap.size + 1, 1, none⟩) (Nat.le_succ _) _⟩
                rw [HTX.out, HBX.out]
                congr 5
                rw [HS.out]
                simp [ed, hn0, h1, h2]
              · go_wp2
                refine bodyPost_ret (v := .tuple #[.string (mk (S)), .int .i64 (N : Int), .agg #[.int .i64 0, .int .i64 0]]) (by simp [results, Try.results19, go_sem, j3, j4]) rfl ⟨?_, (j0.setCell (p := ⟨w.heap.size + 1, 0, none⟩) (Nat.le_succ _) _).setCell (p := ⟨w.heap.size + 1, 1, none⟩) (Nat.le_succ _) _⟩
                rw [HTX.out, HBX.out]
                congr 5
                rw [HS.out]
                simp [ed, hn0, h1, h2]
  · rw [hWs] at hb1
    obtain ⟨W5, hW5⟩ : ∃ W5, w1.alloc (.cells #[.int .i64 9, .int .i64 x] 42) = W5 := ⟨_, rfl⟩
    have hs1 := hb1.size
    have hb5 : Below (w.heap.size + 2) W2 W5 := by rw [← hW5]; exact hb1.alloc (by omega) _
    obtain ⟨k0, k1, k2, k3, k4, k5, k6⟩ := HKK.out _ hb5
    have hc5 : W5.heap[w1.heap.size]? = some (.cells #[.int .i64 9, .int .i64 x] 42 (0, 0)) := by rw [← hW5]; exact heap_alloc_new w1 _
    have d0 : W5.cell? ⟨w1.heap.size, 0, none⟩ = some (.int .i64 9) := by rw [Lib.cell_of_heap hc5]; rfl
    have d1 : W5.cell? ⟨w1.heap.size, 1, none⟩ = some (.int .i64 x) := by rw [Lib.cell_of_heap hc5]; rfl
    clear hc5 hb5
    go_wp2
    go_region
    all_goals (
      go_wp2
      refine bodyPost_ret (v := .tuple #[.string ⟨#[]⟩, .int .i64 0, .agg #[.int .i64 9, .int .i64 x]]) (by simp [results, Try.results19, go_sem, k3, k4]) rfl ⟨rfl, (k0.drew.setCell (p := ⟨w.heap.size + 1, 0, none⟩) (Nat.le_succ _) _).setCell (p := ⟨w.heap.size + 1, 1, none⟩) (Nat.le_succ _) _⟩)

end Go.Proofs.Ytoamfmockinknaa.Blk
