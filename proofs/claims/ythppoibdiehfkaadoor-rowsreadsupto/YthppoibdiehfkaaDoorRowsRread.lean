/- grommetref02.Read, by its contract. -/
import Derived.Test.YthppoibdiehfkaaDoorRowsRrow
import Derived.Test.YthppoibdiehfkaaDoorRowsREmpty
import Derived.Test.YthppoibdiehfkaaDoorRowsRead
import Derived.Test.YthppoibdiehfkaaDoorUtfRef3
namespace Go.Proofs.YthppoibdiehfkaaDoor.Rws
open Utf
open Go.RowKit
set_option linter.unusedSimpArgs false
set_option linter.unusedVariables false
set_option maxRecDepth 100000

theorem rrow_agg (l : List UInt8) (k : Int) (w : World) (hs : l.length ≤ 140737488355328) : Calls Tryd.prog 28 #[.string (mk l), .int .i64 k] w fun e w' => e = .returned (.agg #[.int .i64 (col l), .string (mk (text l)), .int .i64 k]) ∧ Below w.heap.size w w' := rrow_any l k w hs
theorem has_take (c : UInt8) (x : List UInt8) (n : Nat) (h : n < x.length) : has c (x.take (n + 1)) = (has c (x.take n) || x.getD n 0 == c) := by
  rw [take_snoc x n h]; unfold has; rw [List.any_append]; simp
theorem take_snocL (L : List (List UInt8)) (n : Nat) (h : n < L.length) : L.take (n + 1) = L.take n ++ [L.getD n []] := by
  rw [List.take_succ_eq_append_getElem h, List.getD_eq_getElem?_getD, List.getElem?_eq_getElem h]; rfl
theorem dropL (L : List (List UInt8)) (n : Nat) (h : n < L.length) : L.drop n = L.getD n [] :: L.drop (n + 1) := by
  rw [List.getD_eq_getElem?_getD, List.getElem?_eq_getElem h]; simp
theorem okay_app (A B : List (List UInt8)) : okay (A ++ B) = (okay A && okay B) := by unfold okay; rw [List.all_append]
theorem okay_one (l : List UInt8) : okay [l] = (wr l == 0) := by simp [okay]
theorem flt_at (L : List (List UInt8)) (n : Nat) (h : n < L.length) (hok : okay (L.take n) = true) (hw : wr (L.getD n []) ≠ 0) : flt 1 L = (wr (L.getD n []), ((n + 1 : Nat) : Int)) ∧ okay L = false := by
  have e : L = L.take n ++ (L.getD n [] :: L.drop (n + 1)) := by rw [← dropL L n h, List.take_append_drop]
  have h1 := flt_bad (L.take n) hok (L.getD n []) hw (L.drop (n + 1)) 1
  rw [← e, List.length_take, Nat.min_eq_left (by omega), Nat.add_comm] at h1
  refine ⟨h1, ?_⟩
  rcases flt_cases L with h2 | h2
  · have := flt_ok L h2 1
    rw [h1] at this
    exact absurd (congrArg Prod.fst this) hw
  · exact h2.1
theorem rows_at {L : List (List UInt8)} {n : Nat} (h : n < L.length) (hx : (L.getD n []).length ≤ 140737488355328) : rowsV (num 1 (L.take (n + 1))) = rowsV (num 1 (L.take n)) ++ [.int .i64 (col (L.getD n [])), .string (mk (text (L.getD n []))), .int .i64 ((n + 1 : Nat) : Int)] := by
  rw [take_snocL L n h, num_app, List.length_take, Nat.min_eq_left (by omega)]
  have e : num (1 + n) [L.getD n []] = [(1 + n, cl (L.getD n []))] := rfl
  rw [e, rowsV_snoc]
  unfold cellsOf
  simp only
  rw [cl_val hx, Nat.add_comm 1 n]

theorem or3 (a b c : Bool) (h : true = (a || b)) : true = (a || (b || c)) := by cases a <;> cases b <;> cases c <;> simp_all
theorem rread_long (s : ByteArray) (hs : 65536 < s.size) (w : World) : Calls Tryd.prog 11 #[.string s] w fun e w' => e = .returned (.tuple #[.slice none 0 0, .agg #[.int .i64 5, .int .i64 0]]) ∧ Below w.heap.size w w' := by
  have hsz : (65536 : Int) < (s.size : Int) := by omega
  go_enter Tryd.func11, Tryd.ntmps11
  go_wp2
  refine bodyPost_ret (v := .tuple #[.slice none 0 0, .agg #[.int .i64 5, .int .i64 0]]) (by simp [results, Tryd.results11, go_sem]) rfl ⟨rfl, ?_⟩
  exact (Below.refl _ _).alloc (Nat.le_refl _) _

set_option maxHeartbeats 8000000 in
theorem rread_any (s : List UInt8) (hs : s.length ≤ 65536) (w : World) : Calls Tryd.prog 11 #[.string (mk s)] w fun e w' => ReadRes s w e w' := by
  have hsz : ((mk s).size : Int) ≤ 65536 := by rw [mk_size]; omega
  have hml : ∀ x ∈ lns s, x.length ≤ 65536 := fun x hx => Nat.le_trans (lns_mem_len _ s (Nat.le_refl _) x hx) (by omega)
  have hll : (lns s).length ≤ 65536 := Nat.le_trans (lns_len _ s (Nat.le_refl _)) hs
  obtain ⟨L, HL⟩ : ∃ L, Hid (L = lns s) := ⟨_, rfl⟩
  rw [← HL.out] at hml hll
  have HML : Hid (∀ x ∈ L, x.length ≤ 65536) := hml
  clear hml
  obtain ⟨i0, hi, hz0, hz1, hz2⟩ := info_parts Tryd.infoRow
  go_enter Tryd.func11, Tryd.ntmps11
  go_wp2_with fail
  refine (rlines_any s (by omega) _).mono ?_
  rintro e W0 ⟨lv, rfl, lown, lb⟩
  rw [← HL.out] at lown
  obtain ⟨la, lc, rfl, lat⟩ := strs_own lown
  clear lown
  have LAT : Hid (StrsAt W0 la L.length L) := lat
  clear lat
  have hS := lb.size
  rw [World.size_alloc] at hS lb
  have hB0 : Below w.heap.size w W0 := ((Below.refl _ w).alloc (Nat.le_refl _) _).trans (lb.mono (by omega))
  have bF : W0.heap[w.heap.size]? = some (.cells #[.int .i64 0, .int .i64 0] 26 (0, 0)) := (lb.block _ (by omega)).trans (heap_alloc_new w _)
  go_wp2
  go_loopw [4, 6] (fun v i wr => ∃ n : Nat, n ≤ L.length ∧ i = .int .i64 n ∧ wr.ownsRow W0.heap.size 40 3 v n (rowsV (num 1 (L.take n))) ∧ okay (L.take n) = true ∧ Below W0.heap.size W0 wr) (fun _ i _ => L.length - (intOf i).toNat)
  case atStart => exact ⟨0, Nat.zero_le _, rfl, World.ownsRow_nil _ _ _ _, rfl, Below.refl _ _⟩
  case round =>
    obtain ⟨n, hn, rfl, hown, hok, hbe⟩ := hrel
    have HOK : Hid (okay (L.take n) = true) := hok
    clear hok
    have hws := hbe.size
    obtain ⟨f0, f1, f2, f3⟩ := cell2 ((hbe.block w.heap.size (by omega)).trans bF)
    by_cases hlt : n < L.length
    · obtain ⟨b, off, rfl, hb, hc⟩ := LAT.out.2 (by omega)
      have hck := (hbe.cell (p := ⟨b, off + n, none⟩) hb).trans (hc n hlt)
      clear hc
      have hxl : (L.getD n []).length ≤ 65536 := HML.out _ (by rw [List.getD_eq_getElem?_getD, List.getElem?_eq_getElem hlt]; simp)
      obtain ⟨x, HX⟩ : ∃ x, Hid (x = L.getD n []) := ⟨_, rfl⟩
      rw [← HX.out] at hck hxl
      have hxs : (mk x).size ≤ maxLen := by rw [mk_size]; unfold maxLen; omega
      have hxz := mk_size x
      go_wp2_with fail
      refine (rcheck_any (mk x) _ hxs).mono ?_
      rintro e w1 ⟨rfl, hb1⟩
      rw [mk_data]
      have hbe1 : Below W0.heap.size W0 w1 := hbe.trans (hb1.mono hws)
      have hws1 := hbe1.size
      have hck1 := (hb1.cell (p := ⟨b, off + n, none⟩) (by simp; omega)).trans hck
      have hcn : (why (chk x) != 0) = (chk x).isSome := by cases chk x <;> rfl
      go_wp2
      obtain ⟨w2, hw2⟩ : ∃ w2, w1.alloc (.cells #[.int .i64 (why (chk x)), .int .i64 (pos (chk x))] 26) = w2 := ⟨_, rfl⟩
      rw [hw2]
      have hb2 : Below wr.heap.size wr w2 := by rw [← hw2]; exact hb1.alloc hb1.size _
      have hbe2 : Below W0.heap.size W0 w2 := hbe.trans (hb2.mono hws)
      have hws2 := hbe2.size
      have hck2 := (hb2.cell (p := ⟨b, off + n, none⟩) (by simp; omega)).trans hck
      obtain ⟨p0, p1, p2, p3⟩ := cell2 ((hbe2.block w.heap.size (by omega)).trans bF)
      clear hw2 hb1 hbe1 hws1 hck1 hck f0 f1 f2 f3
      go_loop [8, 9] (fun bd j => ∃ (m : Nat) (q : Bool), m ≤ x.length ∧ j = .int .i64 m ∧ bd = .bool q ∧ q = ((chk x).isSome || has 13 (x.take m))) (fun _ j => x.length - (intOf j).toNat)
      case atStart => exact ⟨0, _, Nat.zero_le _, rfl, rfl, by simp [has]⟩
      case round =>
        obtain ⟨m, q, hm, rfl, rfl, hq⟩ := hrel
        have HQ : Hid (q = ((chk x).isSome || has 13 (x.take m))) := hq
        clear hq hcn
        by_cases hmx : m < x.length
        · have hmx' : m < (mk x).size := by rw [mk_size]; exact hmx
          cases q
          · have hg : ∀ h, (mk x)[m]'h = x.getD m 0 := fun h => mk_getD x m h
            have hb13 := b13 (x.getD m 0)
            have HH := has_take 13 x m hmx
            cases h13 : (x.getD m 0 == 13)
            · rw [h13] at hb13
              have HN : Hid (false = ((chk x).isSome || has 13 (x.take (m + 1)))) := by rw [HH, h13]; have := HQ.out; simp at this; simp [this, Hid]
              clear h13 HH
              generalize x.getD m 0 = c at hg hb13
              go_wp2
              go_round
              case rel => exact ⟨m + 1, false, by omega, by go_num, rfl, HN.out⟩
              case measure => (simp [intOf] <;> omega)
            · rw [h13] at hb13
              have HN : Hid (true = ((chk x).isSome || has 13 (x.take (m + 1)))) := by rw [HH, h13]; simp [Hid]
              clear h13 HH
              generalize x.getD m 0 = c at hg hb13
              go_wp2
              go_round
              case rel => exact ⟨m + 1, true, by omega, by go_num, rfl, HN.out⟩
              case measure => (simp [intOf] <;> omega)
          · have HN : Hid (true = ((chk x).isSome || has 13 (x.take (m + 1)))) := by
              rw [has_take 13 x m hmx]; exact or3 _ _ _ HQ.out
            go_wp2
            go_round
            case rel => exact ⟨m + 1, true, by omega, by go_num, rfl, HN.out⟩
            case measure => (simp [intOf] <;> omega)
        · have HB : Hid (q = bad x) := by
            have h1 := HQ.out
            rw [List.take_of_length_le (by omega)] at h1
            unfold bad
            rw [h1, Bool.or_comm]
            exact rfl
          clear HQ
          cases q
          · have n3 : ∀ ww : World, ∀ c t k, (ww.alloc (.cells #[.int .i64 c, .string t, .int .i64 k] 40)).cell? ⟨ww.heap.size, 1, none⟩ = some (.string t) := fun ww c t k => (cell_new3 ww _ _ _ _).2.1
            cases ht : text x with
            | nil =>
              have HW : Hid (Rws.wr x = 0) := by unfold Rws.wr; rw [← HB.out, ht]; exact rfl
              have he : emp (text x) = true := by rw [ht]; rfl
              clear ht
              go_wp2_with (first | (go_at_call 28; refine (rrow_agg x ((n : Int) + 1) _ (by omega)).mono ?_; rintro e w3 ⟨rfl, hb3⟩; have nw := cell_new3 w3 (.int .i64 (col x)) (.string (mk (text x))) (.int .i64 ((n : Int) + 1)) 40) | (go_at_call 29; refine (rEmpty_any _ _ (text x) _).mono ?_; rintro e w4 ⟨rfl, hb4⟩; rw [he]; have q0 := (hb4.cell (p := ⟨w3.heap.size, 0, none⟩) (by simp)).trans nw.1; have q1 := (hb4.cell (p := ⟨w3.heap.size, 1, none⟩) (by simp)).trans nw.2.1; have q2 := (hb4.cell (p := ⟨w3.heap.size, 2, none⟩) (by simp)).trans nw.2.2; have h3s := hb3.size; have h4s := hb4.size; have hb24 : Below w2.heap.size w2 w4 := (hb3.alloc hb3.size _).trans (hb4.mono (by simp; omega)); have hb04 : Below wr.heap.size wr w4 := hb2.trans (hb24.mono hb2.size); have hbe4 : Below W0.heap.size W0 w4 := hbe.trans (hb04.mono hws); have hws4 := hbe4.size; have hown4 := own_later hown hb04; obtain ⟨r0, r1, r2, r3⟩ := cell2 ((hbe4.block w.heap.size (by omega)).trans bF)) | (at_builtin; refine wpList_append_own _ rfl _ _ 23 rfl W0.heap.size 40 i0 (.agg #[.int .i64 0, .string ⟨#[]⟩, .int .i64 0]) 3 32 Tryd.underlying23 hi hz0 hz1 hz2 rfl (by decide) _ _ _ rfl (hown4.alloc _) ⟨w4.heap.size, 0, none⟩ 1 1 [.int .i64 (col x), .string (mk (text x)), .int .i64 ((n : Int) + 1)] rfl rfl (cells_new3 _ _ _ _ _) (one3 _ _ _) (by unfold maxLen; omega) (by omega) (by simp; omega) ?_; intro v' w5 hown' hgrow _; obtain ⟨k1, k2⟩ := grow_below hown4 hbe4 hws4 hgrow; clear hgrow))
              have hown5 : w5.ownsRow W0.heap.size 40 3 v' (n + 1) (rowsV (num 1 (L.take (n + 1)))) := by
                rw [rows_at hlt (by rw [← HX.out]; omega), ← HX.out]; push_cast; exact hown'
              have HOK5 : okay (L.take (n + 1)) = true := by
                rw [take_snocL L n hlt, okay_app, HOK.out, okay_one, ← HX.out, HW.out]; rfl
              clear hown' hown4
              go_wp2
              go_roundw
              case rel => exact ⟨n + 1, by omega, by go_num, hown5, HOK5, k1⟩
              case measure => (simp [intOf] <;> omega)
            | cons c r =>
              cases he : emp (c :: r)
              · by_cases h9 : c = 9
                · have HW : Hid (Rws.wr x = 9) := by unfold Rws.wr; rw [← HB.out, ht, he, h9]; exact rfl
                  have hb9 := b9 c
                  have h9' : (c == 9) = true := by simpa using h9
                  rw [h9'] at hb9
                  rw [← ht] at he
                  have hcz : (mk (text x)).size = r.length + 1 := by rw [mk_size, ht]; simp
                  have hg : ∀ h, (mk (text x))[0]'h = c := fun h => by rw [mk_getD, ht]; rfl
                  clear h9 h9' ht
                  go_wp2_with (first | (go_at_call 28; refine (rrow_agg x ((n : Int) + 1) _ (by omega)).mono ?_; rintro e w3 ⟨rfl, hb3⟩; have nw := cell_new3 w3 (.int .i64 (col x)) (.string (mk (text x))) (.int .i64 ((n : Int) + 1)) 40) | (go_at_call 29; refine (rEmpty_any _ _ (text x) _).mono ?_; rintro e w4 ⟨rfl, hb4⟩; rw [he]; have q0 := (hb4.cell (p := ⟨w3.heap.size, 0, none⟩) (by simp)).trans nw.1; have q1 := (hb4.cell (p := ⟨w3.heap.size, 1, none⟩) (by simp)).trans nw.2.1; have q2 := (hb4.cell (p := ⟨w3.heap.size, 2, none⟩) (by simp)).trans nw.2.2; have h3s := hb3.size; have h4s := hb4.size; have hb24 : Below w2.heap.size w2 w4 := (hb3.alloc hb3.size _).trans (hb4.mono (by simp; omega)); have hb04 : Below wr.heap.size wr w4 := hb2.trans (hb24.mono hb2.size); have hbe4 : Below W0.heap.size W0 w4 := hbe.trans (hb04.mono hws); have hws4 := hbe4.size; have hown4 := own_later hown hb04; obtain ⟨r0, r1, r2, r3⟩ := cell2 ((hbe4.block w.heap.size (by omega)).trans bF)))
                  refine bodyPost_ret (v := .tuple #[.slice none 0 0, .agg #[.int .i64 9, .int .i64 ((n : Int) + 1)]]) ?_ rfl ?_
                  · simp [results, Tryd.results11, go_sem, r0, r1]
                  · have hf := flt_at L n hlt HOK.out (by rw [← HX.out, HW.out]; decide)
                    refine ⟨.slice none 0 0, ?_, ?_, ?_⟩
                    · rw [← HL.out, hf.1, ← HX.out, HW.out]; rfl
                    · have e : rws s = [] := by unfold rws; rw [← HL.out, hf.2]; rfl
                      rw [e]; exact World.ownsRow_nil _ _ _ _
                    · exact ((hB0.trans (hbe4.mono (by omega))).setCell (p := ⟨w.heap.size, 0, none⟩) (Nat.le_refl _) _).setCell (p := ⟨w.heap.size, 1, none⟩) (Nat.le_refl _) _
                · have hw : Rws.wr x = 0 := by
                    unfold Rws.wr; rw [← HB.out, ht, he]
                    have : (c == 9) = false := by simpa using h9
                    simp [h9]
                  have HW : Hid (Rws.wr x = 0) := hw
                  clear hw
                  have hb9 := b9 c
                  have h9' : (c == 9) = false := by simpa using h9
                  rw [h9'] at hb9
                  rw [← ht] at he
                  have hcz : (mk (text x)).size = r.length + 1 := by rw [mk_size, ht]; simp
                  have hg : ∀ h, (mk (text x))[0]'h = c := fun h => by rw [mk_getD, ht]; rfl
                  clear h9 h9' ht
                  go_wp2_with (first | (go_at_call 28; refine (rrow_agg x ((n : Int) + 1) _ (by omega)).mono ?_; rintro e w3 ⟨rfl, hb3⟩; have nw := cell_new3 w3 (.int .i64 (col x)) (.string (mk (text x))) (.int .i64 ((n : Int) + 1)) 40) | (go_at_call 29; refine (rEmpty_any _ _ (text x) _).mono ?_; rintro e w4 ⟨rfl, hb4⟩; rw [he]; have q0 := (hb4.cell (p := ⟨w3.heap.size, 0, none⟩) (by simp)).trans nw.1; have q1 := (hb4.cell (p := ⟨w3.heap.size, 1, none⟩) (by simp)).trans nw.2.1; have q2 := (hb4.cell (p := ⟨w3.heap.size, 2, none⟩) (by simp)).trans nw.2.2; have h3s := hb3.size; have h4s := hb4.size; have hb24 : Below w2.heap.size w2 w4 := (hb3.alloc hb3.size _).trans (hb4.mono (by simp; omega)); have hb04 : Below wr.heap.size wr w4 := hb2.trans (hb24.mono hb2.size); have hbe4 : Below W0.heap.size W0 w4 := hbe.trans (hb04.mono hws); have hws4 := hbe4.size; have hown4 := own_later hown hb04; obtain ⟨r0, r1, r2, r3⟩ := cell2 ((hbe4.block w.heap.size (by omega)).trans bF)) | (at_builtin; refine wpList_append_own _ rfl _ _ 23 rfl W0.heap.size 40 i0 (.agg #[.int .i64 0, .string ⟨#[]⟩, .int .i64 0]) 3 32 Tryd.underlying23 hi hz0 hz1 hz2 rfl (by decide) _ _ _ rfl (hown4.alloc _) ⟨w4.heap.size, 0, none⟩ 1 1 [.int .i64 (col x), .string (mk (text x)), .int .i64 ((n : Int) + 1)] rfl rfl (cells_new3 _ _ _ _ _) (one3 _ _ _) (by unfold maxLen; omega) (by omega) (by simp; omega) ?_; intro v' w5 hown' hgrow _; obtain ⟨k1, k2⟩ := grow_below hown4 hbe4 hws4 hgrow; clear hgrow))
                  have hown5 : w5.ownsRow W0.heap.size 40 3 v' (n + 1) (rowsV (num 1 (L.take (n + 1)))) := by
                    rw [rows_at hlt (by rw [← HX.out]; omega), ← HX.out]; push_cast; exact hown'
                  have HOK5 : okay (L.take (n + 1)) = true := by
                    rw [take_snocL L n hlt, okay_app, HOK.out, okay_one, ← HX.out, HW.out]; rfl
                  clear hown' hown4
                  go_wp2
                  go_roundw
                  case rel => exact ⟨n + 1, by omega, by go_num, hown5, HOK5, k1⟩
                  case measure => (simp [intOf] <;> omega)
              · have HW : Hid (Rws.wr x = 0) := by unfold Rws.wr; rw [← HB.out, ht, he]; exact rfl
                rw [← ht] at he
                clear ht
                go_wp2_with (first | (go_at_call 28; refine (rrow_agg x ((n : Int) + 1) _ (by omega)).mono ?_; rintro e w3 ⟨rfl, hb3⟩; have nw := cell_new3 w3 (.int .i64 (col x)) (.string (mk (text x))) (.int .i64 ((n : Int) + 1)) 40) | (go_at_call 29; refine (rEmpty_any _ _ (text x) _).mono ?_; rintro e w4 ⟨rfl, hb4⟩; rw [he]; have q0 := (hb4.cell (p := ⟨w3.heap.size, 0, none⟩) (by simp)).trans nw.1; have q1 := (hb4.cell (p := ⟨w3.heap.size, 1, none⟩) (by simp)).trans nw.2.1; have q2 := (hb4.cell (p := ⟨w3.heap.size, 2, none⟩) (by simp)).trans nw.2.2; have h3s := hb3.size; have h4s := hb4.size; have hb24 : Below w2.heap.size w2 w4 := (hb3.alloc hb3.size _).trans (hb4.mono (by simp; omega)); have hb04 : Below wr.heap.size wr w4 := hb2.trans (hb24.mono hb2.size); have hbe4 : Below W0.heap.size W0 w4 := hbe.trans (hb04.mono hws); have hws4 := hbe4.size; have hown4 := own_later hown hb04; obtain ⟨r0, r1, r2, r3⟩ := cell2 ((hbe4.block w.heap.size (by omega)).trans bF)) | (at_builtin; refine wpList_append_own _ rfl _ _ 23 rfl W0.heap.size 40 i0 (.agg #[.int .i64 0, .string ⟨#[]⟩, .int .i64 0]) 3 32 Tryd.underlying23 hi hz0 hz1 hz2 rfl (by decide) _ _ _ rfl (hown4.alloc _) ⟨w4.heap.size, 0, none⟩ 1 1 [.int .i64 (col x), .string (mk (text x)), .int .i64 ((n : Int) + 1)] rfl rfl (cells_new3 _ _ _ _ _) (one3 _ _ _) (by unfold maxLen; omega) (by omega) (by simp; omega) ?_; intro v' w5 hown' hgrow _; obtain ⟨k1, k2⟩ := grow_below hown4 hbe4 hws4 hgrow; clear hgrow))
                have hown5 : w5.ownsRow W0.heap.size 40 3 v' (n + 1) (rowsV (num 1 (L.take (n + 1)))) := by
                  rw [rows_at hlt (by rw [← HX.out]; omega), ← HX.out]; push_cast; exact hown'
                have HOK5 : okay (L.take (n + 1)) = true := by
                  rw [take_snocL L n hlt, okay_app, HOK.out, okay_one, ← HX.out, HW.out]; rfl
                clear hown' hown4
                go_wp2
                go_roundw
                case rel => exact ⟨n + 1, by omega, by go_num, hown5, HOK5, k1⟩
                case measure => (simp [intOf] <;> omega)
          · have HW : Hid (Rws.wr x = 8) := by unfold Rws.wr; rw [← HB.out]; exact rfl
            go_wp2
            refine bodyPost_ret (v := .tuple #[.slice none 0 0, .agg #[.int .i64 8, .int .i64 ((n : Int) + 1)]]) ?_ rfl ?_
            · simp [results, Tryd.results11, go_sem, p0, p1]
            · have hf := flt_at L n hlt HOK.out (by rw [← HX.out, HW.out]; decide)
              refine ⟨.slice none 0 0, ?_, ?_, ?_⟩
              · rw [← HL.out, hf.1, ← HX.out, HW.out]; rfl
              · have e : rws s = [] := by unfold rws; rw [← HL.out, hf.2]; rfl
                rw [e]; exact World.ownsRow_nil _ _ _ _
              · exact ((hB0.trans (hbe2.mono (by omega))).setCell (p := ⟨w.heap.size, 0, none⟩) (Nat.le_refl _) _).setCell (p := ⟨w.heap.size, 1, none⟩) (Nat.le_refl _) _
    · have HE : Hid (L.take n = L) := List.take_of_length_le (by omega)
      have hok := HOK.out
      rw [HE.out] at hok hown
      have HR : Hid (rws s = num 1 L ∧ flt 1 (lns s) = (0, 0)) := ⟨by unfold rws; rw [← HL.out, hok]; rfl, by rw [← HL.out]; exact flt_ok _ hok 1⟩
      obtain rfl : n = L.length := by omega
      obtain ⟨va, vc, rfl⟩ := slice_of_own hown
      go_wp2
      refine bodyPost_ret (v := .tuple #[.slice va L.length vc, .agg #[.int .i64 0, .int .i64 0]]) ?_ rfl ?_
      · simp [results, Tryd.results11, go_sem, f0, f1]
      · refine ⟨_, by rw [HR.out.2], ?_, ?_⟩
        · rw [HR.out.1, num_len]
          exact ownsRow_lower (ownsRow_setCell_below (ownsRow_setCell_below hown (a := ⟨w.heap.size, 0, none⟩) (by simp; omega) _) (a := ⟨w.heap.size, 1, none⟩) (by simp; omega) _) (by omega)
        · exact ((hB0.trans (hbe.mono (by omega))).setCell (p := ⟨w.heap.size, 0, none⟩) (Nat.le_refl _) _).setCell (p := ⟨w.heap.size, 1, none⟩) (Nat.le_refl _) _

end Go.Proofs.YthppoibdiehfkaaDoor.Rws
