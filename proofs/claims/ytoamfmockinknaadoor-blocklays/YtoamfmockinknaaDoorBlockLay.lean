/- block.canStand, block.Lay, by their contracts. -/
import Derived.Test.YtoamfmockinknaaDoorBlockSuf
import Derived.Test.YtoamfmockinknaaDoorBlockStep
import Derived.Test.YtoamfmockinknaaDoorUtfChk
import Derived.Test.YtoamfmockinknaaDoorRowsLines
namespace Go.Proofs.YtoamfmockinknaaDoor.Blk
open Go.RowKit
open Rws (mk mk_data mk_size mk_of mk_ext mk_get mk_inj has trL is32 trL_len lns lns_len lns_mem_len)
open Utf (chk why pos)
set_option linter.unusedSimpArgs false
set_option linter.unusedVariables false
set_option maxRecDepth 100000

theorem mk_beq2 (a b : Ln) : ((mk a).toList == (mk b).toList) = decide (a = b) := by
  rw [ByteArray.toList_eq, ByteArray.toList_eq, mk_data, mk_data]
  by_cases h : a = b <;> simp [h]
set_option maxHeartbeats 2000000 in
theorem canStand_any (a : Option Addr) (len cap : Nat) (xs : List Ln) (w : World) (h : StrsAt w a len xs) (hl : len ≤ 140737488355327) (hx : ∀ x ∈ xs, x.length ≤ 140737488355328) :
    Calls Tryd.prog 18 #[.slice a len cap] w fun e w' => e = .returned (.bool (stC false xs)) ∧ w = w' := by
  have HZ : Hid (StrsAt w a len xs) := h
  have HX : Hid (∀ x ∈ xs, x.length ≤ 140737488355328) := hx
  clear h hx
  go_enter Tryd.func18, Tryd.ntmps18
  go_wp2
  go_loop [3, 9] (fun uf ui => ∃ (k : Nat) (f : Bool), k ≤ len ∧ ui = .int .i64 (k : Int) ∧ uf = .bool f ∧ stC false xs = stC f (xs.drop k)) (fun _ ui => len - (intOf ui).toNat)
  case atStart => exact ⟨0, false, Nat.zero_le _, rfl, rfl, rfl⟩
  case round =>
    obtain ⟨k, f, hk, rfl, rfl, hE⟩ := hrel
    have HE : Hid (stC false xs = stC f (xs.drop k)) := hE
    clear hE
    by_cases hlt : k < len
    · obtain ⟨b, off, rfl, hbb, hcc⟩ := HZ.out.2 (by omega)
      have c0 := hcc k hlt
      have hkx : k < xs.length := by rw [← HZ.out.1]; exact hlt
      have HD : Hid (xs.drop k = xs.getD k [] :: xs.drop (k + 1)) := drop_getD xs k hkx
      have hxl := HX.out (xs.getD k []) (by rw [List.getD_eq_getElem?_getD, List.getElem?_eq_getElem hkx]; exact List.getElem_mem _)
      obtain ⟨x, hx⟩ : ∃ x, x = xs.getD k [] := ⟨_, rfl⟩
      rw [← hx] at c0 HD hxl
      clear hx hcc hkx
      rw [HD.out] at HE
      clear HD
      by_cases hx0 : x = []
      · have HN : Hid (stC false xs = stC f (xs.drop (k + 1))) := by rw [HE.out, stC, if_pos hx0]; exact rfl
        rw [hx0, show mk [] = (⟨#[]⟩ : ByteArray) from rfl] at c0
        go_wp2
        go_round
        case rel => exact ⟨k + 1, f, by omega, by go_num, rfl, HN.out⟩
        case measure => (simp [intOf] <;> omega)
      · have hq : ((mk x).toList == []) = false := by rw [mk_nil_eq]; simpa using hx0
        have htl : (trL x).length ≤ 140737488355328 := Nat.le_trans (trL_len x) hxl
        have hne : (!((mk (trL x)).toList == (mk x).toList)) = !decide (trL x = x) := by rw [mk_beq2]
        have HS : Hid (stC false xs = if (x.getLast? == some 32 || (trL x).head? == some 9) = true then false else if f = false ∧ trL x ≠ x then false else stC true (xs.drop (k + 1))) := by rw [HE.out, stC, if_neg hx0]; exact rfl
        clear HE
        cases h1 : (x.getLast? == some 32)
        · cases h2 : ((trL x).head? == some 9)
          · rw [h1, h2] at HS
            by_cases ht : trL x = x
            · rw [decide_eq_true ht, Bool.not_true] at hne
              have HN : Hid (stC false xs = stC true (xs.drop (k + 1))) := by rw [HS.out, if_neg (by simp), if_neg (fun h => h.2 ht)]; exact rfl
              clear ht
              cases f <;>
              · go_wp2_with (first | (go_at_call 36; refine (Rws.trimLeft_any x _ hxl).mono ?_; rintro e w' ⟨rfl, rfl⟩) | (go_at_call 37; refine (suf_any x 32 _ hxl).mono ?_; rintro e w' ⟨rfl, rfl⟩; rw [h1]) | (go_at_call 27; refine (hasPrefix_any (trL x) 9 _ htl).mono ?_; rintro e w' ⟨rfl, rfl⟩; rw [h2]))
                go_round
                case rel => exact ⟨k + 1, true, by omega, by go_num, rfl, HN.out⟩
                case measure => (simp [intOf] <;> omega)
            · rw [decide_eq_false ht, Bool.not_false] at hne
              cases f
              · have HN : Hid (stC false xs = false) := by rw [HS.out, if_neg (by simp), if_pos ⟨rfl, ht⟩]; exact rfl
                go_wp2_with (first | (go_at_call 36; refine (Rws.trimLeft_any x _ hxl).mono ?_; rintro e w' ⟨rfl, rfl⟩) | (go_at_call 37; refine (suf_any x 32 _ hxl).mono ?_; rintro e w' ⟨rfl, rfl⟩; rw [h1]) | (go_at_call 27; refine (hasPrefix_any (trL x) 9 _ htl).mono ?_; rintro e w' ⟨rfl, rfl⟩; rw [h2]))
                go_ret
                exact ⟨ret_b HN.out.symm, rfl⟩
              · have HN : Hid (stC false xs = stC true (xs.drop (k + 1))) := by rw [HS.out, if_neg (by simp), if_neg (fun h => by cases h.1)]; exact rfl
                go_wp2_with (first | (go_at_call 36; refine (Rws.trimLeft_any x _ hxl).mono ?_; rintro e w' ⟨rfl, rfl⟩) | (go_at_call 37; refine (suf_any x 32 _ hxl).mono ?_; rintro e w' ⟨rfl, rfl⟩; rw [h1]) | (go_at_call 27; refine (hasPrefix_any (trL x) 9 _ htl).mono ?_; rintro e w' ⟨rfl, rfl⟩; rw [h2]))
                go_round
                case rel => exact ⟨k + 1, true, by omega, by go_num, rfl, HN.out⟩
                case measure => (simp [intOf] <;> omega)
          · have HN : Hid (stC false xs = false) := by rw [HS.out, h1, h2]; exact rfl
            go_wp2_with (first | (go_at_call 36; refine (Rws.trimLeft_any x _ hxl).mono ?_; rintro e w' ⟨rfl, rfl⟩) | (go_at_call 37; refine (suf_any x 32 _ hxl).mono ?_; rintro e w' ⟨rfl, rfl⟩; rw [h1]) | (go_at_call 27; refine (hasPrefix_any (trL x) 9 _ htl).mono ?_; rintro e w' ⟨rfl, rfl⟩; rw [h2]))
            go_ret
            exact ⟨ret_b HN.out.symm, rfl⟩
        · have HN : Hid (stC false xs = false) := by rw [HS.out, h1]; exact rfl
          go_wp2_with (first | (go_at_call 36; refine (Rws.trimLeft_any x _ hxl).mono ?_; rintro e w' ⟨rfl, rfl⟩) | (go_at_call 37; refine (suf_any x 32 _ hxl).mono ?_; rintro e w' ⟨rfl, rfl⟩; rw [h1]) | (go_at_call 27; refine (hasPrefix_any (trL x) 9 _ htl).mono ?_; rintro e w' ⟨rfl, rfl⟩; rw [h2]))
          go_ret
          exact ⟨ret_b HN.out.symm, rfl⟩
    · have HN : Hid (stC false xs = f) := by rw [HE.out, List.drop_of_length_le (by rw [← HZ.out.1]; omega)]; exact rfl
      go_wp2
      go_ret
      exact ⟨ret_b HN.out.symm, rfl⟩

/-- whether a text is laid -/
def okC (s : Ln) : Bool := (chk s).isNone && !has 13 s && stC false (lns s)
/-- what Lay answers -/
def LayRes (s : Ln) (w : World) (e : Ending) (w' : World) : Prop :=
  (okC s = true ∧ ∃ v, e = .returned (.tuple #[.agg #[.bool false, .int .i64 (chC s)], v, .bool true]) ∧ w'.ownsRow w.heap.size 9 1 v (lns s).length (strV (lns s)) ∧ Below w.heap.size w w') ∨
  (okC s = false ∧ e = .returned (.tuple #[.agg #[.bool false, .int .i64 0], .slice none 0 0, .bool false]) ∧ Below w.heap.size w w')

theorem fld0 (a b : Int) (w : World) : (Instr.field 39 (.agg #[.int .i64 a, .int .i64 b]) 0).run Tryd.prog w = .ok (.int .i64 a) w := by kernel_rfl
theorem why_ok (s : Ln) : (why (chk s) != 0) = !(chk s).isNone := by
  unfold why
  cases chk s <;> rfl
theorem lineV_strV (s : Ln) : ((lns s).map fun l => Value.string (mk l)) = strV (lns s) := rfl

set_option maxHeartbeats 4000000 in
theorem lay_any (s : Ln) (w : World) (hs : s.length ≤ 1048576) : Calls Tryd.prog 6 #[.string (mk s)] w fun e w' => LayRes s w e w' := by
  have hfd := fld0
  have hsz : (mk s).size ≤ maxLen := by rw [mk_size]; unfold maxLen; omega
  have HCK : Hid (∀ W, Calls Tryd.prog 16 #[.string (mk s)] W fun e w' => e = .returned (.agg #[.int .i64 (why (chk s)), .int .i64 (pos (chk s))]) ∧ Below W.heap.size W w') := fun W => by
    have h := Utf.check_any (mk s) W hsz
    rw [mk_data] at h
    exact h
  have hll : (lns s).length ≤ 1048576 := Nat.le_trans (lns_len _ s (Nat.le_refl _)) hs
  have HLM : Hid (∀ x ∈ lns s, x.length ≤ 140737488355328) := fun x hx => Nat.le_trans (lns_mem_len _ s (Nat.le_refl _) x hx) (by omega)
  have HLI : Hid (∀ W, Calls Tryd.prog 15 #[.string (mk s)] W fun e w' => ∃ v, e = .returned v ∧ w'.ownsRow W.heap.size 9 1 v (lns s).length (strV (lns s)) ∧ Below W.heap.size W w') := fun W => Rws.lines_in s hs W
  have hwy := why_ok s
  have HOK : Hid (okC s = ((chk s).isNone && !has 13 s && stC false (lns s))) := rfl
  generalize why (chk s) = y at *
  generalize pos (chk s) = p at *
  generalize (chk s).isNone = ck at *
  obtain ⟨W, hW⟩ : ∃ W, w.alloc (.cells #[.bool false, .int .i64 0] 24) = W := ⟨_, rfl⟩
  have hbW : Below w.heap.size w W := by rw [← hW]; exact (Below.refl _ _).alloc (Nat.le_refl _) _
  have hWs : W.heap.size = w.heap.size + 1 := by rw [← hW]; simp
  have hcW : W.heap[w.heap.size]? = some (.cells #[.bool false, .int .i64 0] 24 (0, 0)) := by rw [← hW]; exact heap_alloc_new w _
  have HKK : Hid (∀ W2, Below (w.heap.size + 1) W W2 → Below w.heap.size w W2 ∧ W2.cell? ⟨w.heap.size, 0, none⟩ = some (.bool false) ∧ W2.cell? ⟨w.heap.size, 1, none⟩ = some (.int .i64 0) ∧ W2.frozen? ⟨w.heap.size, 0, none⟩ = false ∧ W2.frozen? ⟨w.heap.size, 1, none⟩ = false) := fun W2 hb => by
    have hk : W2.heap[w.heap.size]? = some (.cells #[.bool false, .int .i64 0] 24 (0, 0)) := (hb.block _ (by omega)).trans hcW
    exact ⟨hbW.trans (hb.mono (by omega)), by rw [Lib.cell_of_heap hk]; rfl, by rw [Lib.cell_of_heap hk]; rfl, Lib.frozen_of_heap hk 0, Lib.frozen_of_heap hk 1⟩
  have HWS : Hid (W.heap.size = w.heap.size + 1) := hWs
  clear hbW hcW hWs
  go_enter Tryd.func6, Tryd.ntmps6
  go_wp2_with fail
  clear hW
  refine (HLI.out _).mono ?_
  rintro e w1 ⟨v, rfl, hown, hb1⟩
  rw [HWS.out] at hown hb1
  obtain ⟨a1, cap1, rfl, hcap, hat⟩ := strs_own hown
  obtain ⟨N, hN⟩ : ∃ N, N = (lns s).length := ⟨_, rfl⟩
  rw [← hN] at hll hcap hat ⊢
  have HO : Hid (w1.ownsRow (w.heap.size + 1) 9 1 (.slice a1 N cap1) N (strV (lns s))) := by rw [hN]; exact hown
  have HAT : Hid (StrsAt w1 a1 N (lns s)) := hat
  have HNN : Hid (N = (lns s).length) := hN
  have s1 : w.heap.size + 1 ≤ w1.heap.size := by have := hb1.size; have := HWS.out; omega
  clear hown hat hN HLI
  go_wp2_with fail
  refine (HCK.out _).mono ?_
  rintro e w2 ⟨rfl, hb2⟩
  have HA2 : Hid (StrsAt w2 a1 N (lns s)) := HAT.out.later hb2 (Nat.le_refl _)
  obtain ⟨b0, d0, d1, d2, d3⟩ := HKK.out _ (hb1.trans (hb2.mono s1))
  clear HCK HKK
  cases ck
  · have HBAD : Hid (okC s = false) := by rw [HOK.out]; exact rfl
    rw [Bool.not_false] at hwy
    go_wp2_with (first | (go_at_call 17; refine (contains13_any s _).mono ?_; rintro e w' ⟨rfl, rfl⟩; skip) | (go_at_call 18; refine (canStand_any a1 N cap1 (lns s) _ HA2.out (by omega) HLM.out).mono ?_; rintro e w' ⟨rfl, rfl⟩; skip) | (go_at_call 19; refine (chompOf_any s _ (by omega)).mono ?_; rintro e w' ⟨rfl, rfl⟩))
    refine bodyPost_ret (v := .tuple #[.agg #[.bool false, .int .i64 0], .slice none 0 0, .bool false]) (by simp [results, Tryd.results6, go_sem, d0, d1]) rfl (.inr ⟨HBAD.out, rfl, (b0.setCell (p := ⟨w.heap.size, 0, none⟩) (Nat.le_refl _) _).setCell (p := ⟨w.heap.size, 1, none⟩) (Nat.le_refl _) _⟩)
  · rw [Bool.not_true] at hwy
    cases h13 : has 13 s
    · cases hst : stC false (lns s)
      · have HBAD : Hid (okC s = false) := by rw [HOK.out, h13, hst]; exact rfl
        go_wp2_with (first | (go_at_call 17; refine (contains13_any s _).mono ?_; rintro e w' ⟨rfl, rfl⟩; rw [h13]) | (go_at_call 18; refine (canStand_any a1 N cap1 (lns s) _ HA2.out (by omega) HLM.out).mono ?_; rintro e w' ⟨rfl, rfl⟩; rw [hst]) | (go_at_call 19; refine (chompOf_any s _ (by omega)).mono ?_; rintro e w' ⟨rfl, rfl⟩))
        refine bodyPost_ret (v := .tuple #[.agg #[.bool false, .int .i64 0], .slice none 0 0, .bool false]) (by simp [results, Tryd.results6, go_sem, d0, d1]) rfl (.inr ⟨HBAD.out, rfl, (b0.setCell (p := ⟨w.heap.size, 0, none⟩) (Nat.le_refl _) _).setCell (p := ⟨w.heap.size, 1, none⟩) (Nat.le_refl _) _⟩)
      · have HOKK : Hid (okC s = true) := by rw [HOK.out, h13, hst]; exact rfl
        obtain ⟨C, HC⟩ : ∃ C : Int, Hid (C = chC s) := ⟨_, rfl⟩
        go_wp2_with (first | (go_at_call 17; refine (contains13_any s _).mono ?_; rintro e w' ⟨rfl, rfl⟩; rw [h13]) | (go_at_call 18; refine (canStand_any a1 N cap1 (lns s) _ HA2.out (by omega) HLM.out).mono ?_; rintro e w' ⟨rfl, rfl⟩; rw [hst]) | (go_at_call 19; refine (chompOf_any s _ (by omega)).mono ?_; rintro e w' ⟨rfl, rfl⟩))
        rw [← HC.out]
        refine bodyPost_ret (v := .tuple #[.agg #[.bool false, .int .i64 C], .slice a1 N cap1, .bool true]) (by simp [results, Tryd.results6, go_sem, d0, d1]) rfl (.inl ⟨HOKK.out, _, by rw [HC.out], ?_, (b0.setCell (p := ⟨w.heap.size, 0, none⟩) (Nat.le_refl _) _).setCell (p := ⟨w.heap.size, 1, none⟩) (Nat.le_refl _) _⟩)
        rw [← HNN.out]
        exact own_mono (ownsRow_setCell_below (a := ⟨w.heap.size, 1, none⟩) (ownsRow_setCell_below (a := ⟨w.heap.size, 0, none⟩) (own_later HO.out hb2) (Nat.lt_succ_self _) _) (Nat.lt_succ_self _) _) (Nat.le_succ _)
    · have HBAD : Hid (okC s = false) := by rw [HOK.out, h13]; exact rfl
      go_wp2_with (first | (go_at_call 17; refine (contains13_any s _).mono ?_; rintro e w' ⟨rfl, rfl⟩; rw [h13]) | (go_at_call 18; refine (canStand_any a1 N cap1 (lns s) _ HA2.out (by omega) HLM.out).mono ?_; rintro e w' ⟨rfl, rfl⟩; skip) | (go_at_call 19; refine (chompOf_any s _ (by omega)).mono ?_; rintro e w' ⟨rfl, rfl⟩))
      refine bodyPost_ret (v := .tuple #[.agg #[.bool false, .int .i64 0], .slice none 0 0, .bool false]) (by simp [results, Tryd.results6, go_sem, d0, d1]) rfl (.inr ⟨HBAD.out, rfl, (b0.setCell (p := ⟨w.heap.size, 0, none⟩) (Nat.le_refl _) _).setCell (p := ⟨w.heap.size, 1, none⟩) (Nat.le_refl _) _⟩)

end Go.Proofs.YtoamfmockinknaaDoor.Blk
