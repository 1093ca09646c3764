/- Several texts as one: FlowRwr, FlowRwrite, FlowSame. -/
import Derived.Test.YteokhnielbmifaaGreatDoorFbRD
import Derived.Test.YteokhnielbmifaaGreatDoorFlowTwo
import Derived.Test.YteokhnielbmifaaGreatDoorFbX
import Derived.Test.YteokhnielbmifaaGreatDoorFlowRsame
import Derived.Test.YteokhnielbmifaaGreatDoorFlowProp
section
/- The document's write, and Write. -/
namespace Go.Proofs.YteokhnielbmifaaGreatDoor.Flw
open Utf Rws Pln
open Go.RowKit
set_option linter.unusedSimpArgs false
set_option linter.unusedVariables false
set_option maxRecDepth 100000
set_option maxHeartbeats 4000000

theorem rgh_yes2 {d : Nat} (hd : 64 < d) {t : Tr} (h : rgh d t = true) : rgt 64 t = true ∧ cntT 64 t ≤ 4096 := by
  rw [rgh_iff hd] at h
  simpa using h
theorem jn_snoc (mp : Bool) (y : Ln) : ∀ (xs : List Ln) (i : Nat), jn mp i (xs ++ [y]) = jn mp i xs ++ (sep mp (i + xs.length) ++ y)
  | [], i => by simp [jn]
  | z :: xs, i => by
    simp only [List.cons_append, jn, List.length_cons]
    rw [jn_snoc mp y xs (i + 1), show i + 1 + xs.length = i + (xs.length + 1) by omega]
    simp [List.append_assoc]
def sS (mp : Bool) (a : Ln) (D : Nat) (ks : List Tr) (j : Nat) : Ln := ancW a ++ ((if mp then 123 else 91) :: jn mp 0 ((ks.take j).map fun k => wrt D k))
theorem sS_succ (mp : Bool) (a : Ln) (D : Nat) (ks : List Tr) (j : Nat) (h : j < ks.length) : sS mp a D ks (j + 1) = sS mp a D ks j ++ sep mp j ++ wrt D (ks.getD j tr0) := by
  unfold sS
  have e : (ks.take (j + 1)).map (fun k => wrt D k) = (ks.take j).map (fun k => wrt D k) ++ [wrt D (ks.getD j tr0)] := by
    rw [List.take_succ_eq_append_getElem h, List.map_append, List.getD_eq_getElem?_getD, List.getElem?_eq_getElem h]
    rfl
  rw [e, jn_snoc, List.length_map, List.length_take, Nat.zero_add, Nat.min_eq_left (by omega)]
  simp [List.append_assoc]
theorem sum_take (c : Tr → Nat) : ∀ (ks : List Tr) (j : Nat), ((ks.take j).map c).sum ≤ (ks.map c).sum
  | [], j => by simp
  | k :: ks, 0 => by simp
  | k :: ks, j + 1 => by
    simp only [List.take_succ_cons, List.map_cons, List.sum_cons]
    have := sum_take c ks j
    omega
theorem sS_len (mp : Bool) (a : Ln) (D : Nat) (ks : List Tr) (j : Nat) (ha : a.length ≤ 65536) (hk : ∀ k ∈ ks, (wrt D k).length + 2 ≤ 720906 * cntT D k) (hs : (ks.map fun k => cntT D k).sum ≤ 4096) : (sS mp a D ks j).length ≤ 3000000000 := by
  unfold sS
  have h1 := jn_len mp 720906 (fun k => wrt D k) (fun k => cntT D k) 0 (ks.take j) (fun k h => hk k (List.mem_of_mem_take h))
  have h2 := sum_take (fun k => cntT D k) ks j
  have h3 := ancW_len a
  rw [List.length_append, List.length_cons]
  omega
theorem anc_mk (a : Ln) (h : a ≠ []) : mk [38] ++ mk a ++ mk [32] = mk (ancW a) := by
  rw [cat_mk, cat_mk]
  unfold ancW
  rw [if_neg h]
  rfl
theorem rwr_alias (x a : Ln) (ad : Option Addr) (len cap : Nat) (w : World) (ha : a.length ≤ 65536) : Calls Tryz.prog 24 #[.agg #[.int .i64 7, .string (mk x), .string (mk a), .slice ad len cap]] w fun e w' => e = .returned (.string (mk (42 :: a))) ∧ Below w.heap.size w w' := by
  have hz := mk_size a
  have ho : (⟨#[42]⟩ : ByteArray).size = 1 := rfl
  have he : (⟨#[42]⟩ : ByteArray) ++ mk a = mk (42 :: a) := cat_mk [42] a
  go_enter Tryz.func24, Tryz.ntmps24
  go_wp2
  go_ret
  exact ⟨by rw [← he]; rfl, below_alloc _ _⟩
theorem rwr_leaf (k : Int) (x a : Ln) (ad : Option Addr) (len cap : Nat) (w : World) (hx : x.length ≤ 65536) (ha : a.length ≤ 65536) (h1 : 1 ≤ k) (h4 : k ≤ 4) (hT : Tb w) : Calls Tryz.prog 24 #[.agg #[.int .i64 k, .string (mk x), .string (mk a), .slice ad len cap]] w fun e w' => e = .returned (.string (mk (ancW a ++ scl true k x))) ∧ Below w.heap.size w w' := by
  have h7 : (k == 7) = false := by simp; omega
  have HSC : Hid (∀ w0, Calls Tryz.prog 42 #[.int .i64 k] w0 fun e w' => e = .returned (.bool true) ∧ w0 = w') := fun w0 => by
    have := rscalar_any k w0
    rw [decide_eq_true h1, decide_eq_true h4] at this
    exact this
  have hal := ancW_len a
  have hsl := scl_len true k x
  by_cases hne : a = []
  · subst hne
    have b1 := below_alloc w (.cells #[.int .i64 k, .string (mk x), .string (mk []), .slice ad len cap] 24)
    have n1 := Bx.new w #[.int .i64 k, .string (mk x), .string (mk []), .slice ad len cap] 24
    have ea : ((mk []).toList == []) = true := by rw [ByteArray.toList_eq, mk_data]; rfl
    have ea2 : (mk []).toList.isEmpty = true := by rw [ByteArray.toList_eq, mk_data]; rfl
    have HA : Hid (ancW [] = []) := rfl
    have HS : Hid (Calls Tryz.prog 17 #[.agg #[.int .i64 k, .string (mk x), .string (mk []), .slice ad len cap], .bool true] (w.alloc (.cells #[.int .i64 k, .string (mk x), .string (mk []), .slice ad len cap] 24)) fun e w' => e = .returned (.string (mk (scl true k x))) ∧ Hid (Below w.heap.size w w')) :=
      (rscal_any true hx (hT.later b1)).mono (fun e w' g => ⟨g.1, b1.trans (g.2.mono b1.size)⟩)
    have HF : Hid ((⟨#[]⟩ : ByteArray) ++ mk (scl true k x) = mk (ancW [] ++ scl true k x)) := cat_mk _ _
    have hz1 : (⟨#[]⟩ : ByteArray).size = 0 := rfl
    have hz2 := mk_size (scl true k x)
    have hz3 : (⟨#[]⟩ : ByteArray).size = 0 := rfl
    have hz4 : (mk (scl true k x)).size ≤ 700000 := by rw [hz2]; omega
    clear hT b1 n1 hz1 hz2 hal hsl
    generalize scl true k x = Z at *
    generalize mk (ancW [] ++ Z) = F at *
    skip
    go_enter Tryz.func24, Tryz.ntmps24
    go_wp2_with (first | (go_at_call 42; refine (HSC.out _).mono ?_; rintro e w' ⟨rfl, rfl⟩) | (go_at_call 17; refine HS.out.mono ?_; rintro e w3 ⟨rfl, H3⟩))
    go_ret
    refine ⟨?_, H3.out⟩
    rw [← HF.out]
    first | rfl | (simp [hA]; done) | (congr 2; simp [hA]; done)
  · have ea : ((mk a).toList == []) = false := by rw [ByteArray.toList_eq, mk_data]; simpa using hne
    have b1 := below_alloc w (.cells #[.int .i64 k, .string (mk x), .string (mk a), .slice ad len cap] 24)
    have n1 := Bx.new w #[.int .i64 k, .string (mk x), .string (mk a), .slice ad len cap] 24
    have ea2 : (mk a).toList.isEmpty = false := by rw [ByteArray.toList_eq, mk_data]; simpa using hne
    have hA : (⟨#[38]⟩ : ByteArray) ++ mk a ++ (⟨#[32]⟩ : ByteArray) = mk (ancW a) := anc_mk a hne
    have hz := mk_size a
    have ho : (⟨#[38]⟩ : ByteArray).size = 1 := rfl
    have ho2 : (⟨#[32]⟩ : ByteArray).size = 1 := rfl
    clear hne
    have HS : Hid (Calls Tryz.prog 17 #[.agg #[.int .i64 k, .string (mk x), .string (mk a), .slice ad len cap], .bool true] (w.alloc (.cells #[.int .i64 k, .string (mk x), .string (mk a), .slice ad len cap] 24)) fun e w' => e = .returned (.string (mk (scl true k x))) ∧ Hid (Below w.heap.size w w')) :=
      (rscal_any true hx (hT.later b1)).mono (fun e w' g => ⟨g.1, b1.trans (g.2.mono b1.size)⟩)
    have HF : Hid (mk (ancW a) ++ mk (scl true k x) = mk (ancW a ++ scl true k x)) := cat_mk _ _
    have hz1 := mk_size (ancW a)
    have hz2 := mk_size (scl true k x)
    have hz3 : (mk (ancW a)).size ≤ 70000 := by rw [hz1]; omega
    have hz4 : (mk (scl true k x)).size ≤ 700000 := by rw [hz2]; omega
    clear hT b1 n1 hz1 hz2 hal hsl
    generalize scl true k x = Z at *
    generalize mk (ancW a ++ Z) = F at *
    generalize mk (ancW a) = A at *
    go_enter Tryz.func24, Tryz.ntmps24
    go_wp2_with (first | (go_at_call 42; refine (HSC.out _).mono ?_; rintro e w' ⟨rfl, rfl⟩) | (go_at_call 17; refine HS.out.mono ?_; rintro e w3 ⟨rfl, H3⟩))
    go_ret
    refine ⟨?_, H3.out⟩
    rw [← HF.out]
    first | rfl | (simp [hA]; done) | (congr 2; simp [hA]; done)
theorem rwr_list5 (x a : Ln) (ad : Option Addr) (len cap : Nat) (w : World) (hx : x.length ≤ 65536) (ha : a.length ≤ 65536) (hl : len ≤ 9223372036854775807) (D d : Nat) (ks : List Tr) (HK : Hid (KAt w d ad len ks))
    (HL : Hid (∀ j, (sS false a D ks j).length ≤ 3000000000)) (HKL : Hid (∀ j, j < len → (wrt D (ks.getD j tr0)).length ≤ 3000000000))
    (HI : Hid (∀ v w1 j, j < len → Below w.heap.size w w1 → TrV w1 d v (ks.getD j tr0) → Calls Tryz.prog 24 #[v] w1 fun e w' => e = .returned (.string (mk (wrt D (ks.getD j tr0)))) ∧ Below w1.heap.size w1 w')) :
    Calls Tryz.prog 24 #[.agg #[.int .i64 5, .string (mk x), .string (mk a), .slice ad len cap]] w fun e w' => e = .returned (.string (mk (sS false a D ks len ++ [93]))) ∧ Below w.heap.size w w' := by
  by_cases hne : a = []
  · subst hne
    have b1 := below_alloc w (.cells #[.int .i64 5, .string (mk x), .string (mk []), .slice ad len cap] 24)
    have n1 := Bx.new w #[.int .i64 5, .string (mk x), .string (mk []), .slice ad len cap] 24
    have ea : ((mk []).toList == []) = true := by rw [ByteArray.toList_eq, mk_data]; rfl
    have ea2 : (mk []).toList.isEmpty = true := by rw [ByteArray.toList_eq, mk_data]; rfl
    have HA : Hid (ancW [] = []) := rfl
    have HSC : Hid (∀ w0, Calls Tryz.prog 42 #[.int .i64 5] w0 fun e w' => e = .returned (.bool false) ∧ w0 = w') := fun w0 => rscalar_any 5 w0
    have hS0 : (⟨#[]⟩ : ByteArray) ++ (⟨#[91]⟩ : ByteArray) = mk (sS false [] D ks 0) := by exact cat_mk (ancW []) [91]
    have hob : (⟨#[91]⟩ : ByteArray).size = 1 := rfl
    have heb : (⟨#[93]⟩ : ByteArray).size = 1 := rfl
    have HB0 : Hid (Below w.heap.size w (w.alloc (.cells #[.int .i64 5, .string (mk x), .string (mk []), .slice ad len cap] 24)) ∧ Bx (w.alloc (.cells #[.int .i64 5, .string (mk x), .string (mk []), .slice ad len cap] 24)) w.heap.size #[.int .i64 5, .string (mk x), .string (mk []), .slice ad len cap] 24) := ⟨b1, n1⟩
    clear b1 n1
    go_enter Tryz.func24, Tryz.ntmps24
    go_wp2_with (go_at_call 42; refine (HSC.out _).mono ?_; rintro e w' ⟨rfl, rfl⟩)
    generalize w.alloc (.cells #[.int .i64 5, .string (mk x), .string (mk []), .slice ad len cap] 24) = W at HB0 ⊢
    obtain ⟨K0, hK0⟩ : ∃ K0, K0 = w.heap.size := ⟨_, rfl⟩
    rw [← hK0] at HB0 ⊢
    replace hK0 : Hid (K0 = w.heap.size) := hK0
    replace HB0 : Hid (Below w.heap.size w W ∧ Bx W K0 #[.int .i64 5, .string (mk x), .string (mk []), .slice ad len cap] 24) := by rw [← hK0.out]; exact HB0
    go_loopw [3, 6] (fun us ui wr => ∃ j : Nat, j ≤ len ∧ ui = .int .i64 (j : Int) ∧ us = .string (mk (sS false [] D ks j)) ∧ Hid (Below w.heap.size w wr ∧ Bx wr K0 #[.int .i64 5, .string (mk x), .string (mk []), .slice ad len cap] 24)) (fun _ ui _ => len - (intOf ui).toNat)
    case atStart => exact ⟨0, Nat.zero_le _, rfl, by first | rfl | rw [hS0], HB0.out.1, HB0.out.2⟩
    case round =>
      clear hS0
      obtain ⟨j, hj, rfl, rfl, HR⟩ := hrel
      have y0 : wr.cell? ⟨K0, 0, none⟩ = some (.int .i64 5) := HR.out.2.cell 0
      have y3 : wr.cell? ⟨K0, 3, none⟩ = some (.slice ad len cap) := HR.out.2.cell 3
      obtain ⟨X, HX⟩ : ∃ X, Hid (mk (sS false [] D ks j) = X) := ⟨_, rfl⟩
      have hXs : X.size ≤ 3000000000 := by rw [← HX.out, mk_size]; exact HL.out j
      rw [HX.out]
      by_cases hlt : j < len
      · obtain ⟨b, off, had, hb, hcell⟩ := HK.out.2 (by omega)
        rw [had] at y3
        replace had : Hid (ad = some ⟨b, off, none⟩) := had
        obtain ⟨c0, c1, c2, c3, x0, x1, x2, x3, hxx⟩ := hcell j hlt
        replace x0 := (HR.out.1.cell (p := ⟨b, off + j * 4, none⟩) hb).trans x0
        replace x1 := (HR.out.1.cell (p := ⟨b, off + j * 4 + 1, none⟩) hb).trans x1
        replace x2 := (HR.out.1.cell (p := ⟨b, off + j * 4 + 2, none⟩) hb).trans x2
        replace x3 := (HR.out.1.cell (p := ⟨b, off + j * 4 + 3, none⟩) hb).trans x3
        have hjl : j < ks.length := by have := HK.out.1; omega
        obtain ⟨Z, HZ⟩ : ∃ Z, Hid (mk (wrt D (ks.getD j tr0)) = Z) := ⟨_, rfl⟩
        have hZs : Z.size ≤ 3000000000 := by rw [← HZ.out, mk_size]; exact HKL.out j hlt
        obtain ⟨N, HNN⟩ : ∃ N, Hid (mk (sS false [] D ks (j + 1)) = N) := ⟨_, rfl⟩
        have HC : Hid (Calls Tryz.prog 24 #[.agg #[c0, c1, c2, c3]] wr fun e w' => e = .returned (.string Z) ∧ Hid (Below w.heap.size w w' ∧ Bx w' K0 #[.int .i64 5, .string (mk x), .string (mk []), .slice ad len cap] 24)) :=
          (HI.out _ wr j hlt HR.out.1 (hxx.later HR.out.1 (Nat.le_refl _))).mono (fun e w' g => ⟨by rw [g.1, HZ.out], HR.out.1.trans (g.2.mono HR.out.1.size), HR.out.2.later g.2⟩)
        clear hcell hxx HR
        by_cases hj0 : j = 0
        · have hq0 : ((j : Int) == 0) = true := by simp [hj0]
          have HSEP : sep false j = [] := by rw [hj0]; rfl
          replace hj0 : Hid (j = 0) := hj0
          have hN : X ++ Z = N := by rw [← HX.out, ← HZ.out, ← HNN.out, sS_succ false [] D ks j hjl, HSEP]; exact by rw [List.append_nil]; exact cat_mk _ _
          clear HX HZ
          go_wp2_with fail
          refine HC.out.mono ?_
          rintro e w4 ⟨rfl, H4⟩
          go_wp2
          go_roundw
          case rel => exact ⟨j + 1, by omega, by go_num, by first | exact congrArg Value.string HNN.out.symm | (rw [hN]; exact congrArg Value.string HNN.out.symm), H4.out⟩
          case measure => simp [intOf]; omega
        · have hq0 : ((j : Int) == 0) = false := by simp; omega
          have HSEP : sep false j = [44, 32] := by unfold sep; rw [if_neg hj0, if_neg (by simp)]
          have hse : (⟨#[44, 32]⟩ : ByteArray).size = 2 := rfl
          have hN : X ++ (⟨#[44, 32]⟩ : ByteArray) ++ Z = N := by rw [← HX.out, ← HZ.out, ← HNN.out, sS_succ false [] D ks j hjl, HSEP]; exact (congrArg (· ++ mk (wrt D (ks.getD j tr0))) (cat_mk _ _)).trans (cat_mk _ _)
          clear HX HZ
          go_wp2_with fail
          refine HC.out.mono ?_
          rintro e w4 ⟨rfl, H4⟩
          go_wp2
          go_roundw
          case rel => exact ⟨j + 1, by omega, by go_num, by first | exact congrArg Value.string HNN.out.symm | (rw [hN]; exact congrArg Value.string HNN.out.symm), H4.out⟩
          case measure => simp [intOf]; omega
      · obtain rfl : j = len := by omega
        have HBB : Hid (Below w.heap.size w wr) := HR.out.1
        have HE : Hid (X ++ (⟨#[93]⟩ : ByteArray) = mk (sS false [] D ks j ++ [93])) := by rw [← HX.out]; exact cat_mk _ [93]
        clear HX
        go_wp2
        go_ret
        exact ⟨by rw [← HE.out]; rfl, HBB.out⟩
  · have ea : ((mk a).toList == []) = false := by rw [ByteArray.toList_eq, mk_data]; simpa using hne
    have b1 := below_alloc w (.cells #[.int .i64 5, .string (mk x), .string (mk a), .slice ad len cap] 24)
    have n1 := Bx.new w #[.int .i64 5, .string (mk x), .string (mk a), .slice ad len cap] 24
    have ea2 : (mk a).toList.isEmpty = false := by rw [ByteArray.toList_eq, mk_data]; simpa using hne
    have hA : (⟨#[38]⟩ : ByteArray) ++ mk a ++ (⟨#[32]⟩ : ByteArray) = mk (ancW a) := anc_mk a hne
    have hz := mk_size a
    have ho : (⟨#[38]⟩ : ByteArray).size = 1 := rfl
    have ho2 : (⟨#[32]⟩ : ByteArray).size = 1 := rfl
    clear hne
    have HSC : Hid (∀ w0, Calls Tryz.prog 42 #[.int .i64 5] w0 fun e w' => e = .returned (.bool false) ∧ w0 = w') := fun w0 => rscalar_any 5 w0
    have hz3 : (mk (ancW a)).size ≤ 70000 := by rw [mk_size]; have := ancW_len a; omega
    have hS0 : mk (ancW a) ++ (⟨#[91]⟩ : ByteArray) = mk (sS false a D ks 0) := by exact cat_mk (ancW a) [91]
    have hob : (⟨#[91]⟩ : ByteArray).size = 1 := rfl
    have heb : (⟨#[93]⟩ : ByteArray).size = 1 := rfl
    have HB0 : Hid (Below w.heap.size w (w.alloc (.cells #[.int .i64 5, .string (mk x), .string (mk a), .slice ad len cap] 24)) ∧ Bx (w.alloc (.cells #[.int .i64 5, .string (mk x), .string (mk a), .slice ad len cap] 24)) w.heap.size #[.int .i64 5, .string (mk x), .string (mk a), .slice ad len cap] 24) := ⟨b1, n1⟩
    clear b1 n1
    go_enter Tryz.func24, Tryz.ntmps24
    go_wp2_with (go_at_call 42; refine (HSC.out _).mono ?_; rintro e w' ⟨rfl, rfl⟩)
    generalize w.alloc (.cells #[.int .i64 5, .string (mk x), .string (mk a), .slice ad len cap] 24) = W at HB0 ⊢
    obtain ⟨K0, hK0⟩ : ∃ K0, K0 = w.heap.size := ⟨_, rfl⟩
    rw [← hK0] at HB0 ⊢
    replace hK0 : Hid (K0 = w.heap.size) := hK0
    replace HB0 : Hid (Below w.heap.size w W ∧ Bx W K0 #[.int .i64 5, .string (mk x), .string (mk a), .slice ad len cap] 24) := by rw [← hK0.out]; exact HB0
    go_loopw [3, 6] (fun us ui wr => ∃ j : Nat, j ≤ len ∧ ui = .int .i64 (j : Int) ∧ us = .string (mk (sS false a D ks j)) ∧ Hid (Below w.heap.size w wr ∧ Bx wr K0 #[.int .i64 5, .string (mk x), .string (mk a), .slice ad len cap] 24)) (fun _ ui _ => len - (intOf ui).toNat)
    case atStart => exact ⟨0, Nat.zero_le _, rfl, by first | rfl | rw [hS0], HB0.out.1, HB0.out.2⟩
    case round =>
      clear hS0
      obtain ⟨j, hj, rfl, rfl, HR⟩ := hrel
      have y0 : wr.cell? ⟨K0, 0, none⟩ = some (.int .i64 5) := HR.out.2.cell 0
      have y3 : wr.cell? ⟨K0, 3, none⟩ = some (.slice ad len cap) := HR.out.2.cell 3
      obtain ⟨X, HX⟩ : ∃ X, Hid (mk (sS false a D ks j) = X) := ⟨_, rfl⟩
      have hXs : X.size ≤ 3000000000 := by rw [← HX.out, mk_size]; exact HL.out j
      rw [HX.out]
      by_cases hlt : j < len
      · obtain ⟨b, off, had, hb, hcell⟩ := HK.out.2 (by omega)
        rw [had] at y3
        replace had : Hid (ad = some ⟨b, off, none⟩) := had
        obtain ⟨c0, c1, c2, c3, x0, x1, x2, x3, hxx⟩ := hcell j hlt
        replace x0 := (HR.out.1.cell (p := ⟨b, off + j * 4, none⟩) hb).trans x0
        replace x1 := (HR.out.1.cell (p := ⟨b, off + j * 4 + 1, none⟩) hb).trans x1
        replace x2 := (HR.out.1.cell (p := ⟨b, off + j * 4 + 2, none⟩) hb).trans x2
        replace x3 := (HR.out.1.cell (p := ⟨b, off + j * 4 + 3, none⟩) hb).trans x3
        have hjl : j < ks.length := by have := HK.out.1; omega
        obtain ⟨Z, HZ⟩ : ∃ Z, Hid (mk (wrt D (ks.getD j tr0)) = Z) := ⟨_, rfl⟩
        have hZs : Z.size ≤ 3000000000 := by rw [← HZ.out, mk_size]; exact HKL.out j hlt
        obtain ⟨N, HNN⟩ : ∃ N, Hid (mk (sS false a D ks (j + 1)) = N) := ⟨_, rfl⟩
        have HC : Hid (Calls Tryz.prog 24 #[.agg #[c0, c1, c2, c3]] wr fun e w' => e = .returned (.string Z) ∧ Hid (Below w.heap.size w w' ∧ Bx w' K0 #[.int .i64 5, .string (mk x), .string (mk a), .slice ad len cap] 24)) :=
          (HI.out _ wr j hlt HR.out.1 (hxx.later HR.out.1 (Nat.le_refl _))).mono (fun e w' g => ⟨by rw [g.1, HZ.out], HR.out.1.trans (g.2.mono HR.out.1.size), HR.out.2.later g.2⟩)
        clear hcell hxx HR
        by_cases hj0 : j = 0
        · have hq0 : ((j : Int) == 0) = true := by simp [hj0]
          have HSEP : sep false j = [] := by rw [hj0]; rfl
          replace hj0 : Hid (j = 0) := hj0
          have hN : X ++ Z = N := by rw [← HX.out, ← HZ.out, ← HNN.out, sS_succ false a D ks j hjl, HSEP]; exact by rw [List.append_nil]; exact cat_mk _ _
          clear HX HZ
          go_wp2_with fail
          refine HC.out.mono ?_
          rintro e w4 ⟨rfl, H4⟩
          go_wp2
          go_roundw
          case rel => exact ⟨j + 1, by omega, by go_num, by first | exact congrArg Value.string HNN.out.symm | (rw [hN]; exact congrArg Value.string HNN.out.symm), H4.out⟩
          case measure => simp [intOf]; omega
        · have hq0 : ((j : Int) == 0) = false := by simp; omega
          have HSEP : sep false j = [44, 32] := by unfold sep; rw [if_neg hj0, if_neg (by simp)]
          have hse : (⟨#[44, 32]⟩ : ByteArray).size = 2 := rfl
          have hN : X ++ (⟨#[44, 32]⟩ : ByteArray) ++ Z = N := by rw [← HX.out, ← HZ.out, ← HNN.out, sS_succ false a D ks j hjl, HSEP]; exact (congrArg (· ++ mk (wrt D (ks.getD j tr0))) (cat_mk _ _)).trans (cat_mk _ _)
          clear HX HZ
          go_wp2_with fail
          refine HC.out.mono ?_
          rintro e w4 ⟨rfl, H4⟩
          go_wp2
          go_roundw
          case rel => exact ⟨j + 1, by omega, by go_num, by first | exact congrArg Value.string HNN.out.symm | (rw [hN]; exact congrArg Value.string HNN.out.symm), H4.out⟩
          case measure => simp [intOf]; omega
      · obtain rfl : j = len := by omega
        have HBB : Hid (Below w.heap.size w wr) := HR.out.1
        have HE : Hid (X ++ (⟨#[93]⟩ : ByteArray) = mk (sS false a D ks j ++ [93])) := by rw [← HX.out]; exact cat_mk _ [93]
        clear HX
        go_wp2
        go_ret
        exact ⟨by rw [← HE.out]; rfl, HBB.out⟩
theorem rwr_list6 (x a : Ln) (ad : Option Addr) (len cap : Nat) (w : World) (hx : x.length ≤ 65536) (ha : a.length ≤ 65536) (hl : len ≤ 9223372036854775807) (D d : Nat) (ks : List Tr) (HK : Hid (KAt w d ad len ks))
    (HL : Hid (∀ j, (sS true a D ks j).length ≤ 3000000000)) (HKL : Hid (∀ j, j < len → (wrt D (ks.getD j tr0)).length ≤ 3000000000))
    (HI : Hid (∀ v w1 j, j < len → Below w.heap.size w w1 → TrV w1 d v (ks.getD j tr0) → Calls Tryz.prog 24 #[v] w1 fun e w' => e = .returned (.string (mk (wrt D (ks.getD j tr0)))) ∧ Below w1.heap.size w1 w')) :
    Calls Tryz.prog 24 #[.agg #[.int .i64 6, .string (mk x), .string (mk a), .slice ad len cap]] w fun e w' => e = .returned (.string (mk (sS true a D ks len ++ [125]))) ∧ Below w.heap.size w w' := by
  by_cases hne : a = []
  · subst hne
    have b1 := below_alloc w (.cells #[.int .i64 6, .string (mk x), .string (mk []), .slice ad len cap] 24)
    have n1 := Bx.new w #[.int .i64 6, .string (mk x), .string (mk []), .slice ad len cap] 24
    have ea : ((mk []).toList == []) = true := by rw [ByteArray.toList_eq, mk_data]; rfl
    have ea2 : (mk []).toList.isEmpty = true := by rw [ByteArray.toList_eq, mk_data]; rfl
    have HA : Hid (ancW [] = []) := rfl
    have HSC : Hid (∀ w0, Calls Tryz.prog 42 #[.int .i64 6] w0 fun e w' => e = .returned (.bool false) ∧ w0 = w') := fun w0 => rscalar_any 6 w0
    have hS0 : (⟨#[]⟩ : ByteArray) ++ (⟨#[123]⟩ : ByteArray) = mk (sS true [] D ks 0) := by exact cat_mk (ancW []) [123]
    have hob : (⟨#[123]⟩ : ByteArray).size = 1 := rfl
    have heb : (⟨#[125]⟩ : ByteArray).size = 1 := rfl
    have HB0 : Hid (Below w.heap.size w (w.alloc (.cells #[.int .i64 6, .string (mk x), .string (mk []), .slice ad len cap] 24)) ∧ Bx (w.alloc (.cells #[.int .i64 6, .string (mk x), .string (mk []), .slice ad len cap] 24)) w.heap.size #[.int .i64 6, .string (mk x), .string (mk []), .slice ad len cap] 24) := ⟨b1, n1⟩
    clear b1 n1
    go_enter Tryz.func24, Tryz.ntmps24
    go_wp2_with (go_at_call 42; refine (HSC.out _).mono ?_; rintro e w' ⟨rfl, rfl⟩)
    generalize w.alloc (.cells #[.int .i64 6, .string (mk x), .string (mk []), .slice ad len cap] 24) = W at HB0 ⊢
    obtain ⟨K0, hK0⟩ : ∃ K0, K0 = w.heap.size := ⟨_, rfl⟩
    rw [← hK0] at HB0 ⊢
    replace hK0 : Hid (K0 = w.heap.size) := hK0
    replace HB0 : Hid (Below w.heap.size w W ∧ Bx W K0 #[.int .i64 6, .string (mk x), .string (mk []), .slice ad len cap] 24) := by rw [← hK0.out]; exact HB0
    go_loopw [3, 6] (fun us ui wr => ∃ j : Nat, j ≤ len ∧ ui = .int .i64 (j : Int) ∧ us = .string (mk (sS true [] D ks j)) ∧ Hid (Below w.heap.size w wr ∧ Bx wr K0 #[.int .i64 6, .string (mk x), .string (mk []), .slice ad len cap] 24)) (fun _ ui _ => len - (intOf ui).toNat)
    case atStart => exact ⟨0, Nat.zero_le _, rfl, by first | rfl | rw [hS0], HB0.out.1, HB0.out.2⟩
    case round =>
      clear hS0
      obtain ⟨j, hj, rfl, rfl, HR⟩ := hrel
      have y0 : wr.cell? ⟨K0, 0, none⟩ = some (.int .i64 6) := HR.out.2.cell 0
      have y3 : wr.cell? ⟨K0, 3, none⟩ = some (.slice ad len cap) := HR.out.2.cell 3
      obtain ⟨X, HX⟩ : ∃ X, Hid (mk (sS true [] D ks j) = X) := ⟨_, rfl⟩
      have hXs : X.size ≤ 3000000000 := by rw [← HX.out, mk_size]; exact HL.out j
      rw [HX.out]
      by_cases hlt : j < len
      · obtain ⟨b, off, had, hb, hcell⟩ := HK.out.2 (by omega)
        rw [had] at y3
        replace had : Hid (ad = some ⟨b, off, none⟩) := had
        obtain ⟨c0, c1, c2, c3, x0, x1, x2, x3, hxx⟩ := hcell j hlt
        replace x0 := (HR.out.1.cell (p := ⟨b, off + j * 4, none⟩) hb).trans x0
        replace x1 := (HR.out.1.cell (p := ⟨b, off + j * 4 + 1, none⟩) hb).trans x1
        replace x2 := (HR.out.1.cell (p := ⟨b, off + j * 4 + 2, none⟩) hb).trans x2
        replace x3 := (HR.out.1.cell (p := ⟨b, off + j * 4 + 3, none⟩) hb).trans x3
        have hjl : j < ks.length := by have := HK.out.1; omega
        obtain ⟨Z, HZ⟩ : ∃ Z, Hid (mk (wrt D (ks.getD j tr0)) = Z) := ⟨_, rfl⟩
        have hZs : Z.size ≤ 3000000000 := by rw [← HZ.out, mk_size]; exact HKL.out j hlt
        obtain ⟨N, HNN⟩ : ∃ N, Hid (mk (sS true [] D ks (j + 1)) = N) := ⟨_, rfl⟩
        have HC : Hid (Calls Tryz.prog 24 #[.agg #[c0, c1, c2, c3]] wr fun e w' => e = .returned (.string Z) ∧ Hid (Below w.heap.size w w' ∧ Bx w' K0 #[.int .i64 6, .string (mk x), .string (mk []), .slice ad len cap] 24)) :=
          (HI.out _ wr j hlt HR.out.1 (hxx.later HR.out.1 (Nat.le_refl _))).mono (fun e w' g => ⟨by rw [g.1, HZ.out], HR.out.1.trans (g.2.mono HR.out.1.size), HR.out.2.later g.2⟩)
        clear hcell hxx HR
        by_cases hj0 : j = 0
        · have hq0 : ((j : Int) == 0) = true := by simp [hj0]
          have HSEP : sep true j = [] := by rw [hj0]; rfl
          replace hj0 : Hid (j = 0) := hj0
          have hN : X ++ Z = N := by rw [← HX.out, ← HZ.out, ← HNN.out, sS_succ true [] D ks j hjl, HSEP]; exact by rw [List.append_nil]; exact cat_mk _ _
          clear HX HZ
          go_wp2_with fail
          refine HC.out.mono ?_
          rintro e w4 ⟨rfl, H4⟩
          go_wp2
          go_roundw
          case rel => exact ⟨j + 1, by omega, by go_num, by first | exact congrArg Value.string HNN.out.symm | (rw [hN]; exact congrArg Value.string HNN.out.symm), H4.out⟩
          case measure => simp [intOf]; omega
        · have hq0 : ((j : Int) == 0) = false := by simp; omega
          by_cases hodd : j % 2 = 1
          · have hq1 : (j : Int) % 2 = 1 := by omega
            have HSEP : sep true j = [58, 32] := by unfold sep; rw [if_neg hj0, if_pos ⟨rfl, hodd⟩]
            have hse : (⟨#[58, 32]⟩ : ByteArray).size = 2 := rfl
            have hN : X ++ (⟨#[58, 32]⟩ : ByteArray) ++ Z = N := by rw [← HX.out, ← HZ.out, ← HNN.out, sS_succ true [] D ks j hjl, HSEP]; exact (congrArg (· ++ mk (wrt D (ks.getD j tr0))) (cat_mk _ _)).trans (cat_mk _ _)
            clear HX HZ
            go_wp2_with fail
            refine HC.out.mono ?_
            rintro e w4 ⟨rfl, H4⟩
            go_wp2
            go_roundw
            case rel => exact ⟨j + 1, by omega, by go_num, by first | exact congrArg Value.string HNN.out.symm | (rw [hN]; exact congrArg Value.string HNN.out.symm), H4.out⟩
            case measure => simp [intOf]; omega
          · have hq1 : (j : Int) % 2 = 0 := by omega
            have HSEP : sep true j = [44, 32] := by unfold sep; rw [if_neg hj0, if_neg (fun h => hodd h.2)]
            have hse : (⟨#[44, 32]⟩ : ByteArray).size = 2 := rfl
            have hN : X ++ (⟨#[44, 32]⟩ : ByteArray) ++ Z = N := by rw [← HX.out, ← HZ.out, ← HNN.out, sS_succ true [] D ks j hjl, HSEP]; exact (congrArg (· ++ mk (wrt D (ks.getD j tr0))) (cat_mk _ _)).trans (cat_mk _ _)
            clear HX HZ
            go_wp2_with fail
            refine HC.out.mono ?_
            rintro e w4 ⟨rfl, H4⟩
            go_wp2
            go_roundw
            case rel => exact ⟨j + 1, by omega, by go_num, by first | exact congrArg Value.string HNN.out.symm | (rw [hN]; exact congrArg Value.string HNN.out.symm), H4.out⟩
            case measure => simp [intOf]; omega
      · obtain rfl : j = len := by omega
        have HBB : Hid (Below w.heap.size w wr) := HR.out.1
        have HE : Hid (X ++ (⟨#[125]⟩ : ByteArray) = mk (sS true [] D ks j ++ [125])) := by rw [← HX.out]; exact cat_mk _ [125]
        clear HX
        go_wp2
        go_ret
        exact ⟨by rw [← HE.out]; rfl, HBB.out⟩
  · have ea : ((mk a).toList == []) = false := by rw [ByteArray.toList_eq, mk_data]; simpa using hne
    have b1 := below_alloc w (.cells #[.int .i64 6, .string (mk x), .string (mk a), .slice ad len cap] 24)
    have n1 := Bx.new w #[.int .i64 6, .string (mk x), .string (mk a), .slice ad len cap] 24
    have ea2 : (mk a).toList.isEmpty = false := by rw [ByteArray.toList_eq, mk_data]; simpa using hne
    have hA : (⟨#[38]⟩ : ByteArray) ++ mk a ++ (⟨#[32]⟩ : ByteArray) = mk (ancW a) := anc_mk a hne
    have hz := mk_size a
    have ho : (⟨#[38]⟩ : ByteArray).size = 1 := rfl
    have ho2 : (⟨#[32]⟩ : ByteArray).size = 1 := rfl
    clear hne
    have HSC : Hid (∀ w0, Calls Tryz.prog 42 #[.int .i64 6] w0 fun e w' => e = .returned (.bool false) ∧ w0 = w') := fun w0 => rscalar_any 6 w0
    have hz3 : (mk (ancW a)).size ≤ 70000 := by rw [mk_size]; have := ancW_len a; omega
    have hS0 : mk (ancW a) ++ (⟨#[123]⟩ : ByteArray) = mk (sS true a D ks 0) := by exact cat_mk (ancW a) [123]
    have hob : (⟨#[123]⟩ : ByteArray).size = 1 := rfl
    have heb : (⟨#[125]⟩ : ByteArray).size = 1 := rfl
    have HB0 : Hid (Below w.heap.size w (w.alloc (.cells #[.int .i64 6, .string (mk x), .string (mk a), .slice ad len cap] 24)) ∧ Bx (w.alloc (.cells #[.int .i64 6, .string (mk x), .string (mk a), .slice ad len cap] 24)) w.heap.size #[.int .i64 6, .string (mk x), .string (mk a), .slice ad len cap] 24) := ⟨b1, n1⟩
    clear b1 n1
    go_enter Tryz.func24, Tryz.ntmps24
    go_wp2_with (go_at_call 42; refine (HSC.out _).mono ?_; rintro e w' ⟨rfl, rfl⟩)
    generalize w.alloc (.cells #[.int .i64 6, .string (mk x), .string (mk a), .slice ad len cap] 24) = W at HB0 ⊢
    obtain ⟨K0, hK0⟩ : ∃ K0, K0 = w.heap.size := ⟨_, rfl⟩
    rw [← hK0] at HB0 ⊢
    replace hK0 : Hid (K0 = w.heap.size) := hK0
    replace HB0 : Hid (Below w.heap.size w W ∧ Bx W K0 #[.int .i64 6, .string (mk x), .string (mk a), .slice ad len cap] 24) := by rw [← hK0.out]; exact HB0
    go_loopw [3, 6] (fun us ui wr => ∃ j : Nat, j ≤ len ∧ ui = .int .i64 (j : Int) ∧ us = .string (mk (sS true a D ks j)) ∧ Hid (Below w.heap.size w wr ∧ Bx wr K0 #[.int .i64 6, .string (mk x), .string (mk a), .slice ad len cap] 24)) (fun _ ui _ => len - (intOf ui).toNat)
    case atStart => exact ⟨0, Nat.zero_le _, rfl, by first | rfl | rw [hS0], HB0.out.1, HB0.out.2⟩
    case round =>
      clear hS0
      obtain ⟨j, hj, rfl, rfl, HR⟩ := hrel
      have y0 : wr.cell? ⟨K0, 0, none⟩ = some (.int .i64 6) := HR.out.2.cell 0
      have y3 : wr.cell? ⟨K0, 3, none⟩ = some (.slice ad len cap) := HR.out.2.cell 3
      obtain ⟨X, HX⟩ : ∃ X, Hid (mk (sS true a D ks j) = X) := ⟨_, rfl⟩
      have hXs : X.size ≤ 3000000000 := by rw [← HX.out, mk_size]; exact HL.out j
      rw [HX.out]
      by_cases hlt : j < len
      · obtain ⟨b, off, had, hb, hcell⟩ := HK.out.2 (by omega)
        rw [had] at y3
        replace had : Hid (ad = some ⟨b, off, none⟩) := had
        obtain ⟨c0, c1, c2, c3, x0, x1, x2, x3, hxx⟩ := hcell j hlt
        replace x0 := (HR.out.1.cell (p := ⟨b, off + j * 4, none⟩) hb).trans x0
        replace x1 := (HR.out.1.cell (p := ⟨b, off + j * 4 + 1, none⟩) hb).trans x1
        replace x2 := (HR.out.1.cell (p := ⟨b, off + j * 4 + 2, none⟩) hb).trans x2
        replace x3 := (HR.out.1.cell (p := ⟨b, off + j * 4 + 3, none⟩) hb).trans x3
        have hjl : j < ks.length := by have := HK.out.1; omega
        obtain ⟨Z, HZ⟩ : ∃ Z, Hid (mk (wrt D (ks.getD j tr0)) = Z) := ⟨_, rfl⟩
        have hZs : Z.size ≤ 3000000000 := by rw [← HZ.out, mk_size]; exact HKL.out j hlt
        obtain ⟨N, HNN⟩ : ∃ N, Hid (mk (sS true a D ks (j + 1)) = N) := ⟨_, rfl⟩
        have HC : Hid (Calls Tryz.prog 24 #[.agg #[c0, c1, c2, c3]] wr fun e w' => e = .returned (.string Z) ∧ Hid (Below w.heap.size w w' ∧ Bx w' K0 #[.int .i64 6, .string (mk x), .string (mk a), .slice ad len cap] 24)) :=
          (HI.out _ wr j hlt HR.out.1 (hxx.later HR.out.1 (Nat.le_refl _))).mono (fun e w' g => ⟨by rw [g.1, HZ.out], HR.out.1.trans (g.2.mono HR.out.1.size), HR.out.2.later g.2⟩)
        clear hcell hxx HR
        by_cases hj0 : j = 0
        · have hq0 : ((j : Int) == 0) = true := by simp [hj0]
          have HSEP : sep true j = [] := by rw [hj0]; rfl
          replace hj0 : Hid (j = 0) := hj0
          have hN : X ++ Z = N := by rw [← HX.out, ← HZ.out, ← HNN.out, sS_succ true a D ks j hjl, HSEP]; exact by rw [List.append_nil]; exact cat_mk _ _
          clear HX HZ
          go_wp2_with fail
          refine HC.out.mono ?_
          rintro e w4 ⟨rfl, H4⟩
          go_wp2
          go_roundw
          case rel => exact ⟨j + 1, by omega, by go_num, by first | exact congrArg Value.string HNN.out.symm | (rw [hN]; exact congrArg Value.string HNN.out.symm), H4.out⟩
          case measure => simp [intOf]; omega
        · have hq0 : ((j : Int) == 0) = false := by simp; omega
          by_cases hodd : j % 2 = 1
          · have hq1 : (j : Int) % 2 = 1 := by omega
            have HSEP : sep true j = [58, 32] := by unfold sep; rw [if_neg hj0, if_pos ⟨rfl, hodd⟩]
            have hse : (⟨#[58, 32]⟩ : ByteArray).size = 2 := rfl
            have hN : X ++ (⟨#[58, 32]⟩ : ByteArray) ++ Z = N := by rw [← HX.out, ← HZ.out, ← HNN.out, sS_succ true a D ks j hjl, HSEP]; exact (congrArg (· ++ mk (wrt D (ks.getD j tr0))) (cat_mk _ _)).trans (cat_mk _ _)
            clear HX HZ
            go_wp2_with fail
            refine HC.out.mono ?_
            rintro e w4 ⟨rfl, H4⟩
            go_wp2
            go_roundw
            case rel => exact ⟨j + 1, by omega, by go_num, by first | exact congrArg Value.string HNN.out.symm | (rw [hN]; exact congrArg Value.string HNN.out.symm), H4.out⟩
            case measure => simp [intOf]; omega
          · have hq1 : (j : Int) % 2 = 0 := by omega
            have HSEP : sep true j = [44, 32] := by unfold sep; rw [if_neg hj0, if_neg (fun h => hodd h.2)]
            have hse : (⟨#[44, 32]⟩ : ByteArray).size = 2 := rfl
            have hN : X ++ (⟨#[44, 32]⟩ : ByteArray) ++ Z = N := by rw [← HX.out, ← HZ.out, ← HNN.out, sS_succ true a D ks j hjl, HSEP]; exact (congrArg (· ++ mk (wrt D (ks.getD j tr0))) (cat_mk _ _)).trans (cat_mk _ _)
            clear HX HZ
            go_wp2_with fail
            refine HC.out.mono ?_
            rintro e w4 ⟨rfl, H4⟩
            go_wp2
            go_roundw
            case rel => exact ⟨j + 1, by omega, by go_num, by first | exact congrArg Value.string HNN.out.symm | (rw [hN]; exact congrArg Value.string HNN.out.symm), H4.out⟩
            case measure => simp [intOf]; omega
      · obtain rfl : j = len := by omega
        have HBB : Hid (Below w.heap.size w wr) := HR.out.1
        have HE : Hid (X ++ (⟨#[125]⟩ : ByteArray) = mk (sS true a D ks j ++ [125])) := by rw [← HX.out]; exact cat_mk _ [125]
        clear HX
        go_wp2
        go_ret
        exact ⟨by rw [← HE.out]; rfl, HBB.out⟩
end Go.Proofs.YteokhnielbmifaaGreatDoor.Flw
end

section
/- The document's write and Write, by their contracts. -/
namespace Go.Proofs.YteokhnielbmifaaGreatDoor.Flw
open Utf Rws Pln
open Go.RowKit
set_option linter.unusedSimpArgs false
set_option linter.unusedVariables false
set_option maxRecDepth 100000
set_option maxHeartbeats 2000000

theorem mem_sum (c : Tr → Nat) : ∀ (ks : List Tr) (k : Tr), k ∈ ks → c k ≤ (ks.map c).sum
  | [], k, h => by cases h
  | z :: ks, k, h => by
    simp only [List.map_cons, List.sum_cons]
    rcases List.mem_cons.1 h with rfl | h
    · omega
    · have := mem_sum c ks k h
      omega
theorem rgt_kind {D : Nat} {t : Tr} (h : rgt D t = true) : 1 ≤ t.kind ∧ t.kind ≤ 7 := by
  have : ∀ inner, rstep inner t = true → 1 ≤ t.kind ∧ t.kind ≤ 7 := fun inner h => by
    unfold rstep at h
    simp only [Bool.and_eq_true, decide_eq_true_eq] at h
    exact ⟨h.1.1.1.1, h.1.1.1.2⟩
  cases D <;> exact this _ h
theorem wrt_7 (D : Nat) (x a : Ln) (ks : List Tr) : wrt D ⟨7, x, a, ks⟩ = 42 :: a := by cases D <;> rfl
theorem wrt_4 (D : Nat) (k : Int) (x a : Ln) (ks : List Tr) (h1 : 1 ≤ k) (h4 : k ≤ 4) : wrt D ⟨k, x, a, ks⟩ = ancW a ++ scl true k x := by
  have : ∀ inner, wstep inner ⟨k, x, a, ks⟩ = ancW a ++ scl true k x := fun inner => by
    unfold wstep
    rw [if_neg (show ¬ k = 7 by omega), if_pos (show 1 ≤ k ∧ k ≤ 4 from ⟨h1, h4⟩)]
  cases D <;> exact this _
theorem wrt_5 (D : Nat) (x a : Ln) (ks : List Tr) : wrt (D + 1) ⟨5, x, a, ks⟩ = sS false a D ks ks.length ++ [93] := by
  unfold sS
  rw [List.take_length]
  show ancW a ++ (91 :: (jn false 0 (ks.map fun k => wrt D k) ++ [93])) = _
  simp
theorem wrt_6 (D : Nat) (x a : Ln) (ks : List Tr) : wrt (D + 1) ⟨6, x, a, ks⟩ = sS true a D ks ks.length ++ [125] := by
  unfold sS
  rw [List.take_length]
  show ancW a ++ (123 :: (jn true 0 (ks.map fun k => wrt D k) ++ [125])) = _
  simp
theorem rwrite_any : ∀ (d D : Nat) (v : Value) (t : Tr) (w : World), TrV w d v t → brief d t → rgt D t = true → cntT D t ≤ 4096 → Tb w → Calls Tryz.prog 24 #[v] w fun e w' => e = .returned (.string (mk (wrt D t))) ∧ Below w.heap.size w w'
  | 0, D, v, t, w, h, hb, hr, hc, hT => h.elim
  | d + 1, D, v, ⟨k, x, a, ks⟩, w, h, hb, hr, hc, hT => by
    obtain ⟨ad, len, cap, rfl, hl, hcc, hm, hz, hk⟩ := h
    have m1 : maxLen = 9223372036854775807 := rfl
    have hl' : len = ks.length := hl
    have hkd := rgt_kind hr
    simp only at hkd
    by_cases h7 : k = 7
    · subst h7
      rw [wrt_7]
      exact rwr_alias x a ad len cap w hb.2.1
    by_cases h4 : k ≤ 4
    · rw [wrt_4 D k x a ks hkd.1 h4]
      exact rwr_leaf k x a ad len cap w hb.1 hb.2.1 hkd.1 h4 hT
    · have h56 : k = 5 ∨ k = 6 := by omega
      cases D with
      | zero => rw [rgt_deep k x a ks h56] at hr; cases hr
      | succ D =>
        have hkr := kids_of_rgt hr
        have hsum : 1 + (ks.map fun k => cntT D k).sum ≤ 4096 := hc
        have hkb : ∀ j, j < ks.length → brief d (ks.getD j tr0) := fun j hj => hb.2.2 j hj
        have hkl : ∀ z ∈ ks, (wrt D z).length + 2 ≤ 720906 * cntT D z := fun z hz2 => by
          obtain ⟨i, hi, ek⟩ := List.mem_iff_getElem.1 hz2
          have := hkb i hi
          rw [List.getD_eq_getElem?_getD, List.getElem?_eq_getElem hi, Option.getD_some, ek] at this
          exact wrt_len D d z this (hkr z hz2)
        have hone : ∀ j, j < len → cntT D (ks.getD j tr0) ≤ 4096 := fun j hj => by
          have := mem_sum (fun k => cntT D k) ks _ (@Flw.getD_mem ks j (show j < ks.length by omega))
          omega
        have HL : ∀ mp j, (sS mp a D ks j).length ≤ 3000000000 := fun mp j => sS_len mp a D ks j hb.2.1 hkl (by omega)
        have HKL : ∀ j, j < len → (wrt D (ks.getD j tr0)).length ≤ 3000000000 := fun j hj => by
          have h1 := hkl _ (@Flw.getD_mem ks j (show j < ks.length by omega))
          have h2 := hone j hj
          omega
        have HI : ∀ v w1 j, j < len → Below w.heap.size w w1 → TrV w1 d v (ks.getD j tr0) → Calls Tryz.prog 24 #[v] w1 fun e w' => e = .returned (.string (mk (wrt D (ks.getD j tr0)))) ∧ Below w1.heap.size w1 w' := fun v w1 j hj b1 hv =>
          rwrite_any d D v (ks.getD j tr0) w1 hv (hkb j (by omega)) (hkr _ (@Flw.getD_mem ks j (show j < ks.length by omega))) (hone j hj) (hT.later b1)
        rcases h56 with rfl | rfl
        · rw [wrt_5, ← hl']
          exact rwr_list5 x a ad len cap w hb.1 hb.2.1 (by omega) D d ks ⟨hl, hk⟩ (HL false) HKL HI
        · rw [wrt_6, ← hl']
          exact rwr_list6 x a ad len cap w hb.1 hb.2.1 (by omega) D d ks ⟨hl, hk⟩ (HL true) HKL HI
theorem rWrite_any {d : Nat} {v : Value} {t : Tr} {w : World} (hd : 64 < d) (hb : brief d t) (h : TrV w d v t) (hT : Tb w) :
    Calls Tryz.prog 11 #[v] w fun e w' => e = .returned (.tuple #[.string (mk (if rgh d t = true then wrt 64 t else [])), .int .i64 (if rgh d t = true then 0 else 1)]) ∧ Below w.heap.size w w' := by
  obtain ⟨ad, len, cap, hv⟩ := h.open4
  have b1 := below_alloc w (.cells #[.int .i64 t.kind, .string (mk t.text), .string (mk t.anc), .slice ad len cap] 24)
  have n1 := Bx.new w #[.int .i64 t.kind, .string (mk t.text), .string (mk t.anc), .slice ad len cap] 24
  have HM : Hid (Calls Tryz.prog 13 #[v] (w.alloc (.cells #[.int .i64 t.kind, .string (mk t.text), .string (mk t.anc), .slice ad len cap] 24)) fun e w' => e = .returned (.bool (rgh d t)) ∧ Hid (Below w.heap.size w w' ∧ Bx w' w.heap.size #[.int .i64 t.kind, .string (mk t.text), .string (mk t.anc), .slice ad len cap] 24)) :=
    (rRight_any hd hb (h.later b1 (Nat.le_refl _))).mono (fun e w' g => ⟨g.1, b1.trans (g.2.mono b1.size), n1.later g.2⟩)
  cases hr : rgh d t
  · rw [hr] at HM
    clear h hb b1 n1 hT hr
    subst hv
    generalize t.kind = k at *
    generalize t.text = x at *
    generalize t.anc = a at *
    go_enter Tryz.func11, Tryz.ntmps11
    go_wp2_with fail
    refine HM.out.mono ?_
    rintro e w1 ⟨rfl, H1⟩
    go_wp2
    exact bodyPost_ret (v := .tuple #[.string (mk []), .int .i64 1]) (by simp [results, Tryz.results11, go_sem]; rfl) rfl ⟨rfl, H1.out.1⟩
  · obtain ⟨hg, hc⟩ := rgh_yes2 hd hr
    have HW : Hid (∀ w1, Below w.heap.size w w1 → Calls Tryz.prog 24 #[v] w1 fun e w' => e = .returned (.string (mk (wrt 64 t))) ∧ Hid (Below w.heap.size w w')) := fun w1 c1 =>
      (rwrite_any d 64 v t w1 (h.later c1 (Nat.le_refl _)) hb hg hc (hT.later c1)).mono (fun e w' g => ⟨g.1, c1.trans (g.2.mono c1.size)⟩)
    rw [hr] at HM
    clear h hb b1 n1 hT hr hg hc
    subst hv
    generalize wrt 64 t = X at *
    generalize t.kind = k at *
    generalize t.text = x at *
    generalize t.anc = a at *
    go_enter Tryz.func11, Tryz.ntmps11
    go_wp2_with fail
    refine HM.out.mono ?_
    rintro e w1 ⟨rfl, H1⟩
    have c0 : w1.cell? ⟨w.heap.size, 0, none⟩ = some (.int .i64 k) := H1.out.2.cell 0
    have c1 : w1.cell? ⟨w.heap.size, 1, none⟩ = some (.string (mk x)) := H1.out.2.cell 1
    have c2 : w1.cell? ⟨w.heap.size, 2, none⟩ = some (.string (mk a)) := H1.out.2.cell 2
    have c3 : w1.cell? ⟨w.heap.size, 3, none⟩ = some (.slice ad len cap) := H1.out.2.cell 3
    have HW2 := HW.out w1 H1.out.1
    go_wp2_with fail
    refine HW2.mono ?_
    rintro e w2 ⟨rfl, H2⟩
    go_wp2
    exact bodyPost_ret (v := .tuple #[.string (mk X), .int .i64 0]) (by simp [results, Tryz.results11, go_sem]) rfl ⟨rfl, H2.out⟩

end Go.Proofs.YteokhnielbmifaaGreatDoor.Flw
end

section
/- flow.Same, by slices.EqualFunc. -/
namespace Go.Proofs.YteokhnielbmifaaGreatDoor.Flw
open Utf Rws Pln
open Go.RowKit
set_option linter.unusedSimpArgs false
set_option linter.unusedVariables false
set_option maxRecDepth 100000
set_option maxHeartbeats 2000000

theorem two_trees (w : World) (c c' : Array Value) : Below w.heap.size w ((w.alloc (.cells c 24)).alloc (.cells c' 24)) ∧ Bx ((w.alloc (.cells c 24)).alloc (.cells c' 24)) w.heap.size c 24 ∧
    Bx ((w.alloc (.cells c 24)).alloc (.cells c' 24)) (w.heap.size + 1) c' 24 := by
  have a1 := below_alloc w (.cells c 24)
  have s1 : (w.alloc (.cells c 24)).heap.size = w.heap.size + 1 := World.size_alloc _ _
  have a2 := below_alloc (w.alloc (.cells c 24)) (.cells c' 24)
  have n2 := Bx.new (w.alloc (.cells c 24)) c' 24
  rw [s1] at n2
  exact ⟨a1.trans (a2.mono a1.size), (Bx.new w _ _).later a2, n2⟩
theorem eqf_core (ad ad' : Option Addr) (len len' cap cap' : Nat) (w : World) (hl : len ≤ 9223372036854775807) (hl' : len' ≤ 9223372036854775807) (d d' : Nat) (ks ks' : List Tr)
    (HK : Hid (KAt w d ad len ks)) (HK' : Hid (KAt w d' ad' len' ks'))
    (HI : Hid (∀ v v' t t' w, TrV w d v t → TrV w d' v' t' → Calls Tryz.prog 14 #[v, v'] w fun e w' => ∃ q : Bool, e = .returned (.bool q) ∧ (q = true ↔ t = t') ∧ Below w.heap.size w w')) :
    Calls Tryz.prog 28 #[.slice ad len cap, .slice ad' len' cap', .func (.func 14) #[] #[]] w
      fun e w' => ∃ q : Bool, e = .returned (.bool q) ∧ (q = true ↔ ks = ks') ∧ Below w.heap.size w w' := by
  by_cases h4 : len = len'
  · subst h4
    go_enter Tryz.func28, Tryz.ntmps28
    go_wp2
    go_loopw [17] (fun i wr => ∃ n : Nat, n ≤ len ∧ i = .int .i64 n ∧ ks.take n = ks'.take n ∧ Below w.heap.size w wr) (fun i _ => len - (intOf i).toNat)
    case atStart => exact ⟨0, Nat.zero_le _, rfl, rfl, Below.refl _ _⟩
    case round =>
      obtain ⟨n, hn, rfl, ht, hbe⟩ := hrel
      have HT : Hid (ks.take n = ks'.take n) := ht
      have HBW : Hid (Below w.heap.size w wr) := hbe
      clear ht hbe
      by_cases hlt : n < len
      · obtain ⟨b, off, rfl, hb, hcell⟩ := HK.out.2 (by omega)
        obtain ⟨c0, c1, c2, c3, x0, x1, x2, x3, hx⟩ := hcell n hlt
        obtain ⟨b', off', rfl, hb', hcell'⟩ := HK'.out.2 (by omega)
        obtain ⟨y0, y1, y2, y3, z0, z1, z2, z3, hy⟩ := hcell' n hlt
        have HX : Hid (TrV w d (.agg #[c0, c1, c2, c3]) (ks.getD n tr0)) := hx
        have HY : Hid (TrV w d' (.agg #[y0, y1, y2, y3]) (ks'.getD n tr0)) := hy
        obtain ⟨k1, s1, a1, ad1, len1, cap1, rfl, rfl, rfl, rfl⟩ := hx.cells
        obtain ⟨k2, s2, a2, ad2, len2, cap2, rfl, rfl, rfl, rfl⟩ := hy.cells
        replace x0 := (HBW.out.cell (p := ⟨b, off + n * 4, none⟩) hb).trans x0
        replace x1 := (HBW.out.cell (p := ⟨b, off + n * 4 + 1, none⟩) hb).trans x1
        replace x2 := (HBW.out.cell (p := ⟨b, off + n * 4 + 2, none⟩) hb).trans x2
        replace x3 := (HBW.out.cell (p := ⟨b, off + n * 4 + 3, none⟩) hb).trans x3
        have HBA : Hid (Below w.heap.size w (wr.alloc (.cells #[.int .i64 k1, .string s1, .string a1, .slice ad1 len1 cap1] 24))) := HBW.out.alloc HBW.out.size _
        replace z0 := (HBA.out.cell (p := ⟨b', off' + n * 4, none⟩) hb').trans z0
        replace z1 := (HBA.out.cell (p := ⟨b', off' + n * 4 + 1, none⟩) hb').trans z1
        replace z2 := (HBA.out.cell (p := ⟨b', off' + n * 4 + 2, none⟩) hb').trans z2
        replace z3 := (HBA.out.cell (p := ⟨b', off' + n * 4 + 3, none⟩) hb').trans z3
        have HC : Hid (Calls Tryz.prog 14 #[.agg #[.int .i64 k1, .string s1, .string a1, .slice ad1 len1 cap1], .agg #[.int .i64 k2, .string s2, .string a2, .slice ad2 len2 cap2]] ((wr.alloc (.cells #[.int .i64 k1, .string s1, .string a1, .slice ad1 len1 cap1] 24)).alloc (.cells #[.int .i64 k2, .string s2, .string a2, .slice ad2 len2 cap2] 24)) fun e w' => ∃ q : Bool, e = .returned (.bool q) ∧ Hid (q = true ↔ ks.getD n tr0 = ks'.getD n tr0) ∧ Hid (Below w.heap.size w w')) := by
          have b1 := HBA.out.alloc HBA.out.size (.cells #[.int .i64 k2, .string s2, .string a2, .slice ad2 len2 cap2] 24)
          refine (HI.out _ _ _ _ _ (HX.out.later b1 (Nat.le_refl _)) (HY.out.later b1 (Nat.le_refl _))).mono ?_
          rintro e w' ⟨q, rfl, hq, hb⟩
          exact ⟨q, rfl, hq, b1.trans (hb.mono b1.size)⟩
        clear hcell hcell' hx hy HX HY
        go_wp2_with fail
        refine HC.out.mono ?_
        rintro e w2 ⟨q, rfl, hq, hbw2⟩
        cases q
        · go_wp2
          go_ret
          exact ⟨false, rfl, ⟨fun h => (by cases h), fun h => absurd (hq.out.2 (by rw [h])) (by decide)⟩, hbw2.out⟩
        · go_wp2
          go_roundw
          case rel => exact ⟨n + 1, by omega, by go_num, take_same (by have := HK.out.1; omega) (by have := HK'.out.1; omega) HT.out (hq.out.1 (by first | rfl | trivial)), hbw2.out⟩
          case measure => simp [intOf]; omega
      · have HE : Hid (ks = ks') := by
          have h := HT.out
          have l1 := HK.out.1
          have l2 := HK'.out.1
          rw [List.take_of_length_le (by omega), List.take_of_length_le (by omega)] at h
          exact h
        go_wp2
        go_ret
        exact ⟨true, rfl, ⟨fun _ => HE.out, fun _ => rfl⟩, HBW.out⟩
  · have HP : Hid (¬ ks = ks') := fun h => h4 (by rw [HK.out.1, HK'.out.1, h])
    have hne' : ((len : Int) != (len' : Int)) = true := by simp; omega
    go_enter Tryz.func28, Tryz.ntmps28
    go_wp2
    all_goals first | contradiction | skip
    go_ret
    exact ⟨false, rfl, ⟨fun h => (by cases h), fun h => absurd h HP.out⟩, Below.refl _ _⟩
theorem same_core (k k' : Int) (s s' a a' : ByteArray) (ad ad' : Option Addr) (len len' cap cap' : Nat) (w : World) (P : Prop)
    (HE : Hid (∀ w1, Below w.heap.size w w1 → Calls Tryz.prog 28 #[.slice ad len cap, .slice ad' len' cap', .func (.func 14) #[] #[]] w1 fun e w' => ∃ q : Bool, e = .returned (.bool q) ∧ Hid (q = true ↔ P) ∧ Hid (Below w.heap.size w w'))) :
    Calls Tryz.prog 14 #[.agg #[.int .i64 k, .string s, .string a, .slice ad len cap], .agg #[.int .i64 k', .string s', .string a', .slice ad' len' cap']] w
      fun e w' => ∃ q : Bool, e = .returned (.bool q) ∧ (q = true ↔ k = k' ∧ s = s' ∧ a = a' ∧ P) ∧ Below w.heap.size w w' := by
  have HS : ∀ x y : ByteArray, (x.toList == y.toList) = true ↔ x = y := fun x y => by
    rw [beq_iff_eq, ByteArray.toList_eq, ByteArray.toList_eq]
    exact ⟨fun h => by rw [← mk_of x, ← mk_of y, h], fun h => by rw [h]⟩
  have HB : ∀ c c' : Array Value, Below w.heap.size w ((w.alloc (.cells c 24)).alloc (.cells c' 24)) := fun c c' => (two_trees w c c').1
  by_cases h1 : k = k'
  · subst h1
    cases h2 : (s.toList == s'.toList)
    · have HP : Hid (¬ s = s') := fun h => by rw [(HS s s').2 h] at h2; cases h2
      clear HS
      go_enter Tryz.func14, Tryz.ntmps14
      go_wp2
      go_ret
      exact ⟨false, rfl, ⟨fun h => (by cases h), fun h => absurd h.2.1 HP.out⟩, HB _ _⟩
    · cases h3 : (a.toList == a'.toList)
      · have HP : Hid (¬ a = a') := fun h => by rw [(HS a a').2 h] at h3; cases h3
        clear HS
        go_enter Tryz.func14, Tryz.ntmps14
        go_wp2
        go_ret
        exact ⟨false, rfl, ⟨fun h => (by cases h), fun h => absurd h.2.2.1 HP.out⟩, HB _ _⟩
      · have E2 : Hid (s = s') := (HS s s').1 h2
        have E3 : Hid (a = a') := (HS a a').1 h3
        have HE2 : Hid (∀ c c', Calls Tryz.prog 28 #[.slice ad len cap, .slice ad' len' cap', .func (.func 14) #[] #[]] ((w.alloc (.cells c 24)).alloc (.cells c' 24)) fun e w' => ∃ q : Bool, e = .returned (.bool q) ∧ Hid (q = true ↔ P) ∧ Hid (Below w.heap.size w w')) := fun c c' => HE.out _ (HB c c')
        clear HS HB HE
        go_enter Tryz.func14, Tryz.ntmps14
        go_wp2_with fail
        refine (HE2.out _ _).mono ?_
        rintro e w2 ⟨q, rfl, hq, hb⟩
        go_wp2
        go_ret
        refine ⟨q, rfl, ?_, hb.out⟩
        rw [hq.out]
        exact ⟨fun h => ⟨by first | rfl | trivial, E2.out, E3.out, h⟩, fun h => h.2.2.2⟩
  · have h1' : (k == k') = false := by simpa using h1
    go_enter Tryz.func14, Tryz.ntmps14
    go_wp2
    all_goals first | contradiction | skip
    go_ret
    refine ⟨false, rfl, ?_, HB _ _⟩
    simp [h1]
theorem same_any : ∀ (d : Nat) (d' : Nat) (v v' : Value) (t t' : Tr) (w : World), TrV w d v t → TrV w d' v' t' →
    Calls Tryz.prog 14 #[v, v'] w fun e w' => ∃ q : Bool, e = .returned (.bool q) ∧ (q = true ↔ t = t') ∧ Below w.heap.size w w'
  | 0, d', v, v', t, t', w, h, h' => h.elim
  | d + 1, 0, v, v', t, t', w, h, h' => h'.elim
  | d + 1, d' + 1, v, v', t, t', w, h, h' => by
    have hV := h
    have hV' := h'
    obtain ⟨ad, len, cap, rfl, hl, hc, hm, hz, hk⟩ := h
    obtain ⟨ad', len', cap', rfl, hl', hc', hm', hz', hk'⟩ := h'
    have m1 : maxLen = 9223372036854775807 := rfl
    refine (same_core t.kind t'.kind (mk t.text) (mk t'.text) (mk t.anc) (mk t'.anc) ad ad' len len' cap cap' w (t.kids = t'.kids) (fun w1 b1 => ?_)).mono ?_
    · have h1 := hV.later b1 (Nat.le_refl _)
      have h1' := hV'.later b1 (Nat.le_refl _)
      obtain ⟨_, _, _, e1, hl1, _, _, _, hk1⟩ := h1
      obtain ⟨_, _, _, e1', hl1', _, _, _, hk1'⟩ := h1'
      simp only [Value.agg.injEq, Array.mk.injEq, List.cons.injEq, and_true, Value.slice.injEq, true_and] at e1 e1'
      obtain ⟨rfl, rfl, rfl⟩ := e1
      obtain ⟨rfl, rfl, rfl⟩ := e1'
      refine (eqf_core ad ad' len len' cap cap' w1 (by omega) (by omega) d d' t.kids t'.kids ⟨hl1, hk1⟩ ⟨hl1', hk1'⟩ (fun v v' t t' w => same_any d d' v v' t t' w)).mono ?_
      rintro e w' ⟨q, e2, hq, hb⟩
      exact ⟨q, e2, hq, b1.trans (hb.mono b1.size)⟩
    · rintro e w' ⟨q, rfl, hq, hb⟩
      refine ⟨q, rfl, ?_, hb⟩
      rw [hq, mk_eq, mk_eq]
      exact ⟨fun h => tr_ext h.1 h.2.1 h.2.2.1 h.2.2.2, fun h => by rw [h]; exact ⟨rfl, rfl, rfl, rfl⟩⟩
end Go.Proofs.YteokhnielbmifaaGreatDoor.Flw
end
