/- strings.IndexAny at the three bytes that no plain text has: the long road. -/
import Derived.Test.YtlocmdiljfkhkaaDoorPlainShelf
import Derived.Test.YtlocmdiljfkhkaaDoorPlainLeaf
import Derived.Lib.AsciiSet
import Derived.Deep.WholeRow
import Derived.Shelf.Strings.AsciiSet
namespace Go.Proofs.YtlocmdiljfkhkaaDoor.Pln
open Utf Rws
open Go.RowKit
set_option linter.unusedSimpArgs false
set_option linter.unusedVariables false
set_option maxRecDepth 100000

def c3 (b : UInt8) : Bool := b == 9 || b == 10 || b == 13
def anyB (l : List UInt8) : Bool := l.any c3
theorem anyB_has (l : List UInt8) : anyB l = (has 9 l || has 10 l || has 13 l) := by
  unfold anyB has
  induction l with
  | nil => rfl
  | cons b r ih =>
    simp only [List.any_cons, ih, c3]
    cases (b == 9) <;> cases (b == 10) <;> cases (b == 13) <;> simp
theorem any_take_snoc (l : List UInt8) (n : Nat) (h : n < l.length) : (l.take (n + 1)).any c3 = ((l.take n).any c3 || c3 (l.getD n 0)) := by
  rw [List.take_succ_eq_append_getElem h, List.any_append, List.getD_eq_getElem?_getD, List.getElem?_eq_getElem h]; simp
theorem any_hit (l : List UInt8) (n : Nat) (h : n < l.length) (hc : c3 (l.getD n 0) = true) : anyB l = true := by
  unfold anyB
  rw [List.any_eq_true]
  rw [List.getD_eq_getElem?_getD, List.getElem?_eq_getElem h] at hc
  exact ⟨l[n], List.getElem_mem h, hc⟩
/-- what IndexAny answers -/
def IxRes (l : List UInt8) (e : Ending) : Prop := ∃ r : Int, e = .returned (.int .i64 r) ∧ decide (0 ≤ r) = anyB l

theorem zero_set : (Tryd.prog.info? 54).map (fun i => (i.zero, i.size)) = some (some (.agg (Array.replicate 256 (.bool false))), 256) := by kernel_rfl
theorem set_has (x : UInt8) : ([9, 10, 13] : List UInt8).contains x = c3 x := by
  unfold c3
  show ((x == 9) || ((x == 10) || ((x == 13) || false))) = _
  rw [Bool.or_false, Bool.or_assoc]

theorem shouldUse_any (n : Int) (w : World) : Calls Tryd.prog 71 #[.int .i64 n] w fun e w' => e = .returned (.bool (decide (8 < n))) ∧ w = w' := by
  go_enter Tryd.func71, Tryd.ntmps71
  go_wp2
  go_ret
  exact ⟨rfl, rfl⟩

theorem indexAny_long (l : List UInt8) (w : World) (hs : l.length ≤ 140737488351232) (h8 : 8 < l.length) : Calls Tryd.prog 47 #[.string (mk l), .string ⟨#[9, 10, 13]⟩] w fun e w' => IxRes l e ∧ Below w.heap.size w w' := by
  have hsz := mk_size l
  have hM := Any.strings_makeASCIISet lays227 (zero_of_info zero_set).1 (zero_of_info zero_set).2 ⟨#[9, 10, 13]⟩ w (by decide) (by
    intro j b hb
    match j, hb with
    | 0, hb => simp at hb; subst hb; decide
    | 1, hb => simp at hb; subst hb; decide
    | 2, hb => simp at hb; subst hb; decide
    | j + 3, hb => simp at hb)
  obtain ⟨C, HC⟩ : ∃ C, Hid (Lib.setCells (⟨#[9, 10, 13]⟩ : ByteArray).data.toList = C) := ⟨_, rfl⟩
  rw [HC.out] at hM
  have hC1 : C.size = 256 := by rw [← HC.out]; exact Lib.setCells_size _
  have hC2 : C.all (·.oneCell') = true := by rw [← HC.out]; exact Lib.setCells_one _
  have hC3 : ∀ x : UInt8, C[x.toNat]? = some (.bool (c3 x)) := fun x => by
    rw [← HC.out, Lib.setCells_at]; congr 2; exact set_has x
  clear HC
  have HM : Hid (Calls Tryd.prog 39 #[.string ⟨#[9, 10, 13]⟩] w fun e w' => e = .returned (.tuple #[.agg C, .bool true]) ∧ w' = w.alloc (.cells C 54)) := hM
  clear hM
  have hsc : (storeCells ⟨w.heap.size + 1, 0, none⟩ C.toList 0).run Tryd.prog ((w.alloc (.cells C 54)).alloc (.cells Tryd.zeroCells54 54)) = .ok () ((w.alloc (.cells C 54)).alloc (.cells C 54)) := by
    have := run_storeCells_new (P := Tryd.prog) (w.alloc (.cells C 54)) 54 Tryd.zeroCells54 C (by rw [hC1]; exact (zero_of_info zero_set).2) (by rw [hC1]; kernel_rfl) hC2
    simpa using this
  have HS : Hid ((storeCells ⟨w.heap.size + 1, 0, none⟩ C.toList 0).run Tryd.prog ((w.alloc (.cells C 54)).alloc (.cells Tryd.zeroCells54 54)) = .ok () ((w.alloc (.cells C 54)).alloc (.cells C 54))) := hsc
  clear hsc
  have H3 : Hid (∀ x : UInt8, C[x.toNat]? = some (.bool (c3 x))) := hC3
  have H1 : Hid (C.size = 256) := hC1
  clear hC3 hC2 hC1
  have h8z : decide ((8 : Int) < (l.length : Int)) = true := decide_eq_true (by omega)
  go_enter Tryd.func47, Tryd.ntmps47
  go_wp2_with (first | (go_at_call 71; refine (shouldUse_any _ _).mono ?_; rintro e w' ⟨rfl, rfl⟩; rw [h8z]) | (go_at_call 39; refine HM.out.mono ?_; rintro e w' ⟨rfl, rfl⟩))
  rw [HS.out]
  simp only [Result.andThen]
  rw [Oper.upon_skip]
  go_wp2
  go_loop [8] (fun i => ∃ n : Nat, n ≤ l.length ∧ i = .int .i64 n ∧ (l.take n).any c3 = false) (fun i => l.length - (intOf i).toNat)
  case atStart => exact ⟨0, Nat.zero_le _, rfl, rfl⟩
  case round =>
    obtain ⟨n, hn1, rfl, ht⟩ := hrel
    have HT : Hid ((l.take n).any c3 = false) := ht
    clear ht
    by_cases hlt : n < l.length
    · have hg : ∀ h, (mk l)[n]'h = l.getD n 0 := fun h => mk_getD l n h
      have hlt' : n < (mk l).size := by rw [mk_size]; exact hlt
      have hsn := any_take_snoc l n hlt
      rw [HT.out, Bool.false_or] at hsn
      have HSN : Hid ((l.take (n + 1)).any c3 = c3 (l.getD n 0)) := hsn
      have hhit := any_hit l n hlt
      have HH : Hid (c3 (l.getD n 0) = true → anyB l = true) := hhit
      clear hsn hhit
      have hcell : ((w.alloc (.cells C 54)).alloc (.cells C 54)).cell? ⟨w.heap.size + 1, (l.getD n 0).toNat, none⟩ = some (.bool (c3 (l.getD n 0))) := by
        rw [World.cell?_alloc_at _ _ _ _ (by simp), H3.out]
      have hcon := Any.asciiSet_contains lays228 (w.heap.size + 1) (l.getD n 0) (c3 (l.getD n 0)) _ hcell
      have HC : Hid (Calls Tryd.prog 56 #[.pointer (some ⟨w.heap.size + 1, 0, none⟩), .int .u8 ((l.getD n 0).toNat : Int)] ((w.alloc (.cells C 54)).alloc (.cells C 54)) fun e w' => e = .returned (.bool (c3 (l.getD n 0))) ∧ w' = ((w.alloc (.cells C 54)).alloc (.cells C 54))) := hcon
      clear hcon hcell
      generalize l.getD n 0 = b at hg HSN HH HC
      cases hb : c3 b
      · rw [hb] at HC HSN
        go_wp2_with (first | (go_at_call 56; refine HC.out.mono ?_; rintro e w' ⟨rfl, rfl⟩))
        go_round
        case rel => exact ⟨n + 1, by omega, by go_num, HSN.out⟩
        case measure => simp [intOf]; omega
      · rw [hb] at HC
        go_wp2_with (first | (go_at_call 56; refine HC.out.mono ?_; rintro e w' ⟨rfl, rfl⟩))
        go_ret
        refine ⟨⟨(n : Int), rfl, ?_⟩, ((Below.refl _ _).alloc (Nat.le_refl _) _).alloc (by simp) _⟩
        rw [HH.out hb]; simp
    · have HN : Hid (anyB l = false) := by
        have := HT.out
        rw [List.take_of_length_le (by omega)] at this
        exact this
      go_wp2
      go_ret
      refine ⟨⟨-1, rfl, ?_⟩, ((Below.refl _ _).alloc (Nat.le_refl _) _).alloc (by simp) _⟩
      rw [HN.out]; rfl

end Go.Proofs.YtlocmdiljfkhkaaDoor.Pln
