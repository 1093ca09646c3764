/- strings.IndexAny at the three bytes: the short road; strings.ContainsAny; plain.isPrintable. -/
import Derived.Test.YtlocmdiljfkhkaaDoorPlainAny2
import Derived.Test.YtlocmdiljfkhkaaDoorUtfChk
import Derived.Deep.LoopGhost
namespace Go.Proofs.YtlocmdiljfkhkaaDoor.Pln
open Utf Rws
open Go.RowKit
set_option linter.unusedSimpArgs false
set_option linter.unusedVariables false
set_option maxRecDepth 100000

/-- an iterator over a text that goes on, wherever it lies -/
def setIter (w : World) (b : Nat) (s : ByteArray) (p : Nat) : World := { w with heap := w.heap.setIfInBounds b (.stringIter s p) }
theorem setIter_size (w : World) (b : Nat) (s : ByteArray) (p : Nat) : (setIter w b s p).heap.size = w.heap.size := by simp [setIter]
theorem setIter_at (w : World) (b : Nat) (s : ByteArray) (p : Nat) (h : b < w.heap.size) : (setIter w b s p).heap[b]? = some (.stringIter s p) := by simp [setIter, h]
theorem setIter_below {w0 w : World} {b : Nat} (hb : Below b w0 w) (s : ByteArray) (p : Nat) : Below b w0 (setIter w b s p) :=
  ⟨hb.os, hb.tape, hb.output, by rw [setIter_size]; exact hb.size, fun k hk => by
    rw [← hb.block k hk]
    simp only [setIter]
    rw [Array.getElem?_setIfInBounds, if_neg (by omega)]⟩
theorem run_next_on (w : World) (b : Nat) (s : ByteArray) (pos : Nat) (ty : TypeId) (hb : w.heap[b]? = some (.stringIter s pos)) (h : pos < s.size) :
    (Instr.next (.pointer (some ⟨b, 0, none⟩)) true ty).run Tryd.prog w = .ok (.tuple #[.bool true, .int .i64 pos, .int .i32 (Utf8.decode s pos).1]) (setIter w b s (pos + (Utf8.decode s pos).2)) := by
  simp only [Instr.next, getObj, setObj, Sem.run_bind, Sem.run, hb, Result.andThen, h, if_true]
  simp [goInt, setIter]
theorem run_next_stop (w : World) (b : Nat) (s : ByteArray) (pos : Nat) (ty : TypeId) (hb : w.heap[b]? = some (.stringIter s pos)) (h : ¬ pos < s.size) :
    (Instr.next (.pointer (some ⟨b, 0, none⟩)) true ty).run Tryd.prog w = .ok (.tuple #[.bool false]) w := by
  simp [Instr.next, getObj, Sem.run, hb, h]

/-- the sign at a place whose byte is above 127 -/
theorem get_mk (l : List UInt8) (i : Nat) (h : i < l.length) : ((mk l).get! i) = l.getD i 0 := by
  rw [← mk_getD l i (by rw [mk_size]; exact h)]
  simp [ByteArray.get!, getElem!_pos, mk_size, h]
  rfl
theorem cont_hi {x : Nat} (h : x / 64 = 2) : 128 ≤ x := by omega
def cnt (s : ByteArray) (i k : Nat) : Bool := decide (i + k < s.size) && (s.get! (i + k)).toNat / 64 == 2
def okD (c1 c2 c3 : Bool) (d : Nat × Nat) : Prop := 128 ≤ d.1 ∧ d.1 ≤ 1114111 ∧ Lib.validRune (d.1 : Int) = true ∧ (d.2 = 1 ∨ (d.2 = 2 ∧ c1 = true) ∨ (d.2 = 3 ∧ c1 = true ∧ c2 = true) ∨ (d.2 = 4 ∧ c1 = true ∧ c2 = true ∧ c3 = true))
theorem okD_err (c1 c2 c3 : Bool) : okD c1 c2 c3 (Utf8.runeError, 1) := ⟨by decide, by decide, by decide, .inl rfl⟩
theorem val_ok {c : Nat} (hc : Utf8.valid (c : Int) = true) : c ≤ 1114111 ∧ Lib.validRune (c : Int) = true := by
  unfold Utf8.valid at hc
  unfold Lib.validRune
  simp at hc ⊢
  omega
set_option maxHeartbeats 4000000 in
theorem decode_ok (s : ByteArray) (i : Nat) (h : 128 ≤ (s.get! (i + 0)).toNat) : okD (cnt s i 1) (cnt s i 2) (cnt s i 3) (Utf8.decode s i) := by
  unfold Utf8.decode cnt
  dsimp only
  split
  · rename_i hlt; exact absurd hlt (by omega)
  split
  · rename_i q1
    rw [Bool.and_eq_true] at q1
    split
    · rename_i r1
      refine ⟨r1, by simp only; omega, ?_, .inr (.inl ⟨rfl, q1.2⟩)⟩
      unfold Lib.validRune; simp only [decide_eq_true_eq]; omega
    · exact okD_err _ _ _
  · split
    · rename_i q2
      rw [Bool.and_eq_true, Bool.and_eq_true] at q2
      split
      · rename_i r2
        rw [Bool.and_eq_true, decide_eq_true_eq] at r2
        obtain ⟨v1, v2⟩ := val_ok r2.2
        exact ⟨by simp only; omega, v1, v2, .inr (.inr (.inl ⟨rfl, q2.1.2, q2.2⟩))⟩
      · exact okD_err _ _ _
    · split
      · rename_i q3
        rw [Bool.and_eq_true, Bool.and_eq_true, Bool.and_eq_true] at q3
        split
        · rename_i r3
          rw [Bool.and_eq_true, decide_eq_true_eq] at r3
          obtain ⟨v1, v2⟩ := val_ok r3.2
          exact ⟨by simp only; omega, v1, v2, .inr (.inr (.inr ⟨rfl, q3.1.1.2, q3.1.2, q3.2⟩))⟩
        · exact okD_err _ _ _
      · exact okD_err _ _ _
theorem cnt_hi (l : List UInt8) (p k : Nat) (h : cnt (mk l) p k = true) : p + k < l.length ∧ 128 ≤ (l.getD (p + k) 0).toNat := by
  unfold cnt at h
  rw [Bool.and_eq_true, decide_eq_true_eq, beq_iff_eq, mk_size] at h
  refine ⟨h.1, ?_⟩
  rw [← get_mk l (p + k) h.1]
  exact cont_hi h.2
theorem decode_wide (l : List UInt8) (p : Nat) (h : p < l.length) (hb : 128 ≤ (l.getD p 0).toNat) :
    128 ≤ (Utf8.decode (mk l) p).1 ∧ (Utf8.decode (mk l) p).1 ≤ 1114111 ∧ Lib.validRune ((Utf8.decode (mk l) p).1 : Int) = true ∧ 1 ≤ (Utf8.decode (mk l) p).2 ∧ p + (Utf8.decode (mk l) p).2 ≤ l.length ∧
    ∀ j, p ≤ j → j < p + (Utf8.decode (mk l) p).2 → 128 ≤ (l.getD j 0).toNat := by
  have h0 : 128 ≤ ((mk l).get! (p + 0)).toNat := by rw [Nat.add_zero, get_mk l p h]; exact hb
  have hd := decode_ok (mk l) p h0
  obtain ⟨d1, d2, d3, d4⟩ := hd
  refine ⟨d1, d2, d3, ?_⟩
  generalize (Utf8.decode (mk l) p).2 = k at d4
  rcases d4 with rfl | ⟨rfl, e1⟩ | ⟨rfl, e1, e2⟩ | ⟨rfl, e1, e2, e3⟩
  · refine ⟨by omega, by omega, fun j h1 h2 => ?_⟩
    have : j = p := by omega
    rw [this]; exact hb
  · have f1 := cnt_hi l p 1 e1
    refine ⟨by omega, by omega, fun j h1 h2 => ?_⟩
    have : j = p ∨ j = p + 1 := by omega
    rcases this with rfl | rfl
    · exact hb
    · exact f1.2
  · have f1 := cnt_hi l p 1 e1
    have f2 := cnt_hi l p 2 e2
    refine ⟨by omega, by omega, fun j h1 h2 => ?_⟩
    have : j = p ∨ j = p + 1 ∨ j = p + 2 := by omega
    rcases this with rfl | rfl | rfl
    · exact hb
    · exact f1.2
    · exact f2.2
  · have f1 := cnt_hi l p 1 e1
    have f2 := cnt_hi l p 2 e2
    have f3 := cnt_hi l p 3 e3
    refine ⟨by omega, by omega, fun j h1 h2 => ?_⟩
    have : j = p ∨ j = p + 1 ∨ j = p + 2 ∨ j = p + 3 := by omega
    rcases this with rfl | rfl | rfl | rfl
    · exact hb
    · exact f1.2
    · exact f2.2
    · exact f3.2
theorem decode_low (l : List UInt8) (p : Nat) (h : p < l.length) (hb : (l.getD p 0).toNat < 128) : Utf8.decode (mk l) p = ((l.getD p 0).toNat, 1) := by
  have hp : p < (mk l).size := by rw [mk_size]; exact h
  have := decode_ascii (mk l) p hp (by rw [mk_getD]; exact hb)
  rw [mk_getD] at this
  exact this
theorem c3_hi {b : UInt8} (h : 128 ≤ b.toNat) : c3 b = false := by
  unfold c3
  simp only [Bool.or_eq_false_iff, beq_eq_false_iff_ne]
  refine ⟨⟨?_, ?_⟩, ?_⟩ <;> rintro rfl <;> revert h <;> decide
/-- one sign more has none of the three, if its first byte is none -/
theorem any_next (l : List UInt8) (p : Nat) (h : p < l.length) (h0 : (l.take p).any c3 = false) (hc : c3 (l.getD p 0) = false) :
    1 ≤ (Utf8.decode (mk l) p).2 ∧ p + (Utf8.decode (mk l) p).2 ≤ l.length ∧ (l.take (p + (Utf8.decode (mk l) p).2)).any c3 = false := by
  by_cases hb : (l.getD p 0).toNat < 128
  · rw [decode_low l p h hb]
    refine ⟨Nat.le_refl 1, by simp only; omega, ?_⟩
    simp only
    rw [any_take_snoc l p h, h0, hc]; rfl
  · obtain ⟨_, _, _, d1, d2, d3⟩ := decode_wide l p h (by omega)
    refine ⟨d1, d2, ?_⟩
    generalize (Utf8.decode (mk l) p).2 = k at d1 d2 d3
    have : ∀ m, m ≤ k → (l.take (p + m)).any c3 = false := by
      intro m
      induction m with
      | zero => intro _; exact h0
      | succ m ih =>
        intro hm
        rw [← Nat.add_assoc, any_take_snoc l (p + m) (by omega), ih (by omega), c3_hi (d3 (p + m) (by omega) (by omega))]; rfl
    exact this k (Nat.le_refl _)

def QRes (b : UInt8) (e : Ending) : Prop := ∃ q : Int, e = .returned (.int .i64 q) ∧ decide (0 ≤ q) = c3 b
theorem rune_any (l : List UInt8) (p : Nat) (w : World) (h : p < l.length) : Calls Tryd.prog 70 #[.string ⟨#[9, 10, 13]⟩, .int .i32 ((Utf8.decode (mk l) p).1 : Int)] w fun e w' => QRes (l.getD p 0) e ∧ Below w.heap.size w w' := by
  by_cases hb : (l.getD p 0).toNat < 128
  · rw [decode_low l p h hb]
    refine (rune_ascii (l.getD p 0) w hb).mono ?_
    rintro e w' ⟨⟨q, h1, h2⟩, rfl⟩
    exact ⟨⟨q, h1, h2⟩, Below.refl _ _⟩
  · obtain ⟨d1, d2, d3, _⟩ := decode_wide l p h (by omega)
    have hc := c3_hi (b := l.getD p 0) (by omega)
    by_cases he : (Utf8.decode (mk l) p).1 = 65533
    · rw [he]
      refine (rune_error w).mono ?_
      rintro e w' ⟨h1, h2⟩
      exact ⟨⟨-1, h1, by rw [hc]; rfl⟩, h2⟩
    · refine (rune_high ((Utf8.decode (mk l) p).1 : Int) w (by omega) (by omega) d3 (by omega)).mono ?_
      rintro e w' ⟨h1, h2⟩
      exact ⟨⟨-1, h1, by rw [hc]; rfl⟩, h2⟩

theorem indexAny_short (l : List UInt8) (w : World) (hs : l.length ≤ 140737488351232) (h8 : ¬ 8 < l.length) : Calls Tryd.prog 47 #[.string (mk l), .string ⟨#[9, 10, 13]⟩] w fun e w' => IxRes l e ∧ Below w.heap.size w w' := by
  have hsz := mk_size l
  have h8z : decide ((8 : Int) < (l.length : Int)) = false := decide_eq_false (by omega)
  go_enter Tryd.func47, Tryd.ntmps47
  go_wp2_with (first | (go_at_call 71; refine (shouldUse_any _ _).mono ?_; rintro e w' ⟨rfl, rfl⟩; rw [h8z]))
  go_loopg [9, 10] l.length (fun g _ _ wr => ∃ p : Nat, p + g = l.length ∧ Below w.heap.size w wr ∧ wr.heap[w.heap.size]? = some (.stringIter (mk l) p) ∧ (l.take p).any c3 = false)
  case atStart => exact ⟨0, by omega, (Below.refl _ _).alloc (Nat.le_refl _) _, World.iter_heap _ _ _, rfl⟩
  case round =>
    obtain ⟨p, hpg, hbe, hit, ht⟩ := hrel
    have HT : Hid ((l.take p).any c3 = false) := ht
    clear ht
    cases gk with
    | zero =>
      have hnx := fun ty => run_next_stop wr w.heap.size (mk l) p ty hit (by omega)
      have HN : Hid (anyB l = false) := by
        have := HT.out
        rw [List.take_of_length_le (by omega)] at this
        exact this
      clear hit
      go_wp2
      go_ret
      exact ⟨⟨-1, rfl, by rw [HN.out]; rfl⟩, hbe⟩
    | succ g =>
      have hlt : p < l.length := by omega
      have hnx := fun ty => run_next_on wr w.heap.size (mk l) p ty hit (by omega)
      have hbs : w.heap.size < wr.heap.size := by
        rcases Nat.lt_or_ge w.heap.size wr.heap.size with h | h
        · exact h
        · rw [Array.getElem?_eq_none (by omega)] at hit; cases hit
      have hb2 := setIter_below hbe (mk l) (p + (Utf8.decode (mk l) p).2)
      have hit2 := setIter_at wr w.heap.size (mk l) (p + (Utf8.decode (mk l) p).2) hbs
      have hz2 := setIter_size wr w.heap.size (mk l) (p + (Utf8.decode (mk l) p).2)
      have HR := rune_any l p (setIter wr w.heap.size (mk l) (p + (Utf8.decode (mk l) p).2)) hlt
      have HHit := any_hit l p hlt
      have HNx := any_next l p hlt HT.out
      generalize (Utf8.decode (mk l) p).1 = r at hnx HR
      generalize (Utf8.decode (mk l) p).2 = k at hnx HR hb2 hit2 hz2 HNx
      generalize l.getD p 0 = b at HR HHit HNx
      obtain ⟨W, HW⟩ : ∃ W, Hid (setIter wr w.heap.size (mk l) (p + k) = W) := ⟨_, rfl⟩
      rw [HW.out] at hnx HR hb2 hit2 hz2
      have HRR : Hid (Calls Tryd.prog 70 #[.string ⟨#[9, 10, 13]⟩, .int .i32 (r : Int)] W fun e w' => QRes b e ∧ Below W.heap.size W w') := HR
      have HIT : Hid (W.heap[w.heap.size]? = some (.stringIter (mk l) (p + k))) := hit2
      have HZ : Hid (W.heap.size = wr.heap.size) := hz2
      have HHI : Hid (c3 b = true → anyB l = true) := HHit
      have HNN : Hid (c3 b = false → 1 ≤ k ∧ p + k ≤ l.length ∧ (l.take (p + k)).any c3 = false) := HNx
      clear HR hit2 hz2 HHit HNx hit HW
      cases hb : c3 b
      · go_wp2_with (first | (go_at_call 70; refine HRR.out.mono ?_; rintro e w2 ⟨⟨q, rfl, hq⟩, hb3⟩; rw [hb] at hq))
        obtain ⟨n1, n2, n3⟩ := HNN.out hb
        go_roundg (l.length - (p + k))
        case measure => omega
        case rel => exact ⟨p + k, by omega, hb2.trans (hb3.mono (by rw [HZ.out]; omega)), (hb3.block _ (by rw [HZ.out]; exact hbs)).trans HIT.out, n3⟩
      · go_wp2_with (first | (go_at_call 70; refine HRR.out.mono ?_; rintro e w2 ⟨⟨q, rfl, hq⟩, hb3⟩; rw [hb] at hq))
        go_ret
        exact ⟨⟨(p : Int), rfl, by rw [HHI.out hb]; simp⟩, hb2.trans (hb3.mono (by rw [HZ.out]; omega))⟩

theorem containsAny_any (l : List UInt8) (w : World) (hs : l.length ≤ 140737488351232) : Calls Tryd.prog 31 #[.string (mk l), .string ⟨#[9, 10, 13]⟩] w fun e w' => e = .returned (.bool (anyB l)) ∧ Below w.heap.size w w' := by
  have HI : Hid (Calls Tryd.prog 47 #[.string (mk l), .string ⟨#[9, 10, 13]⟩] w fun e w' => IxRes l e ∧ Below w.heap.size w w') := by
    by_cases h8 : 8 < l.length
    · exact indexAny_long l w hs h8
    · exact indexAny_short l w hs h8
  go_enter Tryd.func31, Tryd.ntmps31
  go_wp2_with (first | (go_at_call 47; refine HI.out.mono ?_; rintro e w' ⟨⟨q, rfl, hq⟩, hb⟩))
  go_ret
  exact ⟨rfl, hb⟩

end Go.Proofs.YtlocmdiljfkhkaaDoor.Pln
