/- Several texts as one: FlowRright. -/
import Derived.Test.YtaphijgbebhdlaaGreatDoorV45FlowRnameQ
import Derived.Test.YtaphijgbebhdlaaGreatDoorV47FlowBrfZ
section
/- The document's right. -/
namespace Go.Proofs.YtaphijgbebhdlaaGreatDoor.Flw
open Utf Rws Pln
open Go.RowKit
set_option linter.unusedSimpArgs false
set_option linter.unusedVariables false
set_option maxRecDepth 100000
set_option maxHeartbeats 4000000

theorem keysOk_at : ∀ (ks : List Tr) (i : Nat), keysOk i ks = true ↔ ∀ j, j < ks.length → (i + j) % 2 = 0 → Flw.isKey (ks.getD j tr0) = true
  | [], i => ⟨fun _ j hj => absurd hj (Nat.not_lt_zero _), fun _ => rfl⟩
  | k :: ks, i => by
    unfold keysOk
    rw [Bool.and_eq_true, keysOk_at ks (i + 1)]
    constructor
    · rintro ⟨h1, h2⟩ j hj he
      cases j with
      | zero =>
        have e : (i % 2 == 0) = true := by simpa using he
        rw [e] at h1
        simpa using h1
      | succ j => exact h2 j (by simpa using hj) (by rw [show i + 1 + j = i + (j + 1) by omega]; exact he)
    · intro h
      refine ⟨?_, fun j hj he => ?_⟩
      · have := h 0 (by simp)
        by_cases e : i % 2 = 0
        · have := this (by omega)
          simp at this
          simp [this]
        · simp [e]
      · exact h (j + 1) (by simpa using hj) (by rw [show i + (j + 1) = i + 1 + j by omega]; exact he)
/-- what the document's right asks ahead of the kids -/
def hdOk (k : Int) (x a : Ln) : Bool := decide (1 ≤ k) && decide (k ≤ 7) && ((a == [] && !decide (k = 7)) || isName a) && txt k x
theorem rgt_hd (D : Nat) (k : Int) (x a : Ln) (ks : List Tr) (h : hdOk k x a = false) : rgt D ⟨k, x, a, ks⟩ = false := by
  have : ∀ inner, rstep inner ⟨k, x, a, ks⟩ = false := fun inner => by
    show (hdOk k x a && _) = false
    rw [h]; rfl
  cases D <;> exact this _
theorem rgt_leaf (D : Nat) (k : Int) (x a : Ln) (ks : List Tr) (h : hdOk k x a = true) (h5 : k ≠ 5) (h6 : k ≠ 6) : rgt D ⟨k, x, a, ks⟩ = ks.isEmpty := by
  have : ∀ inner, rstep inner ⟨k, x, a, ks⟩ = ks.isEmpty := fun inner => by
    show (hdOk k x a && (if k ≠ 5 ∧ k ≠ 6 then ks.isEmpty else _)) = _
    rw [h, if_pos ⟨h5, h6⟩]; rfl
  cases D <;> exact this _
theorem rgt_deep (k : Int) (x a : Ln) (ks : List Tr) (h5 : k = 5 ∨ k = 6) : rgt 0 ⟨k, x, a, ks⟩ = false := by
  show (hdOk k x a && (if k ≠ 5 ∧ k ≠ 6 then ks.isEmpty else false)) = false
  rw [if_neg (by omega)]; exact Bool.and_false _
theorem rgt_kids (D : Nat) (k : Int) (x a : Ln) (ks : List Tr) (h : hdOk k x a = true) (h5 : k = 5 ∨ k = 6) :
    rgt (D + 1) ⟨k, x, a, ks⟩ = true ↔ (k = 6 → ks.length % 2 = 0) ∧ ∀ j, j < ks.length → (k = 6 → j % 2 = 0 → Flw.isKey (ks.getD j tr0) = true) ∧ rgt D (ks.getD j tr0) = true := by
  show (hdOk k x a && (if k ≠ 5 ∧ k ≠ 6 then ks.isEmpty else ((!decide (k = 6) || (ks.length % 2 == 0 && keysOk 0 ks)) && ks.all fun k => rgt D k))) = true ↔ _
  rw [h, if_neg (by omega), Bool.true_and, Bool.and_eq_true, List.all_eq_true]
  have hall : (∀ z ∈ ks, rgt D z = true) ↔ ∀ j, j < ks.length → rgt D (ks.getD j tr0) = true := by
    constructor
    · intro h j hj; exact h _ (getD_mem hj)
    · intro h z hz
      obtain ⟨i, hi, e⟩ := List.mem_iff_getElem.1 hz
      have := h i hi
      rw [List.getD_eq_getElem?_getD, List.getElem?_eq_getElem hi, Option.getD_some, e] at this
      exact this
  rw [hall]
  by_cases c : k = 6
  · have e : (!decide (k = 6) || (ks.length % 2 == 0 && keysOk 0 ks)) = true ↔ ks.length % 2 = 0 ∧ keysOk 0 ks = true := by simp [c]
    rw [e, keysOk_at]
    constructor
    · rintro ⟨⟨h1, h2⟩, h3⟩
      exact ⟨fun _ => h1, fun j hj => ⟨fun _ hz => h2 j hj (by omega), h3 j hj⟩⟩
    · rintro ⟨h1, h2⟩
      exact ⟨⟨h1 c, fun j hj hz => (h2 j hj).1 c (by omega)⟩, fun j hj => (h2 j hj).2⟩
  · constructor
    · rintro ⟨_, h3⟩
      exact ⟨fun e => absurd e c, fun j hj => ⟨fun e => absurd e c, h3 j hj⟩⟩
    · rintro ⟨_, h2⟩
      exact ⟨by simp [c], fun j hj => (h2 j hj).2⟩
def RgRes (P : Prop) (w : World) (e : Ending) (w' : World) : Prop := ∃ q : Bool, e = .returned (.bool q) ∧ (q = true ↔ P) ∧ Below w.heap.size w w'
/-- ahead of the kids: it is refused -/
theorem rright_no (k : Int) (x a : Ln) (ad : Option Addr) (len cap : Nat) (w : World) (deep : Nat) (hd : deep ≤ 64) (hx : x.length ≤ 65536) (ha : a.length ≤ 65536) (h : hdOk k x a = false) : Calls Tryz.prog 58 #[.agg #[.int .i64 k, .string (mk x), .string (mk a), .slice ad len cap], .int .i64 (deep : Int)] w fun e w' =>  e = .returned (.bool false) ∧ Below w.heap.size w w' := by
  have ea : ((mk a).toList == []) = (a == []) := by rw [ByteArray.toList_eq, mk_data]
  have ea2 : (mk a).toList.isEmpty = (a == []) := by rw [ByteArray.toList_eq, mk_data]; cases a <;> rfl
  have b1 := below_alloc w (.cells #[.int .i64 k, .string (mk x), .string (mk a), .slice ad len cap] 29)
  have n1 := Bx.new w #[.int .i64 k, .string (mk x), .string (mk a), .slice ad len cap] 29
  have HN : Hid (∀ w0, Calls Tryz.prog 75 #[.string (mk a)] w0 fun e w' => e = .returned (.bool (isName a)) ∧ w0 = w') := fun w0 => rname_any a w0 (by omega)
  have HX : Hid (Calls Tryz.prog 76 #[.int .i64 k, .string (mk x)] (w.alloc (.cells #[.int .i64 k, .string (mk x), .string (mk a), .slice ad len cap] 29)) fun e w' => e = .returned (.bool (txt k x)) ∧ Hid (Below w.heap.size w w' ∧ Bx w' w.heap.size #[.int .i64 k, .string (mk x), .string (mk a), .slice ad len cap] 29)) :=
    (rtext9_any k x _ hx).mono (fun e w' g => ⟨g.1, b1.trans (g.2.mono b1.size), n1.later g.2⟩)
  have HB : Hid (Below w.heap.size w (w.alloc (.cells #[.int .i64 k, .string (mk x), .string (mk a), .slice ad len cap] 29))) := b1
  clear b1 n1
  by_cases h1 : 1 ≤ k
  · by_cases h7 : k ≤ 7
    · by_cases hc : a ≠ [] ∨ k = 7
      · cases hn : isName a
        · rw [hn] at HN
          clear HX h
          rcases hc with hc | hc
          · have ec : (a == []) = false := by simpa using hc
            rw [ec] at ea ea2
            clear hn hc ec
            go_enter Tryz.func58, Tryz.ntmps58
            go_wp2_with (go_at_call 75; refine (HN.out _).mono ?_; rintro e w' ⟨rfl, rfl⟩)
            go_ret
            exact ⟨rfl, HB.out⟩
          · subst hc
            cases ec : (a == []) <;> rw [ec] at ea ea2 <;> clear hn ec <;>
            · go_enter Tryz.func58, Tryz.ntmps58
              go_wp2_with (go_at_call 75; refine (HN.out _).mono ?_; rintro e w' ⟨rfl, rfl⟩)
              go_ret
              exact ⟨rfl, HB.out⟩
        · have ht : txt k x = false := by
            unfold hdOk at h
            rw [hn, decide_eq_true h1, decide_eq_true h7] at h
            simpa using h
          rw [hn] at HN
          rw [ht] at HX
          clear h hn ht HB
          rcases hc with hc | hc
          · have ec : (a == []) = false := by simpa using hc
            rw [ec] at ea ea2
            clear hc ec
            go_enter Tryz.func58, Tryz.ntmps58
            go_wp2_with (first | (go_at_call 75; refine (HN.out _).mono ?_; rintro e w' ⟨rfl, rfl⟩) | (go_at_call 76; refine HX.out.mono ?_; rintro e w2 ⟨rfl, H2⟩))
            go_ret
            exact ⟨rfl, H2.out.1⟩
          · subst hc
            cases ec : (a == []) <;> rw [ec] at ea ea2 <;> clear ec <;>
            · go_enter Tryz.func58, Tryz.ntmps58
              go_wp2_with (first | (go_at_call 75; refine (HN.out _).mono ?_; rintro e w' ⟨rfl, rfl⟩) | (go_at_call 76; refine HX.out.mono ?_; rintro e w2 ⟨rfl, H2⟩))
              go_ret
              exact ⟨rfl, H2.out.1⟩
      · have hc2 : a = [] ∧ k ≠ 7 := by
          refine ⟨?_, fun e => hc (.inr e)⟩
          cases a with
          | nil => rfl
          | cons b r => exact absurd (.inl (by simp)) hc
        have ht : txt k x = false := by
          unfold hdOk at h
          rw [decide_eq_true h1, decide_eq_true h7, decide_eq_false hc2.2, hc2.1] at h
          simpa using h
        have ec : (a == []) = true := by rw [hc2.1]; rfl
        have h77 : (k == 7) = false := by simpa using hc2.2
        rw [ec] at ea ea2
        rw [ht] at HX
        clear h hc hc2 ht ec HB HN
        go_enter Tryz.func58, Tryz.ntmps58
        go_wp2_with (go_at_call 76; refine HX.out.mono ?_; rintro e w2 ⟨rfl, H2⟩)
        go_ret
        exact ⟨rfl, H2.out.1⟩
    · have h7' : 7 < k := by omega
      clear h HN HX
      go_enter Tryz.func58, Tryz.ntmps58
      go_wp2
      go_ret
      exact ⟨rfl, HB.out⟩
  · have h1' : k < 1 := by omega
    clear h HN HX
    go_enter Tryz.func58, Tryz.ntmps58
    go_wp2
    go_ret
    exact ⟨rfl, HB.out⟩
/-- a scalar, or an alias -/
theorem rright_leaf (k : Int) (x a : Ln) (ad : Option Addr) (len cap : Nat) (w : World) (deep : Nat) (hd : deep ≤ 64) (hx : x.length ≤ 65536) (ha : a.length ≤ 65536) (h : hdOk k x a = true) (h5 : k ≠ 5) (h6 : k ≠ 6) (hl : len ≤ 9223372036854775807) : Calls Tryz.prog 58 #[.agg #[.int .i64 k, .string (mk x), .string (mk a), .slice ad len cap], .int .i64 (deep : Int)] w fun e w' =>  e = .returned (.bool (decide (len = 0))) ∧ Below w.heap.size w w' := by
  have ea : ((mk a).toList == []) = (a == []) := by rw [ByteArray.toList_eq, mk_data]
  have ea2 : (mk a).toList.isEmpty = (a == []) := by rw [ByteArray.toList_eq, mk_data]; cases a <;> rfl
  have b1 := below_alloc w (.cells #[.int .i64 k, .string (mk x), .string (mk a), .slice ad len cap] 29)
  have n1 := Bx.new w #[.int .i64 k, .string (mk x), .string (mk a), .slice ad len cap] 29
  have HN : Hid (∀ w0, Calls Tryz.prog 75 #[.string (mk a)] w0 fun e w' => e = .returned (.bool (isName a)) ∧ w0 = w') := fun w0 => rname_any a w0 (by omega)
  have HX : Hid (Calls Tryz.prog 76 #[.int .i64 k, .string (mk x)] (w.alloc (.cells #[.int .i64 k, .string (mk x), .string (mk a), .slice ad len cap] 29)) fun e w' => e = .returned (.bool (txt k x)) ∧ Hid (Below w.heap.size w w' ∧ Bx w' w.heap.size #[.int .i64 k, .string (mk x), .string (mk a), .slice ad len cap] 29)) :=
    (rtext9_any k x _ hx).mono (fun e w' g => ⟨g.1, b1.trans (g.2.mono b1.size), n1.later g.2⟩)
  have HB : Hid (Below w.heap.size w (w.alloc (.cells #[.int .i64 k, .string (mk x), .string (mk a), .slice ad len cap] 29))) := b1
  clear b1 n1
  have ht : txt k x = true := by unfold hdOk at h; simp only [Bool.and_eq_true] at h; exact h.2
  have h1 : 1 ≤ k := by unfold hdOk at h; simp only [Bool.and_eq_true, decide_eq_true_eq] at h; exact h.1.1.1
  have h7 : k ≤ 7 := by unfold hdOk at h; simp only [Bool.and_eq_true, decide_eq_true_eq] at h; exact h.1.1.2
  have hc : (a = [] ∧ k ≠ 7) ∨ (a ≠ [] ∧ isName a = true) := by
    unfold hdOk at h
    simp only [Bool.and_eq_true, Bool.or_eq_true, Bool.not_eq_true', decide_eq_false_iff_not, beq_iff_eq] at h
    rcases h.1.2 with e | e
    · exact .inl e
    · refine .inr ⟨?_, e⟩
      rintro rfl
      cases e
  rw [ht] at HX
  have e5 : (k != 5) = true := by simpa using h5
  have e6 : (k != 6) = true := by simpa using h6
  rcases hc with ⟨rfl, hk7⟩ | ⟨hne, hn⟩
  · have h77 : (k == 7) = false := by simpa using hk7
    rw [show (([] : Ln) == []) = true from rfl] at ea ea2
    clear HN h ht
    go_enter Tryz.func58, Tryz.ntmps58
    go_wp2_with (first | (go_at_call 76; refine HX.out.mono ?_; rintro e w2 ⟨rfl, H2⟩; have g0 : w2.cell? ⟨w.heap.size, 0, none⟩ = some (.int .i64 k) := H2.out.2.cell 0; have g1 : w2.cell? ⟨w.heap.size, 1, none⟩ = some (.string (mk x)) := H2.out.2.cell 1; have g2 : w2.cell? ⟨w.heap.size, 2, none⟩ = some (.string (mk [])) := H2.out.2.cell 2; have g3 : w2.cell? ⟨w.heap.size, 3, none⟩ = some (.slice ad len cap) := H2.out.2.cell 3))
    go_ret
    refine ⟨?_, H2.out.1⟩
    by_cases hz : len = 0 <;> simp [hz]
  · have ec : (a == []) = false := by simpa using hne
    rw [ec] at ea ea2
    rw [hn] at HN
    clear h ht hne hn ec
    go_enter Tryz.func58, Tryz.ntmps58
    go_wp2_with (first | (go_at_call 75; refine (HN.out _).mono ?_; rintro e w' ⟨rfl, rfl⟩) | (go_at_call 76; refine HX.out.mono ?_; rintro e w2 ⟨rfl, H2⟩; have g0 : w2.cell? ⟨w.heap.size, 0, none⟩ = some (.int .i64 k) := H2.out.2.cell 0; have g1 : w2.cell? ⟨w.heap.size, 1, none⟩ = some (.string (mk x)) := H2.out.2.cell 1; have g2 : w2.cell? ⟨w.heap.size, 2, none⟩ = some (.string (mk a)) := H2.out.2.cell 2; have g3 : w2.cell? ⟨w.heap.size, 3, none⟩ = some (.slice ad len cap) := H2.out.2.cell 3))
    go_ret
    refine ⟨?_, H2.out.1⟩
    by_cases hz : len = 0 <;> simp [hz]
/-- too deep -/
theorem rright_deep5 (k : Int) (x a : Ln) (ad : Option Addr) (len cap : Nat) (w : World) (deep : Nat) (hd : deep ≤ 64) (hx : x.length ≤ 65536) (ha : a.length ≤ 65536) (h : hdOk k x a = true) (h5 : k = 5) (h64 : deep = 64) : Calls Tryz.prog 58 #[.agg #[.int .i64 k, .string (mk x), .string (mk a), .slice ad len cap], .int .i64 (deep : Int)] w fun e w' =>  e = .returned (.bool false) ∧ Below w.heap.size w w' := by
  have ea : ((mk a).toList == []) = (a == []) := by rw [ByteArray.toList_eq, mk_data]
  have ea2 : (mk a).toList.isEmpty = (a == []) := by rw [ByteArray.toList_eq, mk_data]; cases a <;> rfl
  have b1 := below_alloc w (.cells #[.int .i64 k, .string (mk x), .string (mk a), .slice ad len cap] 29)
  have n1 := Bx.new w #[.int .i64 k, .string (mk x), .string (mk a), .slice ad len cap] 29
  have HN : Hid (∀ w0, Calls Tryz.prog 75 #[.string (mk a)] w0 fun e w' => e = .returned (.bool (isName a)) ∧ w0 = w') := fun w0 => rname_any a w0 (by omega)
  have HX : Hid (Calls Tryz.prog 76 #[.int .i64 k, .string (mk x)] (w.alloc (.cells #[.int .i64 k, .string (mk x), .string (mk a), .slice ad len cap] 29)) fun e w' => e = .returned (.bool (txt k x)) ∧ Hid (Below w.heap.size w w' ∧ Bx w' w.heap.size #[.int .i64 k, .string (mk x), .string (mk a), .slice ad len cap] 29)) :=
    (rtext9_any k x _ hx).mono (fun e w' g => ⟨g.1, b1.trans (g.2.mono b1.size), n1.later g.2⟩)
  have HB : Hid (Below w.heap.size w (w.alloc (.cells #[.int .i64 k, .string (mk x), .string (mk a), .slice ad len cap] 29))) := b1
  clear b1 n1
  have ht : txt k x = true := by unfold hdOk at h; simp only [Bool.and_eq_true] at h; exact h.2
  have h1 : 1 ≤ k := by unfold hdOk at h; simp only [Bool.and_eq_true, decide_eq_true_eq] at h; exact h.1.1.1
  have h7 : k ≤ 7 := by unfold hdOk at h; simp only [Bool.and_eq_true, decide_eq_true_eq] at h; exact h.1.1.2
  have hc : (a = [] ∧ k ≠ 7) ∨ (a ≠ [] ∧ isName a = true) := by
    unfold hdOk at h
    simp only [Bool.and_eq_true, Bool.or_eq_true, Bool.not_eq_true', decide_eq_false_iff_not, beq_iff_eq] at h
    rcases h.1.2 with e | e
    · exact .inl e
    · refine .inr ⟨?_, e⟩
      rintro rfl
      cases e
  rw [ht] at HX
  subst h5 h64
  rcases hc with ⟨rfl, hk7⟩ | ⟨hne, hn⟩
  · have h77 : ((5 : Int) == 7) = false := by decide
    rw [show (([] : Ln) == []) = true from rfl] at ea ea2
    clear HN h ht
    go_enter Tryz.func58, Tryz.ntmps58
    go_wp2_with (first | (go_at_call 76; refine HX.out.mono ?_; rintro e w2 ⟨rfl, H2⟩; have g0 : w2.cell? ⟨w.heap.size, 0, none⟩ = some (.int .i64 5) := H2.out.2.cell 0; have g1 : w2.cell? ⟨w.heap.size, 1, none⟩ = some (.string (mk x)) := H2.out.2.cell 1; have g2 : w2.cell? ⟨w.heap.size, 2, none⟩ = some (.string (mk [])) := H2.out.2.cell 2; have g3 : w2.cell? ⟨w.heap.size, 3, none⟩ = some (.slice ad len cap) := H2.out.2.cell 3))
    go_ret
    exact ⟨rfl, H2.out.1⟩
  · have ec : (a == []) = false := by simpa using hne
    rw [ec] at ea ea2
    rw [hn] at HN
    clear h ht hne hn ec
    go_enter Tryz.func58, Tryz.ntmps58
    go_wp2_with (first | (go_at_call 75; refine (HN.out _).mono ?_; rintro e w' ⟨rfl, rfl⟩) | (go_at_call 76; refine HX.out.mono ?_; rintro e w2 ⟨rfl, H2⟩; have g0 : w2.cell? ⟨w.heap.size, 0, none⟩ = some (.int .i64 5) := H2.out.2.cell 0; have g1 : w2.cell? ⟨w.heap.size, 1, none⟩ = some (.string (mk x)) := H2.out.2.cell 1; have g2 : w2.cell? ⟨w.heap.size, 2, none⟩ = some (.string (mk a)) := H2.out.2.cell 2; have g3 : w2.cell? ⟨w.heap.size, 3, none⟩ = some (.slice ad len cap) := H2.out.2.cell 3))
    go_ret
    exact ⟨rfl, H2.out.1⟩
/-- too deep -/
theorem rright_deep6 (k : Int) (x a : Ln) (ad : Option Addr) (len cap : Nat) (w : World) (deep : Nat) (hd : deep ≤ 64) (hx : x.length ≤ 65536) (ha : a.length ≤ 65536) (h : hdOk k x a = true) (h5 : k = 6) (h64 : deep = 64) : Calls Tryz.prog 58 #[.agg #[.int .i64 k, .string (mk x), .string (mk a), .slice ad len cap], .int .i64 (deep : Int)] w fun e w' =>  e = .returned (.bool false) ∧ Below w.heap.size w w' := by
  have ea : ((mk a).toList == []) = (a == []) := by rw [ByteArray.toList_eq, mk_data]
  have ea2 : (mk a).toList.isEmpty = (a == []) := by rw [ByteArray.toList_eq, mk_data]; cases a <;> rfl
  have b1 := below_alloc w (.cells #[.int .i64 k, .string (mk x), .string (mk a), .slice ad len cap] 29)
  have n1 := Bx.new w #[.int .i64 k, .string (mk x), .string (mk a), .slice ad len cap] 29
  have HN : Hid (∀ w0, Calls Tryz.prog 75 #[.string (mk a)] w0 fun e w' => e = .returned (.bool (isName a)) ∧ w0 = w') := fun w0 => rname_any a w0 (by omega)
  have HX : Hid (Calls Tryz.prog 76 #[.int .i64 k, .string (mk x)] (w.alloc (.cells #[.int .i64 k, .string (mk x), .string (mk a), .slice ad len cap] 29)) fun e w' => e = .returned (.bool (txt k x)) ∧ Hid (Below w.heap.size w w' ∧ Bx w' w.heap.size #[.int .i64 k, .string (mk x), .string (mk a), .slice ad len cap] 29)) :=
    (rtext9_any k x _ hx).mono (fun e w' g => ⟨g.1, b1.trans (g.2.mono b1.size), n1.later g.2⟩)
  have HB : Hid (Below w.heap.size w (w.alloc (.cells #[.int .i64 k, .string (mk x), .string (mk a), .slice ad len cap] 29))) := b1
  clear b1 n1
  have ht : txt k x = true := by unfold hdOk at h; simp only [Bool.and_eq_true] at h; exact h.2
  have h1 : 1 ≤ k := by unfold hdOk at h; simp only [Bool.and_eq_true, decide_eq_true_eq] at h; exact h.1.1.1
  have h7 : k ≤ 7 := by unfold hdOk at h; simp only [Bool.and_eq_true, decide_eq_true_eq] at h; exact h.1.1.2
  have hc : (a = [] ∧ k ≠ 7) ∨ (a ≠ [] ∧ isName a = true) := by
    unfold hdOk at h
    simp only [Bool.and_eq_true, Bool.or_eq_true, Bool.not_eq_true', decide_eq_false_iff_not, beq_iff_eq] at h
    rcases h.1.2 with e | e
    · exact .inl e
    · refine .inr ⟨?_, e⟩
      rintro rfl
      cases e
  rw [ht] at HX
  subst h5 h64
  rcases hc with ⟨rfl, hk7⟩ | ⟨hne, hn⟩
  · have h77 : ((6 : Int) == 7) = false := by decide
    rw [show (([] : Ln) == []) = true from rfl] at ea ea2
    clear HN h ht
    go_enter Tryz.func58, Tryz.ntmps58
    go_wp2_with (first | (go_at_call 76; refine HX.out.mono ?_; rintro e w2 ⟨rfl, H2⟩; have g0 : w2.cell? ⟨w.heap.size, 0, none⟩ = some (.int .i64 6) := H2.out.2.cell 0; have g1 : w2.cell? ⟨w.heap.size, 1, none⟩ = some (.string (mk x)) := H2.out.2.cell 1; have g2 : w2.cell? ⟨w.heap.size, 2, none⟩ = some (.string (mk [])) := H2.out.2.cell 2; have g3 : w2.cell? ⟨w.heap.size, 3, none⟩ = some (.slice ad len cap) := H2.out.2.cell 3))
    go_ret
    exact ⟨rfl, H2.out.1⟩
  · have ec : (a == []) = false := by simpa using hne
    rw [ec] at ea ea2
    rw [hn] at HN
    clear h ht hne hn ec
    go_enter Tryz.func58, Tryz.ntmps58
    go_wp2_with (first | (go_at_call 75; refine (HN.out _).mono ?_; rintro e w' ⟨rfl, rfl⟩) | (go_at_call 76; refine HX.out.mono ?_; rintro e w2 ⟨rfl, H2⟩; have g0 : w2.cell? ⟨w.heap.size, 0, none⟩ = some (.int .i64 6) := H2.out.2.cell 0; have g1 : w2.cell? ⟨w.heap.size, 1, none⟩ = some (.string (mk x)) := H2.out.2.cell 1; have g2 : w2.cell? ⟨w.heap.size, 2, none⟩ = some (.string (mk a)) := H2.out.2.cell 2; have g3 : w2.cell? ⟨w.heap.size, 3, none⟩ = some (.slice ad len cap) := H2.out.2.cell 3))
    go_ret
    exact ⟨rfl, H2.out.1⟩
/-- a map of an odd number -/
theorem rright_odd (k : Int) (x a : Ln) (ad : Option Addr) (len cap : Nat) (w : World) (deep : Nat) (hd : deep ≤ 64) (hx : x.length ≤ 65536) (ha : a.length ≤ 65536) (h : hdOk k x a = true) (h5 : k = 6) (h64 : deep < 64) (hl : len ≤ 9223372036854775807) (ho : len % 2 = 1) : Calls Tryz.prog 58 #[.agg #[.int .i64 k, .string (mk x), .string (mk a), .slice ad len cap], .int .i64 (deep : Int)] w fun e w' =>  e = .returned (.bool false) ∧ Below w.heap.size w w' := by
  have ea : ((mk a).toList == []) = (a == []) := by rw [ByteArray.toList_eq, mk_data]
  have ea2 : (mk a).toList.isEmpty = (a == []) := by rw [ByteArray.toList_eq, mk_data]; cases a <;> rfl
  have b1 := below_alloc w (.cells #[.int .i64 k, .string (mk x), .string (mk a), .slice ad len cap] 29)
  have n1 := Bx.new w #[.int .i64 k, .string (mk x), .string (mk a), .slice ad len cap] 29
  have HN : Hid (∀ w0, Calls Tryz.prog 75 #[.string (mk a)] w0 fun e w' => e = .returned (.bool (isName a)) ∧ w0 = w') := fun w0 => rname_any a w0 (by omega)
  have HX : Hid (Calls Tryz.prog 76 #[.int .i64 k, .string (mk x)] (w.alloc (.cells #[.int .i64 k, .string (mk x), .string (mk a), .slice ad len cap] 29)) fun e w' => e = .returned (.bool (txt k x)) ∧ Hid (Below w.heap.size w w' ∧ Bx w' w.heap.size #[.int .i64 k, .string (mk x), .string (mk a), .slice ad len cap] 29)) :=
    (rtext9_any k x _ hx).mono (fun e w' g => ⟨g.1, b1.trans (g.2.mono b1.size), n1.later g.2⟩)
  have HB : Hid (Below w.heap.size w (w.alloc (.cells #[.int .i64 k, .string (mk x), .string (mk a), .slice ad len cap] 29))) := b1
  clear b1 n1
  have ht : txt k x = true := by unfold hdOk at h; simp only [Bool.and_eq_true] at h; exact h.2
  have h1 : 1 ≤ k := by unfold hdOk at h; simp only [Bool.and_eq_true, decide_eq_true_eq] at h; exact h.1.1.1
  have h7 : k ≤ 7 := by unfold hdOk at h; simp only [Bool.and_eq_true, decide_eq_true_eq] at h; exact h.1.1.2
  have hc : (a = [] ∧ k ≠ 7) ∨ (a ≠ [] ∧ isName a = true) := by
    unfold hdOk at h
    simp only [Bool.and_eq_true, Bool.or_eq_true, Bool.not_eq_true', decide_eq_false_iff_not, beq_iff_eq] at h
    rcases h.1.2 with e | e
    · exact .inl e
    · refine .inr ⟨?_, e⟩
      rintro rfl
      cases e
  rw [ht] at HX
  subst h5
  have ho2 : (len : Int) % 2 = 1 := by omega
  rcases hc with ⟨rfl, hk7⟩ | ⟨hne, hn⟩
  · have h77 : ((6 : Int) == 7) = false := by decide
    rw [show (([] : Ln) == []) = true from rfl] at ea ea2
    clear HN h ht
    go_enter Tryz.func58, Tryz.ntmps58
    go_wp2_with (first | (go_at_call 76; refine HX.out.mono ?_; rintro e w2 ⟨rfl, H2⟩; have g0 : w2.cell? ⟨w.heap.size, 0, none⟩ = some (.int .i64 6) := H2.out.2.cell 0; have g1 : w2.cell? ⟨w.heap.size, 1, none⟩ = some (.string (mk x)) := H2.out.2.cell 1; have g2 : w2.cell? ⟨w.heap.size, 2, none⟩ = some (.string (mk [])) := H2.out.2.cell 2; have g3 : w2.cell? ⟨w.heap.size, 3, none⟩ = some (.slice ad len cap) := H2.out.2.cell 3))
    go_ret
    exact ⟨rfl, H2.out.1⟩
  · have ec : (a == []) = false := by simpa using hne
    rw [ec] at ea ea2
    rw [hn] at HN
    clear h ht hne hn ec
    go_enter Tryz.func58, Tryz.ntmps58
    go_wp2_with (first | (go_at_call 75; refine (HN.out _).mono ?_; rintro e w' ⟨rfl, rfl⟩) | (go_at_call 76; refine HX.out.mono ?_; rintro e w2 ⟨rfl, H2⟩; have g0 : w2.cell? ⟨w.heap.size, 0, none⟩ = some (.int .i64 6) := H2.out.2.cell 0; have g1 : w2.cell? ⟨w.heap.size, 1, none⟩ = some (.string (mk x)) := H2.out.2.cell 1; have g2 : w2.cell? ⟨w.heap.size, 2, none⟩ = some (.string (mk a)) := H2.out.2.cell 2; have g3 : w2.cell? ⟨w.heap.size, 3, none⟩ = some (.slice ad len cap) := H2.out.2.cell 3))
    go_ret
    exact ⟨rfl, H2.out.1⟩
/-- the kids -/
theorem rright_kids5 (k : Int) (x a : Ln) (ad : Option Addr) (len cap : Nat) (w : World) (deep : Nat) (hd : deep ≤ 64) (hx : x.length ≤ 65536) (ha : a.length ≤ 65536) (h : hdOk k x a = true) (h5 : k = 5) (h64 : deep < 64) (hl : len ≤ 9223372036854775807) (HEV : True) (d : Nat) (ks : List Tr) (HK : Hid (KAt w d ad len ks)) (P : Prop) (HPP : Hid (P ↔ ∀ j, j < len → (k = 6 → j % 2 = 0 → Flw.isKey (ks.getD j tr0) = true) ∧ rgt (63 - deep) (ks.getD j tr0) = true))
    (HI : Hid (∀ v w1 j, j < len → Below w.heap.size w w1 → TrV w1 d v (ks.getD j tr0) → Calls Tryz.prog 58 #[v, .int .i64 ((deep : Int) + 1)] w1 fun e w' => ∃ q : Bool, e = .returned (.bool q) ∧ (q = true ↔ rgt (63 - deep) (ks.getD j tr0) = true) ∧ Below w1.heap.size w1 w')) :
    Calls Tryz.prog 58 #[.agg #[.int .i64 k, .string (mk x), .string (mk a), .slice ad len cap], .int .i64 (deep : Int)] w fun e w' =>  RgRes P w e w' := by
  have ea : ((mk a).toList == []) = (a == []) := by rw [ByteArray.toList_eq, mk_data]
  have ea2 : (mk a).toList.isEmpty = (a == []) := by rw [ByteArray.toList_eq, mk_data]; cases a <;> rfl
  have b1 := below_alloc w (.cells #[.int .i64 k, .string (mk x), .string (mk a), .slice ad len cap] 29)
  have n1 := Bx.new w #[.int .i64 k, .string (mk x), .string (mk a), .slice ad len cap] 29
  have HN : Hid (∀ w0, Calls Tryz.prog 75 #[.string (mk a)] w0 fun e w' => e = .returned (.bool (isName a)) ∧ w0 = w') := fun w0 => rname_any a w0 (by omega)
  have HX : Hid (Calls Tryz.prog 76 #[.int .i64 k, .string (mk x)] (w.alloc (.cells #[.int .i64 k, .string (mk x), .string (mk a), .slice ad len cap] 29)) fun e w' => e = .returned (.bool (txt k x)) ∧ Hid (Below w.heap.size w w' ∧ Bx w' w.heap.size #[.int .i64 k, .string (mk x), .string (mk a), .slice ad len cap] 29)) :=
    (rtext9_any k x _ hx).mono (fun e w' g => ⟨g.1, b1.trans (g.2.mono b1.size), n1.later g.2⟩)
  have HB : Hid (Below w.heap.size w (w.alloc (.cells #[.int .i64 k, .string (mk x), .string (mk a), .slice ad len cap] 29))) := b1
  clear b1 n1
  have ht : txt k x = true := by unfold hdOk at h; simp only [Bool.and_eq_true] at h; exact h.2
  have h1 : 1 ≤ k := by unfold hdOk at h; simp only [Bool.and_eq_true, decide_eq_true_eq] at h; exact h.1.1.1
  have h7 : k ≤ 7 := by unfold hdOk at h; simp only [Bool.and_eq_true, decide_eq_true_eq] at h; exact h.1.1.2
  have hc : (a = [] ∧ k ≠ 7) ∨ (a ≠ [] ∧ isName a = true) := by
    unfold hdOk at h
    simp only [Bool.and_eq_true, Bool.or_eq_true, Bool.not_eq_true', decide_eq_false_iff_not, beq_iff_eq] at h
    rcases h.1.2 with e | e
    · exact .inl e
    · refine .inr ⟨?_, e⟩
      rintro rfl
      cases e
  rw [ht] at HX
  subst h5
  rcases hc with ⟨rfl, hk7⟩ | ⟨hne, hn⟩
  · have h77 : ((5 : Int) == 7) = false := by decide
    rw [show (([] : Ln) == []) = true from rfl] at ea ea2
    clear HN h ht
    go_enter Tryz.func58, Tryz.ntmps58
    go_wp2_with (first | (go_at_call 76; refine HX.out.mono ?_; rintro e w2 ⟨rfl, H2⟩; have g0 : w2.cell? ⟨w.heap.size, 0, none⟩ = some (.int .i64 5) := H2.out.2.cell 0; have g1 : w2.cell? ⟨w.heap.size, 1, none⟩ = some (.string (mk x)) := H2.out.2.cell 1; have g2 : w2.cell? ⟨w.heap.size, 2, none⟩ = some (.string (mk [])) := H2.out.2.cell 2; have g3 : w2.cell? ⟨w.heap.size, 3, none⟩ = some (.slice ad len cap) := H2.out.2.cell 3))
    have HR0 : Hid (Below w.heap.size w w2 ∧ Bx w2 w.heap.size #[.int .i64 5, .string (mk x), .string (mk []), .slice ad len cap] 29) := H2.out
    clear H2 g0 g1 g2 g3
    obtain ⟨K0, hK0⟩ : ∃ K0, K0 = w.heap.size := ⟨_, rfl⟩
    rw [← hK0] at HR0 ⊢
    replace hK0 : Hid (K0 = w.heap.size) := hK0
    replace HR0 : Hid (Below w.heap.size w w2 ∧ Bx w2 K0 #[.int .i64 5, .string (mk x), .string (mk []), .slice ad len cap] 29) := by rw [← hK0.out]; exact HR0
    go_loopw [5] (fun i wr => ∃ j : Nat, j ≤ len ∧ i = .int .i64 (j : Int) ∧ Hid (Below w.heap.size w wr ∧ Bx wr K0 #[.int .i64 5, .string (mk x), .string (mk []), .slice ad len cap] 29 ∧ ∀ i, i < j → ((5 : Int) = 6 → i % 2 = 0 → Flw.isKey (ks.getD i tr0) = true) ∧ rgt (63 - deep) (ks.getD i tr0) = true)) (fun i _ => len - (intOf i).toNat)
    case atStart => exact ⟨0, Nat.zero_le _, rfl, HR0.out.1, HR0.out.2, fun i hi => absurd hi (Nat.not_lt_zero _)⟩
    case round =>
      obtain ⟨j, hj, rfl, HR⟩ := hrel
      have y0 : wr.cell? ⟨K0, 0, none⟩ = some (.int .i64 5) := HR.out.2.1.cell 0
      have y3 : wr.cell? ⟨K0, 3, none⟩ = some (.slice ad len cap) := HR.out.2.1.cell 3
      by_cases hlt : j < len
      · obtain ⟨b, off, had, hb, hcell⟩ := HK.out.2 (by omega)
        rw [had] at y3
        replace had : Hid (ad = some ⟨b, off, none⟩) := had
        obtain ⟨c0, c1, c2, c3, x0, x1, x2, x3, hxx⟩ := hcell j hlt
        obtain ⟨ad1, len1, cap1, rfl, rfl, rfl, rfl⟩ := hxx.four
        replace x0 := (HR.out.1.cell (p := ⟨b, off + j * 4, none⟩) hb).trans x0
        replace x1 := (HR.out.1.cell (p := ⟨b, off + j * 4 + 1, none⟩) hb).trans x1
        replace x2 := (HR.out.1.cell (p := ⟨b, off + j * 4 + 2, none⟩) hb).trans x2
        replace x3 := (HR.out.1.cell (p := ⟨b, off + j * 4 + 3, none⟩) hb).trans x3
        have hBA := HR.out.1.alloc HR.out.1.size (.cells #[.int .i64 (ks.getD j tr0).kind, .string (mk (ks.getD j tr0).text), .string (mk (ks.getD j tr0).anc), .slice ad1 len1 cap1] 29)
        have HBA : Hid (Below w.heap.size w (wr.alloc (.cells #[.int .i64 (ks.getD j tr0).kind, .string (mk (ks.getD j tr0).text), .string (mk (ks.getD j tr0).anc), .slice ad1 len1 cap1] 29))) := hBA
        have hbx : Bx (wr.alloc (.cells #[.int .i64 (ks.getD j tr0).kind, .string (mk (ks.getD j tr0).text), .string (mk (ks.getD j tr0).anc), .slice ad1 len1 cap1] 29)) K0 #[.int .i64 5, .string (mk x), .string (mk []), .slice ad len cap] 29 := HR.out.2.1.later (below_alloc wr _)
        have HC : Hid (Calls Tryz.prog 58 #[.agg #[.int .i64 (ks.getD j tr0).kind, .string (mk (ks.getD j tr0).text), .string (mk (ks.getD j tr0).anc), .slice ad1 len1 cap1], .int .i64 ((deep : Int) + 1)] (wr.alloc (.cells #[.int .i64 (ks.getD j tr0).kind, .string (mk (ks.getD j tr0).text), .string (mk (ks.getD j tr0).anc), .slice ad1 len1 cap1] 29)) fun e w' => ∃ q : Bool, e = .returned (.bool q) ∧ Hid ((q = true ↔ rgt (63 - deep) (ks.getD j tr0) = true) ∧ Below w.heap.size w w' ∧ Bx w' K0 #[.int .i64 5, .string (mk x), .string (mk []), .slice ad len cap] 29)) :=
          (HI.out _ _ j hlt hBA (hxx.later hBA (Nat.le_refl _))).mono (fun e w' g => by
            obtain ⟨q, e1, hq, hb2⟩ := g
            exact ⟨q, e1, hq, hBA.trans (hb2.mono hBA.size), hbx.later hb2⟩)
        have HKEY : Hid (Flw.isKey (ks.getD j tr0) = (decide (1 ≤ (ks.getD j tr0).kind) && decide ((ks.getD j tr0).kind ≤ 4) && (ks.getD j tr0).anc == [])) := rfl
        have z0 : (wr.alloc (.cells #[.int .i64 (ks.getD j tr0).kind, .string (mk (ks.getD j tr0).text), .string (mk (ks.getD j tr0).anc), .slice ad1 len1 cap1] 29)).cell? ⟨K0, 0, none⟩ = some (.int .i64 5) := hbx.cell 0
        clear hcell hxx hBA hbx
        generalize (ks.getD j tr0).kind = kk at *
        generalize (ks.getD j tr0).text = kx at *
        generalize (ks.getD j tr0).anc = ka at *
        have HC2 := HC.out
        go_wp2_with fail
        refine HC2.mono ?_
        rintro e w4 ⟨q, rfl, H4⟩
        cases q
        · go_wp2
          go_ret
          exact ⟨false, rfl, ⟨fun h => (by cases h), fun h => absurd (H4.out.1.2 (HPP.out.1 h j hlt).2) (by decide)⟩, H4.out.2.1⟩
        · go_wp2
          go_roundw
          case rel => exact ⟨j + 1, by omega, by go_num, H4.out.2.1, H4.out.2.2, fun i hi => by
            by_cases e : i = j
            · subst e
              exact ⟨fun h => absurd h (by decide), H4.out.1.1 (by first | rfl | trivial)⟩
            · exact HR.out.2.2 i (by omega)⟩
          case measure => simp [intOf]; omega
      · have HP : Hid (∀ j, j < len → ((5 : Int) = 6 → j % 2 = 0 → Flw.isKey (ks.getD j tr0) = true) ∧ rgt (63 - deep) (ks.getD j tr0) = true) := fun i hi => HR.out.2.2 i (by omega)
        have HBB : Hid (Below w.heap.size w wr) := HR.out.1
        go_wp2
        go_ret
        exact ⟨true, rfl, ⟨fun _ => HPP.out.2 HP.out, fun _ => rfl⟩, HBB.out⟩
  · have ec : (a == []) = false := by simpa using hne
    rw [ec] at ea ea2
    rw [hn] at HN
    clear h ht hne hn ec
    go_enter Tryz.func58, Tryz.ntmps58
    go_wp2_with (first | (go_at_call 75; refine (HN.out _).mono ?_; rintro e w' ⟨rfl, rfl⟩) | (go_at_call 76; refine HX.out.mono ?_; rintro e w2 ⟨rfl, H2⟩; have g0 : w2.cell? ⟨w.heap.size, 0, none⟩ = some (.int .i64 5) := H2.out.2.cell 0; have g1 : w2.cell? ⟨w.heap.size, 1, none⟩ = some (.string (mk x)) := H2.out.2.cell 1; have g2 : w2.cell? ⟨w.heap.size, 2, none⟩ = some (.string (mk a)) := H2.out.2.cell 2; have g3 : w2.cell? ⟨w.heap.size, 3, none⟩ = some (.slice ad len cap) := H2.out.2.cell 3))
    have HR0 : Hid (Below w.heap.size w w2 ∧ Bx w2 w.heap.size #[.int .i64 5, .string (mk x), .string (mk a), .slice ad len cap] 29) := H2.out
    clear H2 g0 g1 g2 g3
    obtain ⟨K0, hK0⟩ : ∃ K0, K0 = w.heap.size := ⟨_, rfl⟩
    rw [← hK0] at HR0 ⊢
    replace hK0 : Hid (K0 = w.heap.size) := hK0
    replace HR0 : Hid (Below w.heap.size w w2 ∧ Bx w2 K0 #[.int .i64 5, .string (mk x), .string (mk a), .slice ad len cap] 29) := by rw [← hK0.out]; exact HR0
    go_loopw [5] (fun i wr => ∃ j : Nat, j ≤ len ∧ i = .int .i64 (j : Int) ∧ Hid (Below w.heap.size w wr ∧ Bx wr K0 #[.int .i64 5, .string (mk x), .string (mk a), .slice ad len cap] 29 ∧ ∀ i, i < j → ((5 : Int) = 6 → i % 2 = 0 → Flw.isKey (ks.getD i tr0) = true) ∧ rgt (63 - deep) (ks.getD i tr0) = true)) (fun i _ => len - (intOf i).toNat)
    case atStart => exact ⟨0, Nat.zero_le _, rfl, HR0.out.1, HR0.out.2, fun i hi => absurd hi (Nat.not_lt_zero _)⟩
    case round =>
      obtain ⟨j, hj, rfl, HR⟩ := hrel
      have y0 : wr.cell? ⟨K0, 0, none⟩ = some (.int .i64 5) := HR.out.2.1.cell 0
      have y3 : wr.cell? ⟨K0, 3, none⟩ = some (.slice ad len cap) := HR.out.2.1.cell 3
      by_cases hlt : j < len
      · obtain ⟨b, off, had, hb, hcell⟩ := HK.out.2 (by omega)
        rw [had] at y3
        replace had : Hid (ad = some ⟨b, off, none⟩) := had
        obtain ⟨c0, c1, c2, c3, x0, x1, x2, x3, hxx⟩ := hcell j hlt
        obtain ⟨ad1, len1, cap1, rfl, rfl, rfl, rfl⟩ := hxx.four
        replace x0 := (HR.out.1.cell (p := ⟨b, off + j * 4, none⟩) hb).trans x0
        replace x1 := (HR.out.1.cell (p := ⟨b, off + j * 4 + 1, none⟩) hb).trans x1
        replace x2 := (HR.out.1.cell (p := ⟨b, off + j * 4 + 2, none⟩) hb).trans x2
        replace x3 := (HR.out.1.cell (p := ⟨b, off + j * 4 + 3, none⟩) hb).trans x3
        have hBA := HR.out.1.alloc HR.out.1.size (.cells #[.int .i64 (ks.getD j tr0).kind, .string (mk (ks.getD j tr0).text), .string (mk (ks.getD j tr0).anc), .slice ad1 len1 cap1] 29)
        have HBA : Hid (Below w.heap.size w (wr.alloc (.cells #[.int .i64 (ks.getD j tr0).kind, .string (mk (ks.getD j tr0).text), .string (mk (ks.getD j tr0).anc), .slice ad1 len1 cap1] 29))) := hBA
        have hbx : Bx (wr.alloc (.cells #[.int .i64 (ks.getD j tr0).kind, .string (mk (ks.getD j tr0).text), .string (mk (ks.getD j tr0).anc), .slice ad1 len1 cap1] 29)) K0 #[.int .i64 5, .string (mk x), .string (mk a), .slice ad len cap] 29 := HR.out.2.1.later (below_alloc wr _)
        have HC : Hid (Calls Tryz.prog 58 #[.agg #[.int .i64 (ks.getD j tr0).kind, .string (mk (ks.getD j tr0).text), .string (mk (ks.getD j tr0).anc), .slice ad1 len1 cap1], .int .i64 ((deep : Int) + 1)] (wr.alloc (.cells #[.int .i64 (ks.getD j tr0).kind, .string (mk (ks.getD j tr0).text), .string (mk (ks.getD j tr0).anc), .slice ad1 len1 cap1] 29)) fun e w' => ∃ q : Bool, e = .returned (.bool q) ∧ Hid ((q = true ↔ rgt (63 - deep) (ks.getD j tr0) = true) ∧ Below w.heap.size w w' ∧ Bx w' K0 #[.int .i64 5, .string (mk x), .string (mk a), .slice ad len cap] 29)) :=
          (HI.out _ _ j hlt hBA (hxx.later hBA (Nat.le_refl _))).mono (fun e w' g => by
            obtain ⟨q, e1, hq, hb2⟩ := g
            exact ⟨q, e1, hq, hBA.trans (hb2.mono hBA.size), hbx.later hb2⟩)
        have HKEY : Hid (Flw.isKey (ks.getD j tr0) = (decide (1 ≤ (ks.getD j tr0).kind) && decide ((ks.getD j tr0).kind ≤ 4) && (ks.getD j tr0).anc == [])) := rfl
        have z0 : (wr.alloc (.cells #[.int .i64 (ks.getD j tr0).kind, .string (mk (ks.getD j tr0).text), .string (mk (ks.getD j tr0).anc), .slice ad1 len1 cap1] 29)).cell? ⟨K0, 0, none⟩ = some (.int .i64 5) := hbx.cell 0
        clear hcell hxx hBA hbx
        generalize (ks.getD j tr0).kind = kk at *
        generalize (ks.getD j tr0).text = kx at *
        generalize (ks.getD j tr0).anc = ka at *
        have HC2 := HC.out
        go_wp2_with fail
        refine HC2.mono ?_
        rintro e w4 ⟨q, rfl, H4⟩
        cases q
        · go_wp2
          go_ret
          exact ⟨false, rfl, ⟨fun h => (by cases h), fun h => absurd (H4.out.1.2 (HPP.out.1 h j hlt).2) (by decide)⟩, H4.out.2.1⟩
        · go_wp2
          go_roundw
          case rel => exact ⟨j + 1, by omega, by go_num, H4.out.2.1, H4.out.2.2, fun i hi => by
            by_cases e : i = j
            · subst e
              exact ⟨fun h => absurd h (by decide), H4.out.1.1 (by first | rfl | trivial)⟩
            · exact HR.out.2.2 i (by omega)⟩
          case measure => simp [intOf]; omega
      · have HP : Hid (∀ j, j < len → ((5 : Int) = 6 → j % 2 = 0 → Flw.isKey (ks.getD j tr0) = true) ∧ rgt (63 - deep) (ks.getD j tr0) = true) := fun i hi => HR.out.2.2 i (by omega)
        have HBB : Hid (Below w.heap.size w wr) := HR.out.1
        go_wp2
        go_ret
        exact ⟨true, rfl, ⟨fun _ => HPP.out.2 HP.out, fun _ => rfl⟩, HBB.out⟩
/-- the kids -/
theorem rright_kids6 (k : Int) (x a : Ln) (ad : Option Addr) (len cap : Nat) (w : World) (deep : Nat) (hd : deep ≤ 64) (hx : x.length ≤ 65536) (ha : a.length ≤ 65536) (h : hdOk k x a = true) (h5 : k = 6) (h64 : deep < 64) (hl : len ≤ 9223372036854775807) (HEV : len % 2 = 0) (d : Nat) (ks : List Tr) (HK : Hid (KAt w d ad len ks)) (P : Prop) (HPP : Hid (P ↔ ∀ j, j < len → (k = 6 → j % 2 = 0 → Flw.isKey (ks.getD j tr0) = true) ∧ rgt (63 - deep) (ks.getD j tr0) = true))
    (HI : Hid (∀ v w1 j, j < len → Below w.heap.size w w1 → TrV w1 d v (ks.getD j tr0) → Calls Tryz.prog 58 #[v, .int .i64 ((deep : Int) + 1)] w1 fun e w' => ∃ q : Bool, e = .returned (.bool q) ∧ (q = true ↔ rgt (63 - deep) (ks.getD j tr0) = true) ∧ Below w1.heap.size w1 w')) :
    Calls Tryz.prog 58 #[.agg #[.int .i64 k, .string (mk x), .string (mk a), .slice ad len cap], .int .i64 (deep : Int)] w fun e w' =>  RgRes P w e w' := by
  have ea : ((mk a).toList == []) = (a == []) := by rw [ByteArray.toList_eq, mk_data]
  have ea2 : (mk a).toList.isEmpty = (a == []) := by rw [ByteArray.toList_eq, mk_data]; cases a <;> rfl
  have b1 := below_alloc w (.cells #[.int .i64 k, .string (mk x), .string (mk a), .slice ad len cap] 29)
  have n1 := Bx.new w #[.int .i64 k, .string (mk x), .string (mk a), .slice ad len cap] 29
  have HN : Hid (∀ w0, Calls Tryz.prog 75 #[.string (mk a)] w0 fun e w' => e = .returned (.bool (isName a)) ∧ w0 = w') := fun w0 => rname_any a w0 (by omega)
  have HX : Hid (Calls Tryz.prog 76 #[.int .i64 k, .string (mk x)] (w.alloc (.cells #[.int .i64 k, .string (mk x), .string (mk a), .slice ad len cap] 29)) fun e w' => e = .returned (.bool (txt k x)) ∧ Hid (Below w.heap.size w w' ∧ Bx w' w.heap.size #[.int .i64 k, .string (mk x), .string (mk a), .slice ad len cap] 29)) :=
    (rtext9_any k x _ hx).mono (fun e w' g => ⟨g.1, b1.trans (g.2.mono b1.size), n1.later g.2⟩)
  have HB : Hid (Below w.heap.size w (w.alloc (.cells #[.int .i64 k, .string (mk x), .string (mk a), .slice ad len cap] 29))) := b1
  clear b1 n1
  have ht : txt k x = true := by unfold hdOk at h; simp only [Bool.and_eq_true] at h; exact h.2
  have h1 : 1 ≤ k := by unfold hdOk at h; simp only [Bool.and_eq_true, decide_eq_true_eq] at h; exact h.1.1.1
  have h7 : k ≤ 7 := by unfold hdOk at h; simp only [Bool.and_eq_true, decide_eq_true_eq] at h; exact h.1.1.2
  have hc : (a = [] ∧ k ≠ 7) ∨ (a ≠ [] ∧ isName a = true) := by
    unfold hdOk at h
    simp only [Bool.and_eq_true, Bool.or_eq_true, Bool.not_eq_true', decide_eq_false_iff_not, beq_iff_eq] at h
    rcases h.1.2 with e | e
    · exact .inl e
    · refine .inr ⟨?_, e⟩
      rintro rfl
      cases e
  rw [ht] at HX
  subst h5
  have hev2 : (len : Int) % 2 = 0 := by omega
  rcases hc with ⟨rfl, hk7⟩ | ⟨hne, hn⟩
  · have h77 : ((6 : Int) == 7) = false := by decide
    rw [show (([] : Ln) == []) = true from rfl] at ea ea2
    clear HN h ht
    go_enter Tryz.func58, Tryz.ntmps58
    go_wp2_with (first | (go_at_call 76; refine HX.out.mono ?_; rintro e w2 ⟨rfl, H2⟩; have g0 : w2.cell? ⟨w.heap.size, 0, none⟩ = some (.int .i64 6) := H2.out.2.cell 0; have g1 : w2.cell? ⟨w.heap.size, 1, none⟩ = some (.string (mk x)) := H2.out.2.cell 1; have g2 : w2.cell? ⟨w.heap.size, 2, none⟩ = some (.string (mk [])) := H2.out.2.cell 2; have g3 : w2.cell? ⟨w.heap.size, 3, none⟩ = some (.slice ad len cap) := H2.out.2.cell 3))
    have HR0 : Hid (Below w.heap.size w w2 ∧ Bx w2 w.heap.size #[.int .i64 6, .string (mk x), .string (mk []), .slice ad len cap] 29) := H2.out
    clear H2 g0 g1 g2 g3
    obtain ⟨K0, hK0⟩ : ∃ K0, K0 = w.heap.size := ⟨_, rfl⟩
    rw [← hK0] at HR0 ⊢
    replace hK0 : Hid (K0 = w.heap.size) := hK0
    replace HR0 : Hid (Below w.heap.size w w2 ∧ Bx w2 K0 #[.int .i64 6, .string (mk x), .string (mk []), .slice ad len cap] 29) := by rw [← hK0.out]; exact HR0
    go_loopw [5] (fun i wr => ∃ j : Nat, j ≤ len ∧ i = .int .i64 (j : Int) ∧ Hid (Below w.heap.size w wr ∧ Bx wr K0 #[.int .i64 6, .string (mk x), .string (mk []), .slice ad len cap] 29 ∧ ∀ i, i < j → ((6 : Int) = 6 → i % 2 = 0 → Flw.isKey (ks.getD i tr0) = true) ∧ rgt (63 - deep) (ks.getD i tr0) = true)) (fun i _ => len - (intOf i).toNat)
    case atStart => exact ⟨0, Nat.zero_le _, rfl, HR0.out.1, HR0.out.2, fun i hi => absurd hi (Nat.not_lt_zero _)⟩
    case round =>
      obtain ⟨j, hj, rfl, HR⟩ := hrel
      have y0 : wr.cell? ⟨K0, 0, none⟩ = some (.int .i64 6) := HR.out.2.1.cell 0
      have y3 : wr.cell? ⟨K0, 3, none⟩ = some (.slice ad len cap) := HR.out.2.1.cell 3
      by_cases hlt : j < len
      · obtain ⟨b, off, had, hb, hcell⟩ := HK.out.2 (by omega)
        rw [had] at y3
        replace had : Hid (ad = some ⟨b, off, none⟩) := had
        obtain ⟨c0, c1, c2, c3, x0, x1, x2, x3, hxx⟩ := hcell j hlt
        obtain ⟨ad1, len1, cap1, rfl, rfl, rfl, rfl⟩ := hxx.four
        replace x0 := (HR.out.1.cell (p := ⟨b, off + j * 4, none⟩) hb).trans x0
        replace x1 := (HR.out.1.cell (p := ⟨b, off + j * 4 + 1, none⟩) hb).trans x1
        replace x2 := (HR.out.1.cell (p := ⟨b, off + j * 4 + 2, none⟩) hb).trans x2
        replace x3 := (HR.out.1.cell (p := ⟨b, off + j * 4 + 3, none⟩) hb).trans x3
        have hBA := HR.out.1.alloc HR.out.1.size (.cells #[.int .i64 (ks.getD j tr0).kind, .string (mk (ks.getD j tr0).text), .string (mk (ks.getD j tr0).anc), .slice ad1 len1 cap1] 29)
        have HBA : Hid (Below w.heap.size w (wr.alloc (.cells #[.int .i64 (ks.getD j tr0).kind, .string (mk (ks.getD j tr0).text), .string (mk (ks.getD j tr0).anc), .slice ad1 len1 cap1] 29))) := hBA
        have hbx : Bx (wr.alloc (.cells #[.int .i64 (ks.getD j tr0).kind, .string (mk (ks.getD j tr0).text), .string (mk (ks.getD j tr0).anc), .slice ad1 len1 cap1] 29)) K0 #[.int .i64 6, .string (mk x), .string (mk []), .slice ad len cap] 29 := HR.out.2.1.later (below_alloc wr _)
        have HC : Hid (Calls Tryz.prog 58 #[.agg #[.int .i64 (ks.getD j tr0).kind, .string (mk (ks.getD j tr0).text), .string (mk (ks.getD j tr0).anc), .slice ad1 len1 cap1], .int .i64 ((deep : Int) + 1)] (wr.alloc (.cells #[.int .i64 (ks.getD j tr0).kind, .string (mk (ks.getD j tr0).text), .string (mk (ks.getD j tr0).anc), .slice ad1 len1 cap1] 29)) fun e w' => ∃ q : Bool, e = .returned (.bool q) ∧ Hid ((q = true ↔ rgt (63 - deep) (ks.getD j tr0) = true) ∧ Below w.heap.size w w' ∧ Bx w' K0 #[.int .i64 6, .string (mk x), .string (mk []), .slice ad len cap] 29)) :=
          (HI.out _ _ j hlt hBA (hxx.later hBA (Nat.le_refl _))).mono (fun e w' g => by
            obtain ⟨q, e1, hq, hb2⟩ := g
            exact ⟨q, e1, hq, hBA.trans (hb2.mono hBA.size), hbx.later hb2⟩)
        have HKEY : Hid (Flw.isKey (ks.getD j tr0) = (decide (1 ≤ (ks.getD j tr0).kind) && decide ((ks.getD j tr0).kind ≤ 4) && (ks.getD j tr0).anc == [])) := rfl
        have z0 : (wr.alloc (.cells #[.int .i64 (ks.getD j tr0).kind, .string (mk (ks.getD j tr0).text), .string (mk (ks.getD j tr0).anc), .slice ad1 len1 cap1] 29)).cell? ⟨K0, 0, none⟩ = some (.int .i64 6) := hbx.cell 0
        clear hcell hxx hBA hbx
        generalize (ks.getD j tr0).kind = kk at *
        generalize (ks.getD j tr0).text = kx at *
        generalize (ks.getD j tr0).anc = ka at *
        by_cases hev : j % 2 = 0
        · have hj2 : (j : Int) % 2 = 0 := by omega
          by_cases hsc : 1 ≤ kk ∧ kk ≤ 4
          · have HSC : Hid (∀ w0, Calls Tryz.prog 77 #[.int .i64 kk] w0 fun e w' => e = .returned (.bool true) ∧ w0 = w') := fun w0 => by
              have := rscalar_any kk w0
              rw [decide_eq_true hsc.1, decide_eq_true hsc.2] at this
              exact this
            cases hka : (ka == [])
            · have q1 : ((mk ka).toList == []) = false := by rw [ByteArray.toList_eq, mk_data]; exact hka
              have q2 : (mk ka).toList.isEmpty = false := by rw [ByteArray.toList_eq, mk_data]; cases ka <;> first | rfl | cases hka
              have HNK : Hid (Flw.isKey (ks.getD j tr0) = false) := by rw [HKEY.out, hka]; exact Bool.and_false _
              clear hka HC
              go_wp2_with (go_at_call 77; refine (HSC.out _).mono ?_; rintro e w' ⟨rfl, rfl⟩)
              go_ret
              exact ⟨false, rfl, ⟨fun h => (by cases h), fun h => absurd ((HPP.out.1 h j hlt).1 (by first | rfl | trivial) hev) (by rw [HNK.out]; decide)⟩, HBA.out⟩
            · have q1 : ((mk ka).toList == []) = true := by rw [ByteArray.toList_eq, mk_data]; exact hka
              have q2 : (mk ka).toList.isEmpty = true := by rw [ByteArray.toList_eq, mk_data]; cases ka <;> first | rfl | cases hka
              have HNK : Hid (Flw.isKey (ks.getD j tr0) = true) := by rw [HKEY.out, hka, decide_eq_true hsc.1, decide_eq_true hsc.2]; exact rfl
              clear hka
              have HC2 := HC.out
              go_wp2_with fail
              refine (HSC.out _).mono ?_
              rintro e w' ⟨rfl, rfl⟩
              go_wp2_with fail
              refine HC2.mono ?_
              rintro e w4 ⟨q, rfl, H4⟩
              cases q
              · go_wp2
                go_ret
                exact ⟨false, rfl, ⟨fun h => (by cases h), fun h => absurd (H4.out.1.2 (HPP.out.1 h j hlt).2) (by decide)⟩, H4.out.2.1⟩
              · go_wp2
                go_roundw
                case rel => exact ⟨j + 1, by omega, by go_num, H4.out.2.1, H4.out.2.2, fun i hi => by
                  by_cases e : i = j
                  · subst e
                    exact ⟨fun _ _ => HNK.out, H4.out.1.1 (by first | rfl | trivial)⟩
                  · exact HR.out.2.2 i (by omega)⟩
                case measure => simp [intOf]; omega
          · have HSC : Hid (∀ w0, Calls Tryz.prog 77 #[.int .i64 kk] w0 fun e w' => e = .returned (.bool false) ∧ w0 = w') := fun w0 => by
              have := rscalar_any kk w0
              rw [show (decide (1 ≤ kk) && decide (kk ≤ 4)) = false by simpa using hsc] at this
              exact this
            have HNK : Hid (Flw.isKey (ks.getD j tr0) = false) := by rw [HKEY.out, show (decide (1 ≤ kk) && decide (kk ≤ 4)) = false by simpa using hsc]; exact rfl
            clear hsc HC
            go_wp2_with (go_at_call 77; refine (HSC.out _).mono ?_; rintro e w' ⟨rfl, rfl⟩)
            go_ret
            exact ⟨false, rfl, ⟨fun h => (by cases h), fun h => absurd ((HPP.out.1 h j hlt).1 (by first | rfl | trivial) hev) (by rw [HNK.out]; decide)⟩, HBA.out⟩
        · have hj2 : (j : Int) % 2 = 1 := by omega
          have HC2 := HC.out
          go_wp2_with fail
          refine HC2.mono ?_
          rintro e w4 ⟨q, rfl, H4⟩
          cases q
          · go_wp2
            go_ret
            exact ⟨false, rfl, ⟨fun h => (by cases h), fun h => absurd (H4.out.1.2 (HPP.out.1 h j hlt).2) (by decide)⟩, H4.out.2.1⟩
          · go_wp2
            go_roundw
            case rel => exact ⟨j + 1, by omega, by go_num, H4.out.2.1, H4.out.2.2, fun i hi => by
              by_cases e : i = j
              · subst e
                exact ⟨fun _ h => absurd h hev, H4.out.1.1 (by first | rfl | trivial)⟩
              · exact HR.out.2.2 i (by omega)⟩
            case measure => simp [intOf]; omega
      · have HP : Hid (∀ j, j < len → ((6 : Int) = 6 → j % 2 = 0 → Flw.isKey (ks.getD j tr0) = true) ∧ rgt (63 - deep) (ks.getD j tr0) = true) := fun i hi => HR.out.2.2 i (by omega)
        have HBB : Hid (Below w.heap.size w wr) := HR.out.1
        go_wp2
        go_ret
        exact ⟨true, rfl, ⟨fun _ => HPP.out.2 HP.out, fun _ => rfl⟩, HBB.out⟩
  · have ec : (a == []) = false := by simpa using hne
    rw [ec] at ea ea2
    rw [hn] at HN
    clear h ht hne hn ec
    go_enter Tryz.func58, Tryz.ntmps58
    go_wp2_with (first | (go_at_call 75; refine (HN.out _).mono ?_; rintro e w' ⟨rfl, rfl⟩) | (go_at_call 76; refine HX.out.mono ?_; rintro e w2 ⟨rfl, H2⟩; have g0 : w2.cell? ⟨w.heap.size, 0, none⟩ = some (.int .i64 6) := H2.out.2.cell 0; have g1 : w2.cell? ⟨w.heap.size, 1, none⟩ = some (.string (mk x)) := H2.out.2.cell 1; have g2 : w2.cell? ⟨w.heap.size, 2, none⟩ = some (.string (mk a)) := H2.out.2.cell 2; have g3 : w2.cell? ⟨w.heap.size, 3, none⟩ = some (.slice ad len cap) := H2.out.2.cell 3))
    have HR0 : Hid (Below w.heap.size w w2 ∧ Bx w2 w.heap.size #[.int .i64 6, .string (mk x), .string (mk a), .slice ad len cap] 29) := H2.out
    clear H2 g0 g1 g2 g3
    obtain ⟨K0, hK0⟩ : ∃ K0, K0 = w.heap.size := ⟨_, rfl⟩
    rw [← hK0] at HR0 ⊢
    replace hK0 : Hid (K0 = w.heap.size) := hK0
    replace HR0 : Hid (Below w.heap.size w w2 ∧ Bx w2 K0 #[.int .i64 6, .string (mk x), .string (mk a), .slice ad len cap] 29) := by rw [← hK0.out]; exact HR0
    go_loopw [5] (fun i wr => ∃ j : Nat, j ≤ len ∧ i = .int .i64 (j : Int) ∧ Hid (Below w.heap.size w wr ∧ Bx wr K0 #[.int .i64 6, .string (mk x), .string (mk a), .slice ad len cap] 29 ∧ ∀ i, i < j → ((6 : Int) = 6 → i % 2 = 0 → Flw.isKey (ks.getD i tr0) = true) ∧ rgt (63 - deep) (ks.getD i tr0) = true)) (fun i _ => len - (intOf i).toNat)
    case atStart => exact ⟨0, Nat.zero_le _, rfl, HR0.out.1, HR0.out.2, fun i hi => absurd hi (Nat.not_lt_zero _)⟩
    case round =>
      obtain ⟨j, hj, rfl, HR⟩ := hrel
      have y0 : wr.cell? ⟨K0, 0, none⟩ = some (.int .i64 6) := HR.out.2.1.cell 0
      have y3 : wr.cell? ⟨K0, 3, none⟩ = some (.slice ad len cap) := HR.out.2.1.cell 3
      by_cases hlt : j < len
      · obtain ⟨b, off, had, hb, hcell⟩ := HK.out.2 (by omega)
        rw [had] at y3
        replace had : Hid (ad = some ⟨b, off, none⟩) := had
        obtain ⟨c0, c1, c2, c3, x0, x1, x2, x3, hxx⟩ := hcell j hlt
        obtain ⟨ad1, len1, cap1, rfl, rfl, rfl, rfl⟩ := hxx.four
        replace x0 := (HR.out.1.cell (p := ⟨b, off + j * 4, none⟩) hb).trans x0
        replace x1 := (HR.out.1.cell (p := ⟨b, off + j * 4 + 1, none⟩) hb).trans x1
        replace x2 := (HR.out.1.cell (p := ⟨b, off + j * 4 + 2, none⟩) hb).trans x2
        replace x3 := (HR.out.1.cell (p := ⟨b, off + j * 4 + 3, none⟩) hb).trans x3
        have hBA := HR.out.1.alloc HR.out.1.size (.cells #[.int .i64 (ks.getD j tr0).kind, .string (mk (ks.getD j tr0).text), .string (mk (ks.getD j tr0).anc), .slice ad1 len1 cap1] 29)
        have HBA : Hid (Below w.heap.size w (wr.alloc (.cells #[.int .i64 (ks.getD j tr0).kind, .string (mk (ks.getD j tr0).text), .string (mk (ks.getD j tr0).anc), .slice ad1 len1 cap1] 29))) := hBA
        have hbx : Bx (wr.alloc (.cells #[.int .i64 (ks.getD j tr0).kind, .string (mk (ks.getD j tr0).text), .string (mk (ks.getD j tr0).anc), .slice ad1 len1 cap1] 29)) K0 #[.int .i64 6, .string (mk x), .string (mk a), .slice ad len cap] 29 := HR.out.2.1.later (below_alloc wr _)
        have HC : Hid (Calls Tryz.prog 58 #[.agg #[.int .i64 (ks.getD j tr0).kind, .string (mk (ks.getD j tr0).text), .string (mk (ks.getD j tr0).anc), .slice ad1 len1 cap1], .int .i64 ((deep : Int) + 1)] (wr.alloc (.cells #[.int .i64 (ks.getD j tr0).kind, .string (mk (ks.getD j tr0).text), .string (mk (ks.getD j tr0).anc), .slice ad1 len1 cap1] 29)) fun e w' => ∃ q : Bool, e = .returned (.bool q) ∧ Hid ((q = true ↔ rgt (63 - deep) (ks.getD j tr0) = true) ∧ Below w.heap.size w w' ∧ Bx w' K0 #[.int .i64 6, .string (mk x), .string (mk a), .slice ad len cap] 29)) :=
          (HI.out _ _ j hlt hBA (hxx.later hBA (Nat.le_refl _))).mono (fun e w' g => by
            obtain ⟨q, e1, hq, hb2⟩ := g
            exact ⟨q, e1, hq, hBA.trans (hb2.mono hBA.size), hbx.later hb2⟩)
        have HKEY : Hid (Flw.isKey (ks.getD j tr0) = (decide (1 ≤ (ks.getD j tr0).kind) && decide ((ks.getD j tr0).kind ≤ 4) && (ks.getD j tr0).anc == [])) := rfl
        have z0 : (wr.alloc (.cells #[.int .i64 (ks.getD j tr0).kind, .string (mk (ks.getD j tr0).text), .string (mk (ks.getD j tr0).anc), .slice ad1 len1 cap1] 29)).cell? ⟨K0, 0, none⟩ = some (.int .i64 6) := hbx.cell 0
        clear hcell hxx hBA hbx
        generalize (ks.getD j tr0).kind = kk at *
        generalize (ks.getD j tr0).text = kx at *
        generalize (ks.getD j tr0).anc = ka at *
        by_cases hev : j % 2 = 0
        · have hj2 : (j : Int) % 2 = 0 := by omega
          by_cases hsc : 1 ≤ kk ∧ kk ≤ 4
          · have HSC : Hid (∀ w0, Calls Tryz.prog 77 #[.int .i64 kk] w0 fun e w' => e = .returned (.bool true) ∧ w0 = w') := fun w0 => by
              have := rscalar_any kk w0
              rw [decide_eq_true hsc.1, decide_eq_true hsc.2] at this
              exact this
            cases hka : (ka == [])
            · have q1 : ((mk ka).toList == []) = false := by rw [ByteArray.toList_eq, mk_data]; exact hka
              have q2 : (mk ka).toList.isEmpty = false := by rw [ByteArray.toList_eq, mk_data]; cases ka <;> first | rfl | cases hka
              have HNK : Hid (Flw.isKey (ks.getD j tr0) = false) := by rw [HKEY.out, hka]; exact Bool.and_false _
              clear hka HC
              go_wp2_with (go_at_call 77; refine (HSC.out _).mono ?_; rintro e w' ⟨rfl, rfl⟩)
              go_ret
              exact ⟨false, rfl, ⟨fun h => (by cases h), fun h => absurd ((HPP.out.1 h j hlt).1 (by first | rfl | trivial) hev) (by rw [HNK.out]; decide)⟩, HBA.out⟩
            · have q1 : ((mk ka).toList == []) = true := by rw [ByteArray.toList_eq, mk_data]; exact hka
              have q2 : (mk ka).toList.isEmpty = true := by rw [ByteArray.toList_eq, mk_data]; cases ka <;> first | rfl | cases hka
              have HNK : Hid (Flw.isKey (ks.getD j tr0) = true) := by rw [HKEY.out, hka, decide_eq_true hsc.1, decide_eq_true hsc.2]; exact rfl
              clear hka
              have HC2 := HC.out
              go_wp2_with fail
              refine (HSC.out _).mono ?_
              rintro e w' ⟨rfl, rfl⟩
              go_wp2_with fail
              refine HC2.mono ?_
              rintro e w4 ⟨q, rfl, H4⟩
              cases q
              · go_wp2
                go_ret
                exact ⟨false, rfl, ⟨fun h => (by cases h), fun h => absurd (H4.out.1.2 (HPP.out.1 h j hlt).2) (by decide)⟩, H4.out.2.1⟩
              · go_wp2
                go_roundw
                case rel => exact ⟨j + 1, by omega, by go_num, H4.out.2.1, H4.out.2.2, fun i hi => by
                  by_cases e : i = j
                  · subst e
                    exact ⟨fun _ _ => HNK.out, H4.out.1.1 (by first | rfl | trivial)⟩
                  · exact HR.out.2.2 i (by omega)⟩
                case measure => simp [intOf]; omega
          · have HSC : Hid (∀ w0, Calls Tryz.prog 77 #[.int .i64 kk] w0 fun e w' => e = .returned (.bool false) ∧ w0 = w') := fun w0 => by
              have := rscalar_any kk w0
              rw [show (decide (1 ≤ kk) && decide (kk ≤ 4)) = false by simpa using hsc] at this
              exact this
            have HNK : Hid (Flw.isKey (ks.getD j tr0) = false) := by rw [HKEY.out, show (decide (1 ≤ kk) && decide (kk ≤ 4)) = false by simpa using hsc]; exact rfl
            clear hsc HC
            go_wp2_with (go_at_call 77; refine (HSC.out _).mono ?_; rintro e w' ⟨rfl, rfl⟩)
            go_ret
            exact ⟨false, rfl, ⟨fun h => (by cases h), fun h => absurd ((HPP.out.1 h j hlt).1 (by first | rfl | trivial) hev) (by rw [HNK.out]; decide)⟩, HBA.out⟩
        · have hj2 : (j : Int) % 2 = 1 := by omega
          have HC2 := HC.out
          go_wp2_with fail
          refine HC2.mono ?_
          rintro e w4 ⟨q, rfl, H4⟩
          cases q
          · go_wp2
            go_ret
            exact ⟨false, rfl, ⟨fun h => (by cases h), fun h => absurd (H4.out.1.2 (HPP.out.1 h j hlt).2) (by decide)⟩, H4.out.2.1⟩
          · go_wp2
            go_roundw
            case rel => exact ⟨j + 1, by omega, by go_num, H4.out.2.1, H4.out.2.2, fun i hi => by
              by_cases e : i = j
              · subst e
                exact ⟨fun _ h => absurd h hev, H4.out.1.1 (by first | rfl | trivial)⟩
              · exact HR.out.2.2 i (by omega)⟩
            case measure => simp [intOf]; omega
      · have HP : Hid (∀ j, j < len → ((6 : Int) = 6 → j % 2 = 0 → Flw.isKey (ks.getD j tr0) = true) ∧ rgt (63 - deep) (ks.getD j tr0) = true) := fun i hi => HR.out.2.2 i (by omega)
        have HBB : Hid (Below w.heap.size w wr) := HR.out.1
        go_wp2
        go_ret
        exact ⟨true, rfl, ⟨fun _ => HPP.out.2 HP.out, fun _ => rfl⟩, HBB.out⟩
theorem rright_any : ∀ (d : Nat) (v : Value) (t : Tr) (deep : Nat) (w : World), TrV w d v t → brief d t → deep ≤ 64 → Calls Tryz.prog 58 #[v, .int .i64 (deep : Int)] w fun e w' => RgRes (rgt (64 - deep) t = true) w e w'
  | 0, v, t, deep, w, h, hb, hd => h.elim
  | d + 1, v, ⟨k, x, a, ks⟩, deep, w, h, hb, hd => by
    obtain ⟨ad, len, cap, rfl, hl, hc, hm, hz, hk⟩ := h
    have m1 : maxLen = 9223372036854775807 := rfl
    have hl' : len = ks.length := hl
    cases hh : hdOk k x a
    · refine (rright_no k x a ad len cap w deep hd hb.1 hb.2.1 hh).mono (fun e w' g => ⟨false, g.1, ⟨fun h => (by cases h), fun h => ?_⟩, g.2⟩)
      rw [rgt_hd _ _ _ _ _ hh] at h
      cases h
    · by_cases h56 : k = 5 ∨ k = 6
      · by_cases h64 : deep = 64
        · have hno : ∀ {e w'}, (e = .returned (.bool false) ∧ Below w.heap.size w w') → RgRes (rgt (64 - deep) ⟨k, x, a, ks⟩ = true) w e w' := fun g => ⟨false, g.1, ⟨fun h => (by cases h), fun h => by
            rw [h64, Nat.sub_self, rgt_deep k x a ks h56] at h
            cases h⟩, g.2⟩
          rcases h56 with e | e
          · exact (rright_deep5 k x a ad len cap w deep hd hb.1 hb.2.1 hh e h64).mono (fun e w' g => hno g)
          · exact (rright_deep6 k x a ad len cap w deep hd hb.1 hb.2.1 hh e h64).mono (fun e w' g => hno g)
        · have e64 : 64 - deep = (63 - deep) + 1 := by omega
          have hi := rgt_kids (63 - deep) k x a ks hh h56
          rw [← e64] at hi
          by_cases ho : k = 6 ∧ len % 2 = 1
          · refine (rright_odd k x a ad len cap w deep hd hb.1 hb.2.1 hh ho.1 (by omega) (by omega) ho.2).mono (fun e w' g => ⟨false, g.1, ⟨fun h => (by cases h), fun h => ?_⟩, g.2⟩)
            have := (hi.1 h).1 ho.1
            omega
          · have HI : ∀ v w1 j, j < len → Below w.heap.size w w1 → TrV w1 d v (ks.getD j tr0) → Calls Tryz.prog 58 #[v, .int .i64 ((deep : Int) + 1)] w1 fun e w' => ∃ q : Bool, e = .returned (.bool q) ∧ (q = true ↔ rgt (63 - deep) (ks.getD j tr0) = true) ∧ Below w1.heap.size w1 w' := fun v w1 j hj _ hv => by
              have := rright_any d v (ks.getD j tr0) (deep + 1) w1 hv (hb.2.2 j (by rw [hl'] at hj; exact hj)) (by omega)
              rw [show ((deep + 1 : Nat) : Int) = (deep : Int) + 1 by omega, show 64 - (deep + 1) = 63 - deep by omega] at this
              exact this
            have hfin : ∀ {e w'}, RgRes (∀ j, j < len → (k = 6 → j % 2 = 0 → Flw.isKey (ks.getD j tr0) = true) ∧ rgt (63 - deep) (ks.getD j tr0) = true) w e w' → RgRes (rgt (64 - deep) ⟨k, x, a, ks⟩ = true) w e w' := fun g => by
              obtain ⟨q, e1, hq, hb2⟩ := g
              refine ⟨q, e1, hq.trans ?_, hb2⟩
              rw [hi, ← hl']
              exact ⟨fun h => ⟨fun e => by omega, h⟩, fun h => h.2⟩
            rcases h56 with e | e
            · exact (rright_kids5 k x a ad len cap w deep hd hb.1 hb.2.1 hh e (by omega) (by omega) trivial d ks ⟨hl, hk⟩ _ Iff.rfl HI).mono (fun e w' g => hfin g)
            · exact (rright_kids6 k x a ad len cap w deep hd hb.1 hb.2.1 hh e (by omega) (by omega) (by omega) d ks ⟨hl, hk⟩ _ Iff.rfl HI).mono (fun e w' g => hfin g)
      · refine (rright_leaf k x a ad len cap w deep hd hb.1 hb.2.1 hh (by omega) (by omega) (by omega)).mono (fun e w' g => ⟨decide (len = 0), g.1, ?_, g.2⟩)
        rw [rgt_leaf _ k x a ks hh (by omega) (by omega), hl', decide_eq_true_eq, List.isEmpty_iff, List.length_eq_zero_iff]

end Go.Proofs.YtaphijgbebhdlaaGreatDoor.Flw
end
