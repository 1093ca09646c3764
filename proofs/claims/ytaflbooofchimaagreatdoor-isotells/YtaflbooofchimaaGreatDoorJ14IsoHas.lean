/- Several texts as one: IsoHas, GraphCmSI, IsoPrI. -/
import Derived.Test.YtaflbooofchimaaGreatDoorJ13IsoPlain
import Derived.BigQuiet
import Derived.Deep.QuietTactic
import Derived.Test.YtaflbooofchimaaGreatDoorJ12GraphTop
section
/- Pairs in memory; the document's has and once, by their contracts. -/
namespace Go.Proofs.YtaflbooofchimaaGreatDoor.Alk
open Utf Rws Pln Flw Grp
open Go.RowKit Go.Shelf
set_option linter.unusedSimpArgs false
set_option linter.unusedVariables false
set_option maxRecDepth 100000
set_option maxHeartbeats 4000000

theorem eql_pair (x1 y1 x2 y2 : Int) (w : World) : (binOp .eql 77 (.agg #[.int .i64 x1, .int .i64 x2]) (.agg #[.int .i64 y1, .int .i64 y2])).run Tryz.prog w = .ok (.bool (x1 == y1 && x2 == y2)) w := by
  rw [run_eql_struct, run_equalIn_struct w 9999 77 _ _ (by kernel_rfl) (by kernel_rfl)]
  cases h1 : x1 == y1 <;> cases h2 : x2 == y2 <;> simp [go_sem, Program.fieldsOf, Tryz.underlying77, Tryz.underlying3, h1, h2]
/-- pairs in memory -/
def PAt (w : World) (ad : Option Addr) (len : Nat) (l : List (Nat × Nat)) : Prop :=
  len = l.length ∧ (0 < len → ∃ b off, ad = some ⟨b, off, none⟩ ∧ b < w.heap.size ∧ ∀ i, i < len → w.cell? ⟨b, off + i * 2, none⟩ = some (.int .i64 ((l.getD i (0, 0)).1 : Int)) ∧ w.cell? ⟨b, off + i * 2 + 1, none⟩ = some (.int .i64 ((l.getD i (0, 0)).2 : Int)))
theorem PAt.later {w w' : World} {B : Nat} (hb : Below B w w') (hB : w.heap.size ≤ B) {ad : Option Addr} {len : Nat} {l : List (Nat × Nat)} (h : PAt w ad len l) : PAt w' ad len l := by
  refine ⟨h.1, fun hp => ?_⟩
  obtain ⟨b, off, ha, hlt, hc⟩ := h.2 hp
  exact ⟨b, off, ha, Nat.lt_of_lt_of_le hlt hb.size, fun i hi => ⟨(hb.cell (p := ⟨b, off + i * 2, none⟩) (Nat.lt_of_lt_of_le hlt hB)).trans (hc i hi).1, (hb.cell (p := ⟨b, off + i * 2 + 1, none⟩) (Nat.lt_of_lt_of_le hlt hB)).trans (hc i hi).2⟩⟩
theorem mem_take_succ {l : List (Nat × Nat)} {j : Nat} {p : Nat × Nat} (h : j < l.length) : p ∈ l.take (j + 1) ↔ p ∈ l.take j ∨ p = l.getD j (0, 0) := by
  rw [List.take_succ_eq_append_getElem h, List.getD_eq_getElem?_getD, List.getElem?_eq_getElem h, List.mem_append, List.mem_singleton]
  exact Iff.rfl
theorem has_any {w : World} {ad : Option Addr} {len cap x y : Nat} {l : List (Nat × Nat)} (hlen : len ≤ 1000000000) (hA : PAt w ad len l) :
    Calls Tryz.prog 46 #[.slice ad len cap, .agg #[.int .i64 (x : Int), .int .i64 (y : Int)]] w fun e w' => e = .returned (.bool (decide ((x, y) ∈ l))) ∧ Below w.heap.size w w' := by
  obtain ⟨q, HQ⟩ : ∃ q, Hid (q = decide ((x, y) ∈ l)) := ⟨_, rfl⟩
  rw [← HQ.out]
  have HA : Hid (PAt w ad len l) := hA
  have HL : Hid (len = l.length) := hA.1
  have b1 : Hid (Bx (w.alloc (.cells #[.int .i64 (x : Int), .int .i64 (y : Int)] 77)) w.heap.size #[.int .i64 (x : Int), .int .i64 (y : Int)] 77 ∧ Below w.heap.size w (w.alloc (.cells #[.int .i64 (x : Int), .int .i64 (y : Int)] 77))) := ⟨Bx.new _ _ _, below_alloc _ _⟩
  clear hA
  go_enter Tryz.func46, Tryz.ntmps46
  go_wp2_with fail
  generalize w.alloc (.cells #[.int .i64 (x : Int), .int .i64 (y : Int)] 77) = W0 at b1 ⊢
  obtain ⟨K0, hK0⟩ : ∃ K0, Hid (K0 = w.heap.size) := ⟨_, rfl⟩
  rw [← hK0.out]
  have B1 : Hid (Bx W0 K0 #[.int .i64 (x : Int), .int .i64 (y : Int)] 77 ∧ Below w.heap.size w W0) := by rw [hK0.out]; exact b1
  clear b1 hK0
  go_loopw [5] (fun i wr => ∃ j : Nat, j ≤ len ∧ i = .int .i64 (j : Int) ∧ Hid ((Bx wr K0 #[.int .i64 (x : Int), .int .i64 (y : Int)] 77 ∧ Below w.heap.size w wr) ∧ (x, y) ∉ l.take j)) (fun i _ => len - (intOf i).toNat)
  case atStart => exact ⟨0, Nat.zero_le _, rfl, B1.out, by simp⟩
  case round =>
    obtain ⟨j, hj, rfl, HS⟩ := hrel
    clear B1
    by_cases hlt : j < len
    · have hlt2 : (j : Int) < (len : Int) := by omega
      have hj0 : (0 : Int) ≤ (j : Int) := by omega
      obtain ⟨b, off, rfl, hb, hc⟩ := HA.out.2 (by omega)
      obtain ⟨z0, z1⟩ := hc j hlt
      have y0 := (HS.out.1.2.cell (p := ⟨b, off + j * 2, none⟩) hb).trans z0
      have y1 := (HS.out.1.2.cell (p := ⟨b, off + j * 2 + 1, none⟩) hb).trans z1
      obtain ⟨c0, c1⟩ := HS.out.1.1.c2
      have HM : Hid ((x, y) ∈ l.take (j + 1) ↔ (x, y) ∈ l.take j ∨ (x, y) = l.getD j (0, 0)) := mem_take_succ (by rw [← HL.out]; exact hlt)
      have HI : Hid (l.getD j (0, 0) ∈ l) := by
        show _ ∈ _
        rw [List.getD_eq_getElem?_getD, List.getElem?_eq_getElem (by rw [← HL.out]; exact hlt)]
        exact List.getElem_mem _
      generalize l.getD j (0, 0) = p at y0 y1 HM HI
      obtain ⟨u, v⟩ := p
      simp only at y0 y1
      clear z0 z1 hc
      by_cases hp : (x, y) = (u, v)
      · have e1 : u = x := (congrArg Prod.fst hp).symm
        have e2 : v = y := (congrArg Prod.snd hp).symm
        subst e1 e2
        have he : ∀ w, (binOp .eql 77 (.agg #[.int .i64 (u : Int), .int .i64 (v : Int)]) (.agg #[.int .i64 (u : Int), .int .i64 (v : Int)])).run Tryz.prog w = .ok (.bool true) w := fun w => by rw [eql_pair]; simp
        have HV : Hid (q = true) := HQ.out.trans (decide_eq_true HI.out)
        have HB : Hid (Below w.heap.size w wr) := HS.out.1.2
        clear HI HM HS hp HQ
        go_wp2_with fail
        go_quiet (fail)
        go_wp2
        go_ret
        exact ⟨by rw [HV.out]; rfl, below_drewN HB.out _⟩
      · have he : ∀ w, (binOp .eql 77 (.agg #[.int .i64 (u : Int), .int .i64 (v : Int)]) (.agg #[.int .i64 (x : Int), .int .i64 (y : Int)])).run Tryz.prog w = .ok (.bool false) w := fun w => by
          rw [eql_pair]
          by_cases e1 : u = x
          · subst e1
            have : ¬ v = y := fun e => hp (by rw [e])
            simp; omega
          · have : ¬ (u : Int) = (x : Int) := by omega
            simp [this]
        have HB : Hid ((Bx wr K0 #[.int .i64 (x : Int), .int .i64 (y : Int)] 77 ∧ Below w.heap.size w wr) ∧ (x, y) ∉ l.take (j + 1)) := ⟨HS.out.1, fun h => by rcases HM.out.1 h with h | h; exact HS.out.2 h; exact hp h⟩
        clear HI HM HS hp HQ
        go_wp2_with fail
        go_quiet (fail)
        go_wp2
        go_roundw
        case rel => exact ⟨j + 1, by omega, by go_num, ⟨HB.out.1.1.drew _, below_drewN HB.out.1.2 _⟩, HB.out.2⟩
        case measure => (simp [intOf] <;> omega)
    · have hje : j = len := by omega
      have HV : Hid (q = false) := HQ.out.trans (decide_eq_false (by have := HS.out.2; rw [hje, List.take_of_length_le (by rw [HL.out]; exact Nat.le_refl _)] at this; exact this))
      have HB : Hid (Below w.heap.size w wr) := HS.out.1.2
      clear HS HQ
      go_wp2
      go_ret
      exact ⟨by rw [HV.out]; rfl, HB.out⟩
theorem onc_snoc {l : List (Nat × Nat)} {i : Nat} (h : ∀ a k, k < a → a < i → a < l.length → (l.getD k (0, 0)).1 ≠ (l.getD a (0, 0)).1 ∧ (l.getD k (0, 0)).2 ≠ (l.getD a (0, 0)).2) (h2 : ∀ k, k < i → (l.getD k (0, 0)).1 ≠ (l.getD i (0, 0)).1 ∧ (l.getD k (0, 0)).2 ≠ (l.getD i (0, 0)).2) :
    ∀ a k, k < a → a < i + 1 → a < l.length → (l.getD k (0, 0)).1 ≠ (l.getD a (0, 0)).1 ∧ (l.getD k (0, 0)).2 ≠ (l.getD a (0, 0)).2 := fun a k hk ha hl => by
  by_cases e : a = i
  · subst e; exact h2 k hk
  · exact h a k hk (by omega) hl
theorem once_any {w : World} {ad : Option Addr} {len cap : Nat} {l : List (Nat × Nat)} (hlen : len ≤ 1000000000) (hA : PAt w ad len l) :
    Calls Tryz.prog 28 #[.slice ad len cap] w fun e w' => ∃ q : Bool, e = .returned (.bool q) ∧ Hid ((q = true ↔ Onc l) ∧ Below w.heap.size w w') := by
  have HA : Hid (PAt w ad len l) := hA
  have HL : Hid (len = l.length) := hA.1
  have HB0 : Hid (Below w.heap.size w w) := Below.refl _ _
  clear hA
  go_enter Tryz.func28, Tryz.ntmps28
  go_wp2_with fail
  go_loopw [3] (fun i wr => ∃ j : Nat, j ≤ len ∧ i = .int .i64 (j : Int) ∧ Hid (Below w.heap.size w wr ∧ ∀ a k, k < a → a < j → a < l.length → (l.getD k (0, 0)).1 ≠ (l.getD a (0, 0)).1 ∧ (l.getD k (0, 0)).2 ≠ (l.getD a (0, 0)).2)) (fun i _ => len - (intOf i).toNat)
  case atStart => exact ⟨0, Nat.zero_le _, rfl, HB0.out, fun a k h1 h2 => absurd h2 (by omega)⟩
  case round =>
    obtain ⟨j, hj, rfl, HS⟩ := hrel
    by_cases hlt : j < len
    · have hlt2 : (j : Int) < (len : Int) := by omega
      have hj0 : (0 : Int) ≤ (j : Int) := by omega
      obtain ⟨b, off, rfl, hb, hc⟩ := HA.out.2 (by omega)
      have HC : Hid (∀ W, Below w.heap.size w W → ∀ i, i < len → W.cell? ⟨b, off + i * 2, none⟩ = some (.int .i64 ((l.getD i (0, 0)).1 : Int)) ∧ W.cell? ⟨b, off + i * 2 + 1, none⟩ = some (.int .i64 ((l.getD i (0, 0)).2 : Int))) := fun W h i hi => ⟨(h.cell (p := ⟨b, off + i * 2, none⟩) hb).trans (hc i hi).1, (h.cell (p := ⟨b, off + i * 2 + 1, none⟩) hb).trans (hc i hi).2⟩
      clear hc
      go_wp2_with fail
      go_loopw [4] (fun i wr => ∃ k : Nat, k ≤ j ∧ i = .int .i64 (k : Int) ∧ Hid (Below w.heap.size w wr ∧ ∀ a, a < k → (l.getD a (0, 0)).1 ≠ (l.getD j (0, 0)).1 ∧ (l.getD a (0, 0)).2 ≠ (l.getD j (0, 0)).2)) (fun i _ => j - (intOf i).toNat)
      case atStart => exact ⟨0, Nat.zero_le _, rfl, HS.out.1, fun a h => absurd h (by omega)⟩
      case round =>
        obtain ⟨k, hk, rfl, HT⟩ := hrel
        by_cases hkl : k < j
        · have hkl2 : (k : Int) < (j : Int) := by omega
          have hk0 : (0 : Int) ≤ (k : Int) := by omega
          have hk1 : (k : Int) < (len : Int) := by omega
          obtain ⟨x0, x1⟩ := HC.out wr HT.out.1 k (by omega)
          obtain ⟨y0, y1⟩ := HC.out wr HT.out.1 j hlt
          obtain ⟨p1, hp1⟩ : ∃ p, p = (l.getD k (0, 0)).1 := ⟨_, rfl⟩
          obtain ⟨p2, hp2⟩ : ∃ p, p = (l.getD k (0, 0)).2 := ⟨_, rfl⟩
          obtain ⟨q1, hq1⟩ : ∃ p, p = (l.getD j (0, 0)).1 := ⟨_, rfl⟩
          obtain ⟨q2, hq2⟩ : ∃ p, p = (l.getD j (0, 0)).2 := ⟨_, rfl⟩
          rw [← hp1] at x0
          rw [← hp2] at x1
          rw [← hq1] at y0
          rw [← hq2] at y1
          have HP : Hid ((p1 = (l.getD k (0, 0)).1 ∧ p2 = (l.getD k (0, 0)).2) ∧ (q1 = (l.getD j (0, 0)).1 ∧ q2 = (l.getD j (0, 0)).2)) := ⟨⟨hp1, hp2⟩, hq1, hq2⟩
          clear hp1 hp2 hq1 hq2
          by_cases h12 : ¬ p1 = q1 ∧ ¬ p2 = q2
          · have h1' : ((p1 : Int) == (q1 : Int)) = false := by simp; omega
            have h2' : ((p2 : Int) == (q2 : Int)) = false := by simp; omega
            have HT2 : Hid (Below w.heap.size w wr ∧ ∀ a, a < k + 1 → (l.getD a (0, 0)).1 ≠ (l.getD j (0, 0)).1 ∧ (l.getD a (0, 0)).2 ≠ (l.getD j (0, 0)).2) := ⟨HT.out.1, fun a ha => by
              by_cases e : a = k
              · subst e; rw [← HP.out.1.1, ← HP.out.1.2, ← HP.out.2.1, ← HP.out.2.2]; exact h12
              · exact HT.out.2 a (by omega)⟩
            clear HP HC HT HA HL HB0 h12
            go_wp2_with fail
            go_quiet (fail)
            go_wp2
            go_roundw
            case rel => exact ⟨k + 1, by omega, by go_num, below_drewN HT2.out.1 _, HT2.out.2⟩
            case measure => (simp [intOf] <;> omega)
          · have HB : Hid (Below w.heap.size w wr) := HT.out.1
            by_cases h1 : p1 = q1
            case' pos =>
              have HV : Hid (¬ Onc l) := fun h => (h j k hkl (by rw [← HL.out]; exact hlt)).1 (by rw [← HP.out.1.1, ← HP.out.2.1, h1])
              subst h1
              clear HP HC HT HA HL HB0 HS h12
            case' neg =>
              have h2 : p2 = q2 := by omega
              have h1' : ((p1 : Int) == (q1 : Int)) = false := by simp; omega
              have HV : Hid (¬ Onc l) := fun h => (h j k hkl (by rw [← HL.out]; exact hlt)).2 (by rw [← HP.out.1.2, ← HP.out.2.2, h2])
              subst h2
              clear HP HC HT HA HL HB0 HS h12 h1
            all_goals
              go_wp2_with fail
              go_quiet (fail)
              go_wp2
              go_ret
              exact ⟨false, rfl, by simp [HV.out], below_drewN HB.out _⟩
        · have hke : k = j := by omega
          have hkl2 : ¬ (k : Int) < (j : Int) := by omega
          have HT2 : Hid (Below w.heap.size w wr ∧ ∀ a k, k < a → a < j + 1 → a < l.length → (l.getD k (0, 0)).1 ≠ (l.getD a (0, 0)).1 ∧ (l.getD k (0, 0)).2 ≠ (l.getD a (0, 0)).2) := ⟨HT.out.1, onc_snoc HS.out.2 (fun a ha => HT.out.2 a (by omega))⟩
          clear HC HT HA HL HB0 HS hke
          go_wp2_with fail
          go_roundw
          case rel => exact ⟨j + 1, by omega, by go_num, HT2⟩
          case measure => (simp [intOf] <;> omega)
    · have hje : j = len := by omega
      have HV : Hid (Onc l) := fun a k h1 h2 => HS.out.2 a k h1 (by rw [hje, HL.out]; exact h2) h2
      have HB : Hid (Below w.heap.size w wr) := HS.out.1
      clear HS HA HB0
      go_wp2
      go_ret
      exact ⟨true, rfl, by simp [HV.out], HB.out⟩
end Go.Proofs.YtaflbooofchimaaGreatDoor.Alk
end

section
/- A composer in memory. -/
namespace Go.Proofs.YtaflbooofchimaaGreatDoor.Grp
open Utf Rws Pln Flw
open Go.RowKit
set_option linter.unusedSimpArgs false
set_option linter.unusedVariables false
set_option maxRecDepth 100000

/-- the nodes' cells -/
def ncs (l : List (Nd × Value)) : List Value := l.flatMap fun p => [.int .i64 p.1.kind, .string (mk p.1.text), p.2]
theorem ncs_app (l m : List (Nd × Value)) : ncs (l ++ m) = ncs l ++ ncs m := by unfold ncs; rw [List.flatMap_append]
theorem ncs_len (l : List (Nd × Value)) : (ncs l).length = l.length * 3 := by
  induction l with
  | nil => rfl
  | cons p t ih =>
    have e : ncs (p :: t) = [.int .i64 p.1.kind, .string (mk p.1.text), p.2] ++ ncs t := rfl
    rw [e, List.length_append, ih, List.length_cons]
    simp only [List.length_cons, List.length_nil]
    omega
theorem ncs_get : ∀ (l : List (Nd × Value)) (i : Nat) (p : Nd × Value), l[i]? = some p → (ncs l)[i * 3]? = some (.int .i64 p.1.kind) ∧ (ncs l)[i * 3 + 1]? = some (.string (mk p.1.text)) ∧ (ncs l)[i * 3 + 2]? = some p.2
  | [], i, p, h => by cases h
  | q :: t, 0, p, h => by
    simp only [List.getElem?_cons_zero, Option.some.injEq] at h
    subst h
    exact ⟨rfl, rfl, rfl⟩
  | q :: t, i + 1, p, h => by
    have := ncs_get t i p (by simpa using h)
    have e : ncs (q :: t) = [.int .i64 q.1.kind, .string (mk q.1.text), q.2] ++ ncs t := rfl
    rw [e]
    refine ⟨?_, ?_, ?_⟩
    · rw [List.getElem?_append_right (by simp; omega)]
      simp only [List.length_cons, List.length_nil]
      rw [show (i + 1) * 3 - (0 + 1 + 1 + 1) = i * 3 by omega]; exact this.1
    · rw [List.getElem?_append_right (by simp; omega)]
      simp only [List.length_cons, List.length_nil]
      rw [show (i + 1) * 3 + 1 - (0 + 1 + 1 + 1) = i * 3 + 1 by omega]; exact this.2.1
    · rw [List.getElem?_append_right (by simp; omega)]
      simp only [List.length_cons, List.length_nil]
      rw [show (i + 1) * 3 + 2 - (0 + 1 + 1 + 1) = i * 3 + 2 by omega]; exact this.2.2
theorem ncs_set : ∀ (l : List (Nd × Value)) (i : Nat) (p : Nd × Value) (kds : List Int) (v : Value), l[i]? = some p → ncs (l.set i (⟨p.1.kind, p.1.text, kds⟩, v)) = (ncs l).set (i * 3 + 2) v
  | [], i, p, _, _, h => by cases h
  | q :: t, 0, p, kds, v, h => by
    simp only [List.getElem?_cons_zero, Option.some.injEq] at h
    subst h
    rfl
  | q :: t, i + 1, p, kds, v, h => by
    have := ncs_set t i p kds v (by simpa using h)
    have e : ncs (q :: t) = [.int .i64 q.1.kind, .string (mk q.1.text), q.2] ++ ncs t := rfl
    have e2 : ncs (q :: t.set i (⟨p.1.kind, p.1.text, kds⟩, v)) = [.int .i64 q.1.kind, .string (mk q.1.text), q.2] ++ ncs (t.set i (⟨p.1.kind, p.1.text, kds⟩, v)) := rfl
    rw [List.set_cons_succ, e2, this, e, List.set_append_right _ _ (by simp; omega)]
    simp only [List.length_cons, List.length_nil]
    rw [show (i + 1) * 3 + 2 - (0 + 1 + 1 + 1) = i * 3 + 2 by omega]
theorem own_keep {base : Nat} {e : TypeId} {size : Nat} {v : Value} {n : Nat} {xs : List Value} {w w' : World} (h : w.ownsRow base e size v n xs) (hk : ∀ g, v.ownBlock = some g → w'.heap[g]? = w.heap[g]?) : w'.ownsRow base e size v n xs := by
  refine ⟨h.1, ?_⟩
  rcases h.2 with h2 | ⟨g, cap, cur, rfl, hb, hg, h3⟩
  · exact .inl h2
  · exact .inr ⟨g, cap, cur, rfl, hb, (hk g rfl).trans hg, h3⟩
theorem own_set {base : Nat} {e : TypeId} {size g n cap : Nat} {xs : List Value} {w : World} (h : w.ownsRow base e size (.slice (some ⟨g, 0, none⟩) n cap) n xs) {i : Nat} (hi : i < xs.length) (v : Value) : (w.setCell ⟨g, i, none⟩ v).ownsRow base e size (.slice (some ⟨g, 0, none⟩) n cap) n (xs.set i v) := by
  refine ⟨by rw [List.length_set]; exact h.1, ?_⟩
  rcases h.2 with ⟨h2, _⟩ | ⟨g', cap', cur, he, hb, hg, h3, h4, h5, h6⟩
  · cases h2
  · cases he
    have hset := Bx.set (w := w) (k := g) (cs := cur) (t := e) hg i v
    refine .inr ⟨g, cap, cur.setIfInBounds i v, rfl, hb, hset, h3, h4, by rw [Array.size_setIfInBounds]; exact h5, ?_⟩
    rw [← h6]
    have hl : i < n * size := by rw [← h.1]; exact hi
    rw [Array.toList_setIfInBounds, List.take_set]
theorem own_block {base : Nat} {e : TypeId} {size : Nat} {v : Value} {n : Nat} {xs : List Value} {w : World} (h : w.ownsRow base e size v n xs) {g : Nat} (hg : v.ownBlock = some g) : base ≤ g ∧ g < w.heap.size := by
  rcases h.2 with ⟨rfl, _⟩ | ⟨g', cap, cur, rfl, hb, hh, _⟩
  · cases hg
  · cases hg
    exact ⟨hb, (Array.getElem?_eq_some_iff.1 hh).1⟩
theorem own_shapeN {base : Nat} {e : TypeId} {size : Nat} {v : Value} {n : Nat} {xs : List Value} {w : World} (h : w.ownsRow base e size v n xs) : ∃ ad cap, v = .slice ad n cap ∧ n ≤ cap ∧ cap ≤ maxLen := by
  rcases h.2 with ⟨rfl, rfl⟩ | ⟨g', cap, cur, rfl, hb, hh, h3, h4, _⟩
  · exact ⟨none, 0, rfl, Nat.le_refl _, Nat.zero_le _⟩
  · exact ⟨_, cap, rfl, h3, h4⟩
/-- a node's Kids in memory, beside the rows that grow -/
def KdOk (W : World) (K : Nat) (nv : Value) (p : Nd × Value) : Prop := i64 p.1.kind ∧ p.1.text.length ≤ 9223372036854775807 ∧ ∃ ad len cap, p.2 = .slice ad len cap ∧ len ≤ cap ∧ cap ≤ maxLen ∧ IAt W ad len p.1.kids ∧ ∀ b off, 0 < len → ad = some ⟨b, off, none⟩ → K < b ∧ some b ≠ nv.ownBlock
/-- in which block a node's Kids lie -/
def kb (p : Nd × Value) (b : Nat) : Prop := ∃ off len cap, p.2 = .slice (some ⟨b, off, none⟩) len cap ∧ 0 < len
theorem KdOk.lt {W : World} {K : Nat} {nv : Value} {p : Nd × Value} (h : KdOk W K nv p) {b : Nat} (hb : kb p b) : K < b ∧ b < W.heap.size ∧ some b ≠ nv.ownBlock := by
  obtain ⟨_, _, ad, len, cap, e, _, _, hI, hf⟩ := h
  obtain ⟨off, len', cap', e', hp⟩ := hb
  rw [e] at e'
  cases e'
  obtain ⟨b2, off2, e2, hlt, _⟩ := hI.2 hp
  cases e2
  exact ⟨(hf _ _ hp rfl).1, hlt, (hf _ _ hp rfl).2⟩
theorem KdOk.keep {W W' : World} {K : Nat} {nv nv' : Value} {p : Nd × Value} (h : KdOk W K nv p) (hs : W.heap.size ≤ W'.heap.size) (hk : ∀ b, kb p b → W'.heap[b]? = W.heap[b]? ∧ some b ≠ nv'.ownBlock) : KdOk W' K nv' p := by
  obtain ⟨h1, h2, ad, len, cap, e, h3, h4, hI, hf⟩ := h
  refine ⟨h1, h2, ad, len, cap, e, h3, h4, ⟨hI.1, fun hp => ?_⟩, fun b off hp e2 => ?_⟩
  · obtain ⟨b2, off2, e2, hlt, hc⟩ := hI.2 hp
    have hb : kb p b2 := ⟨off2, len, cap, by rw [e, e2], hp⟩
    exact ⟨b2, off2, e2, Nat.lt_of_lt_of_le hlt hs, fun i hi => ⟨(hc i hi).1, (World.cell?_of_block (w := W) (hk b2 hb).1).trans (hc i hi).2⟩⟩
  · have hb : kb p b := ⟨off, len, cap, by rw [e, e2], hp⟩
    exact ⟨(hf b off hp e2).1, (hk b hb).2⟩
end Go.Proofs.YtaflbooofchimaaGreatDoor.Grp
end

section
/- The document's pairs under way: plain facts, and the list in memory. -/
namespace Go.Proofs.YtaflbooofchimaaGreatDoor.Alk
open Utf Rws Pln Flw Grp
open Go.RowKit Go.Shelf
set_option linter.unusedSimpArgs false
set_option linter.unusedVariables false
set_option maxRecDepth 100000
set_option maxHeartbeats 4000000

section
variable {ns ms : List Nd} {o : Bool} {x0 y0 x y i k : Nat} {l : List (Nat × Nat)}
/-- pairs under way, as far as i their Kids are paired -/
structure PrI (ns ms : List Nd) (o : Bool) (x0 y0 : Nat) (l : List (Nat × Nat)) (i : Nat) : Prop where
  rt : (x0, y0) ∈ l
  nd : l.Nodup
  rg : ∀ p ∈ l, p.1 < ns.length ∧ p.2 < ms.length
  mi : ∀ R, BisD ns ms o R → R x0 y0 → ∀ p ∈ l, R p.1 p.2
  dn : ∀ t, t < i → Goes ns ms o (l.getD t (0, 0)).1 (l.getD t (0, 0)).2 (fun x y => (x, y) ∈ l)
/-- the Kids of a pair, as far as k -/
def PrK (ns ms : List Nd) (o : Bool) (x y : Nat) (l : List (Nat × Nat)) (k : Nat) : Prop :=
  ∀ t, t < k → ∃ j, jP ns ms o (ns.getD x nd0) (ms.getD y nd0) t = some j ∧ (((ns.getD x nd0).kids.getD t 0).toNat, ((ms.getD y nd0).kids.getD j 0).toNat) ∈ l
theorem PrI.start (hx : x0 < ns.length) (hy : y0 < ms.length) : PrI ns ms o x0 y0 [(x0, y0)] 0 :=
  ⟨by simp, by simp, fun p hp => by rw [List.mem_singleton.1 hp]; exact ⟨hx, hy⟩, fun R _ h p hp => by rw [List.mem_singleton.1 hp]; exact h, fun t h => absurd h (by omega)⟩
theorem PrI.bad (h : PrI ns ms o x0 y0 l i) (hp : (x, y) ∈ l) (hb : ¬ okN (ns.getD x nd0) (ms.getD y nd0) ∨ ∃ k, k < (ns.getD x nd0).kids.length ∧ jP ns ms o (ns.getD x nd0) (ms.getD y nd0) k = none) : PrsNo ns ms o x0 y0 := by
  rintro ⟨R, hB, hR⟩
  obtain ⟨g1, g2⟩ := hB _ _ (h.mi R hB hR _ hp)
  rcases hb with hb | ⟨k, hk, hb⟩
  · exact hb g1
  · obtain ⟨j, e, _⟩ := g2 k hk
    rw [hb] at e
    exact absurd e (by simp)
theorem PrI.add (h : PrI ns ms o x0 y0 l i) (hi : i ≤ l.length) (hp : (x, y) ∈ l) {j : Nat} {q : Nat × Nat} (hk : k < (ns.getD x nd0).kids.length) (hj : jP ns ms o (ns.getD x nd0) (ms.getD y nd0) k = some j)
    (hq : q = (((ns.getD x nd0).kids.getD k 0).toNat, ((ms.getD y nd0).kids.getD j 0).toNat)) (hr : q.1 < ns.length ∧ q.2 < ms.length) (hn : q ∉ l) : PrI ns ms o x0 y0 (l ++ [q]) i := by
  refine ⟨List.mem_append_left _ h.rt, ?_, fun p hp' => ?_, fun R hB hR p hp' => ?_, fun t ht => ?_⟩
  · rw [List.nodup_append]
    exact ⟨h.nd, by simp, fun a ha b hb e => hn (by rw [List.mem_singleton.1 hb] at e; rw [← e]; exact ha)⟩
  · rcases List.mem_append.1 hp' with hp' | hp'
    · exact h.rg p hp'
    · rw [List.mem_singleton.1 hp']; exact hr
  · rcases List.mem_append.1 hp' with hp' | hp'
    · exact h.mi R hB hR p hp'
    · rw [List.mem_singleton.1 hp', hq]
      obtain ⟨_, g2⟩ := hB _ _ (h.mi R hB hR _ hp)
      obtain ⟨j', e, g3⟩ := g2 k hk
      rw [hj] at e
      injection e with e
      rw [← e] at g3
      exact g3
  · have e : (l ++ [q]).getD t (0, 0) = l.getD t (0, 0) := by rw [List.getD_eq_getElem?_getD, List.getD_eq_getElem?_getD, List.getElem?_append_left (by omega)]
    rw [e]
    obtain ⟨g1, g2⟩ := h.dn t ht
    exact ⟨g1, fun k hk => by obtain ⟨j, e1, e2⟩ := g2 k hk; exact ⟨j, e1, List.mem_append_left _ e2⟩⟩
theorem PrK.sub {l' : List (Nat × Nat)} (h : PrK ns ms o x y l k) (hs : ∀ p ∈ l, p ∈ l') : PrK ns ms o x y l' k := fun t ht => by obtain ⟨j, e1, e2⟩ := h t ht; exact ⟨j, e1, hs _ e2⟩
theorem PrK.more (h : PrK ns ms o x y l k) {j : Nat} {q : Nat × Nat} (hj : jP ns ms o (ns.getD x nd0) (ms.getD y nd0) k = some j) (hq : q = (((ns.getD x nd0).kids.getD k 0).toNat, ((ms.getD y nd0).kids.getD j 0).toNat)) (hm : q ∈ l) : PrK ns ms o x y l (k + 1) := fun t ht => by
  by_cases e : t = k
  · subst e; exact ⟨j, hj, by rw [← hq]; exact hm⟩
  · exact h t (by omega)
theorem PrI.next (h : PrI ns ms o x0 y0 l i) (hxy : l.getD i (0, 0) = (x, y)) (hok : okN (ns.getD x nd0) (ms.getD y nd0)) (hK : PrK ns ms o x y l (ns.getD x nd0).kids.length) : PrI ns ms o x0 y0 l (i + 1) :=
  ⟨h.rt, h.nd, h.rg, h.mi, fun t ht => by
    by_cases e : t = i
    · subst e; rw [hxy]; exact ⟨hok, hK⟩
    · exact h.dn t (by omega)⟩
theorem nd_mapP {α β : Type} (f : α → β) : ∀ l : List α, l.Nodup → (∀ a ∈ l, ∀ b ∈ l, f a = f b → a = b) → (l.map f).Nodup
  | [], _, _ => List.nodup_nil
  | a :: t, hn, hi => by
    rw [List.map_cons, List.nodup_cons]
    rw [List.nodup_cons] at hn
    refine ⟨fun h => ?_, nd_mapP f t hn.2 fun b hb c hc => hi b (by simp [hb]) c (by simp [hc])⟩
    obtain ⟨b, hb, e⟩ := List.mem_map.1 h
    have := hi a (by simp) b (by simp [hb]) e.symm
    exact hn.1 (by rw [this]; exact hb)
theorem PrI.len (h : PrI ns ms o x0 y0 l i) : l.length ≤ ns.length * ms.length := by
  have hlt : ∀ p ∈ l, p.1 * ms.length + p.2 < ns.length * ms.length := fun p hp => by
    obtain ⟨h1, h2⟩ := h.rg p hp
    have : (p.1 + 1) * ms.length ≤ ns.length * ms.length := Nat.mul_le_mul_right _ h1
    rw [Nat.add_mul, Nat.one_mul] at this
    omega
  have hn := nd_mapP (fun p : Nat × Nat => p.1 * ms.length + p.2) l h.nd fun a ha b hb e => by
    have h1 := (h.rg a ha).2
    have h2 := (h.rg b hb).2
    have e1 : a.1 = b.1 := by
      have z1 : (a.1 * ms.length + a.2) / ms.length = a.1 := by rw [Nat.mul_comm, Nat.mul_add_div (by omega), Nat.div_eq_of_lt h1, Nat.add_zero]
      have z2 : (b.1 * ms.length + b.2) / ms.length = b.1 := by rw [Nat.mul_comm, Nat.mul_add_div (by omega), Nat.div_eq_of_lt h2, Nat.add_zero]
      rw [← z1, ← z2, e]
    rw [e1] at e
    exact Prod.ext e1 (by omega)
  have := len_le hn (fun a ha => by obtain ⟨p, hp, rfl⟩ := List.mem_map.1 ha; exact hlt p hp)
  rw [List.length_map] at this
  exact this
theorem PrI.done (h : PrI ns ms o x0 y0 l l.length) : PrsOk ns ms o x0 y0 l := ⟨h.rt, fun x y hxy => by
  obtain ⟨t, ht, e⟩ := List.getElem_of_mem hxy
  have := h.dn t ht
  rw [List.getD_eq_getElem?_getD, List.getElem?_eq_getElem ht] at this
  simp only [Option.getD_some] at this
  rw [e] at this
  exact this, h.mi, h.nd⟩
theorem adq {na nb : Nd} {p q : Nat} (hna : na = ns.getD x nd0) (hnb : nb = ms.getD y nd0) (h : ∃ J, jP ns ms o na nb k = some J ∧ nb.kids.getD J 0 = (q : Int)) (hp : na.kids.getD k 0 = (p : Int)) :
    ∃ J, jP ns ms o (ns.getD x nd0) (ms.getD y nd0) k = some J ∧ (p, q) = (((ns.getD x nd0).kids.getD k 0).toNat, ((ms.getD y nd0).kids.getD J 0).toNat) := by
  obtain ⟨J, e1, e2⟩ := h
  rw [← hna, ← hnb]
  exact ⟨J, e1, by rw [hp, e2, Int.toNat_natCast, Int.toNat_natCast]⟩
theorem prk_in {j : Nat} {p : Nat × Nat} (h : PrI ns ms o x0 y0 l j ∧ PrK ns ms o x y l k ∧ j < l.length ∧ l.getD j (0, 0) = (x, y)) (ha : ∃ J, jP ns ms o (ns.getD x nd0) (ms.getD y nd0) k = some J ∧ p = (((ns.getD x nd0).kids.getD k 0).toNat, ((ms.getD y nd0).kids.getD J 0).toNat)) (hm : p ∈ l) :
    PrI ns ms o x0 y0 l j ∧ PrK ns ms o x y l (k + 1) ∧ j < l.length ∧ l.getD j (0, 0) = (x, y) := by
  obtain ⟨J, e1, e2⟩ := ha
  exact ⟨h.1, h.2.1.more e1 e2 hm, h.2.2⟩
theorem prk_add {j : Nat} {p : Nat × Nat} (h : PrI ns ms o x0 y0 l j ∧ PrK ns ms o x y l k ∧ j < l.length ∧ l.getD j (0, 0) = (x, y)) (hp : (x, y) ∈ l) (hk : k < (ns.getD x nd0).kids.length) (ha : ∃ J, jP ns ms o (ns.getD x nd0) (ms.getD y nd0) k = some J ∧ p = (((ns.getD x nd0).kids.getD k 0).toNat, ((ms.getD y nd0).kids.getD J 0).toNat)) (hr : p.1 < ns.length ∧ p.2 < ms.length) (hn : p ∉ l) :
    PrI ns ms o x0 y0 (l ++ [p]) j ∧ PrK ns ms o x y (l ++ [p]) (k + 1) ∧ j < (l ++ [p]).length ∧ (l ++ [p]).getD j (0, 0) = (x, y) := by
  obtain ⟨J, e1, e2⟩ := ha
  have h3 := h.2.2.1
  refine ⟨h.1.add (by omega) hp hk e1 e2 hr hn, (h.2.1.sub fun z hz => List.mem_append_left _ hz).more e1 e2 (by simp), by rw [List.length_append]; omega, ?_⟩
  rw [← h.2.2.2, List.getD_eq_getElem?_getD, List.getD_eq_getElem?_getD, List.getElem?_append_left h3]
end
/-- the pairs' cells -/
def pcs (l : List (Nat × Nat)) : List Value := l.flatMap fun p => [.int .i64 (p.1 : Int), .int .i64 (p.2 : Int)]
theorem pcs_app (l m : List (Nat × Nat)) : pcs (l ++ m) = pcs l ++ pcs m := by unfold pcs; rw [List.flatMap_append]
theorem pcs_get : ∀ (l : List (Nat × Nat)) (i : Nat), i < l.length → (pcs l)[i * 2]? = some (.int .i64 ((l.getD i (0, 0)).1 : Int)) ∧ (pcs l)[i * 2 + 1]? = some (.int .i64 ((l.getD i (0, 0)).2 : Int))
  | [], i, h => absurd h (by simp)
  | q :: t, 0, h => ⟨rfl, rfl⟩
  | q :: t, i + 1, h => by
    have := pcs_get t i (by simpa using h)
    have e : pcs (q :: t) = [.int .i64 (q.1 : Int), .int .i64 (q.2 : Int)] ++ pcs t := rfl
    rw [e, List.getD_cons_succ]
    refine ⟨?_, ?_⟩
    · rw [List.getElem?_append_right (by simp; omega)]
      simp only [List.length_cons, List.length_nil]
      rw [show (i + 1) * 2 - (0 + 1 + 1) = i * 2 by omega]; exact this.1
    · rw [List.getElem?_append_right (by simp; omega)]
      simp only [List.length_cons, List.length_nil]
      rw [show (i + 1) * 2 + 1 - (0 + 1 + 1) = i * 2 + 1 by omega]; exact this.2
/-- a box beside a row that grows -/
structure BxO (W : World) (lv : Value) (K : Nat) (cs : Array Value) (t : TypeId) : Prop where
  b : Bx W K cs t
  n : some K ≠ lv.ownBlock
theorem BxO.later {W W' : World} {lv : Value} {K : Nat} {cs : Array Value} {t : TypeId} (h : BxO W lv K cs t) (hb : Below W.heap.size W W') : BxO W' lv K cs t := ⟨h.b.later hb, h.n⟩
/-- the list in memory -/
structure PrM (w W : World) (lv : Value) (l : List (Nat × Nat)) : Prop where
  ow : W.ownsRow w.heap.size 77 2 lv l.length (pcs l)
  bl : Below w.heap.size w W
theorem PrM.later {w W W' : World} {lv : Value} {l : List (Nat × Nat)} (h : PrM w W lv l) (hb : Below W.heap.size W W') : PrM w W' lv l :=
  ⟨own_keep h.ow fun g hg => hb.block g (own_block h.ow hg).2, h.bl.trans (hb.mono h.bl.size)⟩
theorem PrM.beside {w W : World} {lv : Value} {l : List (Nat × Nat)} (h : PrM w W lv l) {K : Nat} (hK : W.heap.size ≤ K) : some K ≠ lv.ownBlock := fun e => by
  have := (own_block h.ow e.symm).2
  omega
theorem PrM.pat {w W : World} {ad : Option Addr} {n cap : Nat} {l : List (Nat × Nat)} (h : PrM w W (.slice ad n cap) l) (hn : n = l.length) : PAt W ad n l := by
  subst hn
  refine ⟨rfl, fun hp => ?_⟩
  have ho := h.ow
  rcases ho.2 with ⟨_, h3⟩ | ⟨g, c, cur, e, hb, hh, _⟩
  · omega
  · cases e
    refine ⟨g, 0, rfl, (Array.getElem?_eq_some_iff.1 hh).1, fun i hi => ?_⟩
    obtain ⟨c0, c1⟩ := pcs_get l i hi
    refine ⟨?_, ?_⟩
    · rw [Nat.zero_add, ho.cellAt _ (by omega)]; exact c0
    · rw [Nat.zero_add, ho.cellAt _ (by omega)]; exact c1
theorem PrM.step {w wr A eW : World} {lv ev : Value} {l : List (Nat × Nat)} {p : Nat × Nat} (h : PrM w wr lv l) (hA : Below wr.heap.size wr A)
    (r1 : eW.ownsRow w.heap.size 77 2 ev (l.length + 1) (pcs l ++ [.int .i64 (p.1 : Int), .int .i64 (p.2 : Int)])) (r2 : A.grownBy eW lv.ownBlock) (r4 : ev.ownBlock = lv.ownBlock ∨ ev.ownBlock = some A.heap.size) :
    PrM w eW ev (l ++ [p]) ∧ ∀ K cs t, BxO wr lv K cs t → BxO eW ev K cs t := by
  have hs := hA.size
  refine ⟨⟨?_, ?_⟩, fun K cs t hb => ?_⟩
  · rw [List.length_append, List.length_singleton, pcs_app]; exact r1
  · exact (h.bl.trans (hA.mono h.bl.size)).grown r2 (Nat.le_trans h.bl.size hs) (fun k e => (own_block h.ow e).1)
  · have hk := hb.b.lt
    refine ⟨((r2.block K (by omega) hb.n).trans (hA.block K hk)).trans hb.b, ?_⟩
    rcases r4 with e | e
    · rw [e]; exact hb.n
    · rw [e]; intro e2; injection e2 with e2; omega
theorem pm_start (w : World) (ca cb : Array Value) (x y : Nat) : ∀ W, W = (((w.alloc (.cells ca 24)).alloc (.cells cb 24)).alloc (.cells #[.int .i64 (x : Int), .int .i64 (y : Int)] 77)) →
    PrM w W (.slice (some ⟨w.heap.size + 1 + 1, 0, none⟩) 1 1) [(x, y)] ∧ BxO W (.slice (some ⟨w.heap.size + 1 + 1, 0, none⟩) 1 1) w.heap.size ca 24 ∧ BxO W (.slice (some ⟨w.heap.size + 1 + 1, 0, none⟩) 1 1) (w.heap.size + 1) cb 24 := by
  intro W hW
  subst hW
  have b1 := below_alloc w (.cells ca 24)
  have s1 : (w.alloc (.cells ca 24)).heap.size = w.heap.size + 1 := World.size_alloc _ _
  have n1 := Bx.new w ca 24
  generalize w.alloc (.cells ca 24) = w1 at *
  have b2 := below_alloc w1 (.cells cb 24)
  have s2 : (w1.alloc (.cells cb 24)).heap.size = w1.heap.size + 1 := World.size_alloc _ _
  have n2 := Bx.new w1 cb 24
  rw [s1] at n2 s2
  generalize w1.alloc (.cells cb 24) = w2 at *
  have b3 := below_alloc w2 (.cells #[.int .i64 (x : Int), .int .i64 (y : Int)] 77)
  have n3 := Bx.new w2 #[.int .i64 (x : Int), .int .i64 (y : Int)] 77
  rw [s2] at n3
  refine ⟨⟨⟨rfl, .inr ⟨w.heap.size + 1 + 1, 1, _, rfl, by omega, n3, Nat.le_refl _, by decide, rfl, rfl⟩⟩, (b1.trans (b2.mono b1.size)).trans (b3.mono (by omega))⟩, ⟨(n1.later b2).later b3, ?_⟩, n2.later b3, ?_⟩
  · intro e
    have : w.heap.size = w.heap.size + 1 + 1 := by injection e
    omega
  · intro e
    have : w.heap.size + 1 = w.heap.size + 1 + 1 := by injection e
    omega
end Go.Proofs.YtaflbooofchimaaGreatDoor.Alk
end
