/- Several texts as one: PlainEndY, PlainNum, PlainIs. -/
import Derived.Test.YtaphijgbebhdlaaGreatDoorV02UtfLeaf
import Derived.BigQuiet
import Derived.Laws.EntriesVeiled
import Derived.Deep.QuietTactic
import Derived.Test.YtaphijgbebhdlaaGreatDoorV03PlainShelf
import Derived.Test.YtaphijgbebhdlaaGreatDoorV01RowsPlain
import Derived.Lib.SmallJoins
import Derived.Lib.AtoiAllCases
section
/- plain.end: what ends a text, by the contracts of its closures. -/
namespace Go.Proofs.YtaphijgbebhdlaaGreatDoor.Pln
open Utf Rws
open Go.RowKit
set_option linter.unusedSimpArgs false
set_option linter.unusedVariables false
set_option maxRecDepth 100000

theorem inFlow_any (w : World) (bf bs : Nat) (f : Bool) (l : List UInt8) (i : Nat) (hs : l.length ≤ 562949953421312) (hi : i < l.length)
    (hf : w.cell? ⟨bf, 0, none⟩ = some (.bool f)) (hl : w.cell? ⟨bs, 0, none⟩ = some (.string (mk l))) :
    Calls Tryz.prog 117 #[.int .i64 i, .pointer (some ⟨bf, 0, none⟩), .pointer (some ⟨bs, 0, none⟩)] w fun e w' => e = .returned (.bool (f && fl (l.getD i 0))) ∧ w = w' := by
  have hsz := mk_size l
  have hg : ∀ h, (mk l)[i]'h = l.getD i 0 := fun h => mk_getD l i h
  have hlt : i < (mk l).size := by rw [mk_size]; exact hi
  have HF : Hid (fl (l.getD i 0) = has (l.getD i 0) (⟨#[44, 91, 93, 123, 125]⟩ : ByteArray).data.toList) := rfl
  cases f
  · go_enter Tryz.func117, Tryz.ntmps117
    go_wp2
    go_ret
    exact ⟨rfl, rfl⟩
  · generalize l.getD i 0 = b at hg HF ⊢
    go_enter Tryz.func117, Tryz.ntmps117
    go_wp2_with (first | (go_at_call 97; refine (isOneOf_any _ _ _).mono ?_; rintro e w' ⟨rfl, rfl⟩))
    go_ret
    rw [HF.out]
    exact ⟨rfl, rfl⟩

theorem b58 (b : UInt8) : ((b.toNat : Int) == 58) = (b == 58) := by
  rw [Bool.eq_iff_iff]
  simp only [beq_iff_eq]
  constructor
  · intro h; apply UInt8.toNat_inj.1; have : b.toNat = 58 := by omega
    rw [this]; rfl
  · rintro rfl; rfl
theorem b35 (b : UInt8) : ((b.toNat : Int) == 35) = (b == 35) := by
  rw [Bool.eq_iff_iff]
  simp only [beq_iff_eq]
  constructor
  · intro h; apply UInt8.toNat_inj.1; have : b.toNat = 35 := by omega
    rw [this]; rfl
  · rintro rfl; rfl

theorem ends_any (w : World) (bf bs bn : Nat) (f : Bool) (l : List UInt8) (i : Nat) (hs : l.length ≤ 562949953421312) (hi : i < l.length)
    (hf : w.cell? ⟨bf, 0, none⟩ = some (.bool f)) (hl : w.cell? ⟨bs, 0, none⟩ = some (.string (mk l))) (hn : w.cell? ⟨bn, 0, none⟩ = some (.func (.func 117) #[] #[.pointer (some ⟨bf, 0, none⟩), .pointer (some ⟨bs, 0, none⟩)])) :
    Calls Tryz.prog 118 #[.int .i64 i, .pointer (some ⟨bs, 0, none⟩), .pointer (some ⟨bn, 0, none⟩)] w fun e w' => e = .returned (.bool (en l f i)) ∧ w = w' := by
  have hsz := mk_size l
  have hg : ∀ h, (mk l)[i]'h = l.getD i 0 := fun h => mk_getD l i h
  have hlt : i < (mk l).size := by rw [mk_size]; exact hi
  have hb58 := b58 (l.getD i 0)
  have hb35 := b35 (l.getD i 0)
  cases c1 : (l.getD i 0 == 58)
  · rw [c1] at hb58
    cases c2 : (l.getD i 0 == 35)
    · rw [c2] at hb35
      have HE : Hid (en l f i = (f && fl (l.getD i 0))) := by unfold en; rw [c1, c2]; rfl
      clear c1 c2
      obtain ⟨V, HV⟩ : ∃ V, Hid ((f && fl (l.getD i 0)) = V) := ⟨_, rfl⟩
      have hI := inFlow_any w bf bs f l i hs hi hf hl
      rw [HV.out] at hI
      have HI : Hid (Calls Tryz.prog 117 #[.int .i64 i, .pointer (some ⟨bf, 0, none⟩), .pointer (some ⟨bs, 0, none⟩)] w fun e w' => e = .returned (.bool V) ∧ w = w') := hI
      clear hI
      generalize l.getD i 0 = b at hg hb58 hb35 HE HV
      go_enter Tryz.func118, Tryz.ntmps118
      go_wp2_with (first | (go_at_call 117; refine HI.out.mono ?_; rintro e w' ⟨rfl, rfl⟩))
      go_ret
      rw [HE.out, HV.out]
      exact ⟨rfl, rfl⟩
    · rw [c2] at hb35
      have HE : Hid (en l f i = (decide (0 < i) && l.getD (i - 1) 0 == 32)) := by unfold en; rw [c1, c2]; rfl
      clear c1 c2
      generalize l.getD i 0 = b at hg hb58 hb35
      by_cases h0 : 0 < i
      · obtain ⟨m, rfl⟩ : ∃ m, i = m + 1 := ⟨i - 1, by omega⟩
        have hlm : m < (mk l).size := by omega
        have hg2 : ∀ h, (mk l)[m]'h = l.getD m 0 := fun h => mk_getD l m h
        have hb2 := b32 (l.getD m 0)
        have HE2 : Hid (en l f (m + 1) = is32 (l.getD m 0)) := by rw [HE.out]; simp; rfl
        generalize l.getD m 0 = b2 at hg2 hb2 HE2
        generalize is32 b2 = V at hb2 HE2
        go_enter Tryz.func118, Tryz.ntmps118
        go_wp2
        go_ret
        rw [HE2.out]
        exact ⟨rfl, rfl⟩
      · obtain rfl : i = 0 := by omega
        have HE2 : Hid (en l f 0 = false) := by rw [HE.out]; rfl
        go_enter Tryz.func118, Tryz.ntmps118
        go_wp2
        go_ret
        rw [HE2.out]
        exact ⟨rfl, rfl⟩
  · rw [c1] at hb58
    have HE : Hid (en l f i = (i + 1 == l.length || l.getD (i + 1) 0 == 32 || (f && fl (l.getD (i + 1) 0)))) := by unfold en; rw [c1]; rfl
    clear c1 hb35
    generalize l.getD i 0 = b at hg hb58
    by_cases h1 : i + 1 = l.length
    · have HE2 : Hid (en l f i = true) := by rw [HE.out]; simp [h1, Hid]
      have hq : ((i : Int) + 1 == (l.length : Int)) = true := by rw [beq_iff_eq]; omega
      clear h1
      go_enter Tryz.func118, Tryz.ntmps118
      go_wp2
      go_ret
      rw [HE2.out]
      exact ⟨rfl, rfl⟩
    · have hq : ((i : Int) + 1 == (l.length : Int)) = false := by rw [beq_eq_false_iff_ne]; omega
      have h2 : i + 1 < l.length := by omega
      have hlm : i + 1 < (mk l).size := by omega
      have hg2 : ∀ h, (mk l)[i + 1]'h = l.getD (i + 1) 0 := fun h => mk_getD l (i + 1) h
      have hb2 := b32 (l.getD (i + 1) 0)
      have hI := inFlow_any w bf bs f l (i + 1) hs h2 hf hl
      have HE2 : Hid (en l f i = (is32 (l.getD (i + 1) 0) || (f && fl (l.getD (i + 1) 0)))) := by
        rw [HE.out]
        have e : (i + 1 == l.length) = false := by simp; omega
        rw [e]; rfl
      obtain ⟨V, HV⟩ : ∃ V, Hid ((f && fl (l.getD (i + 1) 0)) = V) := ⟨_, rfl⟩
      rw [HV.out] at hI HE2
      have HI : Hid (Calls Tryz.prog 117 #[.int .i64 ((i : Int) + 1), .pointer (some ⟨bf, 0, none⟩), .pointer (some ⟨bs, 0, none⟩)] w fun e w' => e = .returned (.bool V) ∧ w = w') := by
        have e : ((i + 1 : Nat) : Int) = (i : Int) + 1 := by omega
        rw [e] at hI; exact hI
      clear hI HE HV h1
      generalize l.getD (i + 1) 0 = b2 at hg2 hb2 HE2
      cases hV2 : is32 b2
      · rw [hV2] at hb2 HE2
        go_enter Tryz.func118, Tryz.ntmps118
        go_wp2_with (first | (go_at_call 117; refine HI.out.mono ?_; rintro e w' ⟨rfl, rfl⟩))
        go_ret
        rw [HE2.out]
        exact ⟨rfl, rfl⟩
      · rw [hV2] at hb2 HE2
        go_enter Tryz.func118, Tryz.ntmps118
        go_wp2
        go_ret
        rw [HE2.out]
        exact ⟨rfl, rfl⟩

theorem ender_any (l : List UInt8) (f : Bool) (w : World) :
    Calls Tryz.prog 99 #[.string (mk l), .bool f] w fun e w' => e = .returned (.func (.func 118) #[] #[.pointer (some ⟨w.heap.size, 0, none⟩), .pointer (some ⟨w.heap.size + 2, 0, none⟩)]) ∧ Below w.heap.size w w' ∧
      w'.cell? ⟨w.heap.size + 1, 0, none⟩ = some (.bool f) ∧ w'.cell? ⟨w.heap.size, 0, none⟩ = some (.string (mk l)) ∧ w'.cell? ⟨w.heap.size + 2, 0, none⟩ = some (.func (.func 117) #[] #[.pointer (some ⟨w.heap.size + 1, 0, none⟩), .pointer (some ⟨w.heap.size, 0, none⟩)]) := by
  go_enter Tryz.func99, Tryz.ntmps99
  go_wp2
  go_ret
  refine ⟨rfl, ?_, ?_, ?_, ?_⟩
  · exact (((Below.refl _ _).alloc (Nat.le_refl _) _).alloc (by simp) _).alloc (by simp; omega) _
  · simp [go_sem]
  · simp [go_sem]
  · simp [go_sem]

theorem end_any (l : List UInt8) (f : Bool) (w : World) (hs : l.length ≤ 562949953421312) :
    Calls Tryz.prog 84 #[.string (mk l), .bool f] w fun e w' => e = .returned (.int .i64 (fin l f)) ∧ Below w.heap.size w w' := by
  have hsz := mk_size l
  go_enter Tryz.func84, Tryz.ntmps84
  go_wp2_with (first | (go_at_call 99; refine (ender_any _ _ _).mono ?_; rintro e W ⟨rfl, hb, hf, hl, hn⟩))
  go_loop [12] (fun i => ∃ n : Nat, n ≤ l.length ∧ i = .int .i64 n ∧ fin l f = fro l f (l.length - n) n) (fun i => l.length - (intOf i).toNat)
  case atStart => exact ⟨0, Nat.zero_le _, rfl, rfl⟩
  case round =>
    obtain ⟨n, hn1, rfl, ht⟩ := hrel
    have HT : Hid (fin l f = fro l f (l.length - n) n) := ht
    clear ht
    by_cases hlt : n < l.length
    · obtain ⟨k, hk⟩ : ∃ k, l.length - n = k + 1 := ⟨l.length - n - 1, by omega⟩
      have hkn : k = l.length - (n + 1) := by omega
      cases he : en l f n
      · have HN : Hid (fin l f = fro l f (l.length - (n + 1)) (n + 1)) := by rw [HT.out, hk, fro, if_neg (by rw [he]; simp), hkn]; rfl
        clear hk hkn
        go_wp2_with (first | (go_at_call 118; refine (ends_any _ _ _ _ _ _ _ hs hlt hf hl hn).mono ?_; rintro e w' ⟨rfl, rfl⟩))
        go_round
        case rel => exact ⟨n + 1, by omega, by go_num, HN.out⟩
        case measure => simp [intOf]; omega
      · have HN : Hid (fin l f = n) := by rw [HT.out, hk, fro, if_pos he]; rfl
        clear hk hkn
        go_wp2_with (first | (go_at_call 118; refine (ends_any _ _ _ _ _ _ _ hs hlt hf hl hn).mono ?_; rintro e w' ⟨rfl, rfl⟩))
        go_ret
        rw [HN.out]
        exact ⟨rfl, hb⟩
    · have HN : Hid (fin l f = l.length) := by rw [HT.out, show l.length - n = 0 by omega, fro]; show n = l.length; omega
      go_wp2
      go_ret
      rw [HN.out]
      exact ⟨rfl, hb⟩

end Go.Proofs.YtaphijgbebhdlaaGreatDoor.Pln
end

section
/- plain.Text, plain.Number, plain.Resolve, by their contracts. -/
namespace Go.Proofs.YtaphijgbebhdlaaGreatDoor.Pln
open Utf Rws
open Go.RowKit
set_option linter.unusedSimpArgs false
set_option linter.unusedVariables false
set_option maxRecDepth 100000

/-- the table's name, as the row lists it -/
def powName : String := match Rows.layTreesRow.laid with
  | _ :: _ :: x :: _ => x.1
  | _ => Rows.layTreesRow.func
/-- what the library reads of the variables that the rows list -/
structure Tabs (w : World) : Prop where
  pow : Lib.TabIs Tryz.prog w powName .u64 Lib.pow10Tab
  syn : ∃ te pe, w.cell? ⟨3, 0, none⟩ = some (.iface te pe)
  rng : ∃ te pe, w.cell? ⟨4, 0, none⟩ = some (.iface te pe)

theorem Tabs.later {w w' : World} (h : Tabs w) (hb : Below w.heap.size w w') : Tabs w' := by
  obtain ⟨h1, ⟨t2, p2, h2⟩, ⟨t3, p3, h3⟩⟩ := h
  refine ⟨?_, ⟨t2, p2, ?_⟩, ⟨t3, p3, ?_⟩⟩
  · exact Joins.tab_stays (g := 2) (by kernel_rfl) h1 hb (Nat.le_refl _)
  · exact (hb.cell (p := ⟨3, 0, none⟩) (World.block_lt_of_cell? w _ h2)).trans h2
  · exact (hb.cell (p := ⟨4, 0, none⟩) (World.block_lt_of_cell? w _ h3)).trans h3

theorem below_grow (w : World) (k : Nat) (os : Array Obj) : Below w.heap.size w (Sort.grow (w.drewN k) os) :=
  ⟨rfl, rfl, rfl, by simp [Sort.grow], fun i hi => by simp [Sort.grow, Array.getElem?_append, hi]⟩
theorem itoa_any (n : Int) (w : World) (h : inI n) (hT : Tabs w) : Calls Tryz.prog 45 #[.int .i64 n] w fun e w' => e = .returned (.string (mk (Lib.itoa n))) ∧ Below w.heap.size w w' := by
  refine (Any.strconv_Itoa laysM171 n h.1 h.2 w hT.pow).mono ?_
  rintro e w' ⟨rfl, k, os, rfl⟩
  exact ⟨rfl, below_grow w k os⟩

theorem text_any (n : Int) (w : World) (h : inI n) (hT : Tabs w) : Calls Tryz.prog 101 #[.int .i64 n] w fun e w' => e = .returned (.string (mk (Lib.itoa n))) ∧ Below w.heap.size w w' := by
  have h1 := h.1
  have h2 := h.2
  go_enter Tryz.func101, Tryz.ntmps101
  go_wp2_with (first | (go_at_call 45; refine (itoa_any _ _ h hT).mono ?_; rintro e w' ⟨rfl, hb⟩))
  go_ret
  exact ⟨rfl, hb⟩

theorem eq_mk (a b : List UInt8) : ((mk a).toList == (mk b).toList) = (a == b) := by
  rw [ByteArray.toList_eq, ByteArray.toList_eq, mk_data, mk_data]

theorem number_any (l : List UInt8) (w : World) (hs : l.length ≤ 140737488351232) (hT : Tabs w) : Calls Tryz.prog 85 #[.string (mk l)] w fun e w' => e = .returned (.tuple #[.int .i64 (numN l), .bool (numB l)]) ∧ Below w.heap.size w w' := by
  have hsz := mk_size l
  cases ha : Lib.atoiAll l
  · rename_i v
    have hin := atoi_in ha
    have h1 := hin.1
    have h2 := hin.2
    have hA := Any.strconv_Atoi_ok laysC172 (mk l) (by rw [hsz]; omega) v (by rw [mk_data]; exact ha) w
    have hA' : Calls Tryz.prog 100 #[.string (mk l)] w fun e w' => e = .returned (.tuple #[.int .i64 v, .nilIface]) ∧ Below w.heap.size w w' := hA.mono (by
      rintro e w' ⟨rfl, h⟩
      refine ⟨rfl, ?_⟩
      rcases h with rfl | ⟨t, rfl⟩
      · exact Below.refl _ _
      · exact Lib.bytesWorld_below _ _ _)
    clear hA
    have HN := numA_ok ha
    have HA : Hid (Calls Tryz.prog 100 #[.string (mk l)] w fun e w' => e = .returned (.tuple #[.int .i64 v, .nilIface]) ∧ Below w.heap.size w w') := hA'
    clear hA' ha
    by_cases he : Lib.itoa v = l
    · have HE : Hid (numN l = v ∧ numB l = true) := by unfold numN numB; rw [HN, if_pos he]; exact ⟨rfl, rfl⟩
      have hq : ((mk (Lib.itoa v)).toList == (mk l).toList) = true := by rw [eq_mk, he]; simp
      clear he HN
      go_enter Tryz.func85, Tryz.ntmps85
      go_wp2_with (first | (go_at_call 100; refine HA.out.mono ?_; rintro e w1 ⟨rfl, hb1⟩) | (go_at_call 101; refine (text_any _ _ hin (hT.later hb1)).mono ?_; rintro e w2 ⟨rfl, hb2⟩))
      go_ret2
      rw [HE.out.1, HE.out.2]
      exact ⟨rfl, hb1.trans (hb2.mono hb1.size)⟩
    · have HE : Hid (numN l = 0 ∧ numB l = false) := by unfold numN numB; rw [HN, if_neg he]; exact ⟨rfl, rfl⟩
      have hq : ((mk (Lib.itoa v)).toList == (mk l).toList) = false := by rw [eq_mk]; simpa using he
      clear he HN
      go_enter Tryz.func85, Tryz.ntmps85
      go_wp2_with (first | (go_at_call 100; refine HA.out.mono ?_; rintro e w1 ⟨rfl, hb1⟩) | (go_at_call 101; refine (text_any _ _ hin (hT.later hb1)).mono ?_; rintro e w2 ⟨rfl, hb2⟩))
      go_ret2
      rw [HE.out.1, HE.out.2]
      exact ⟨rfl, hb1.trans (hb2.mono hb1.size)⟩
  · have HE : Hid (numN l = 0 ∧ numB l = false) := by unfold numN numB; rw [numA_no (fun v => by rw [ha]; exact fun h => by cases h)]; exact ⟨rfl, rfl⟩
    obtain ⟨te, pe, hv⟩ := hT.syn
    have hA := Any.strconv_Atoi_syntax laysC172 (mk l) (by rw [hsz]; omega) (by rw [mk_data]; exact ha) _ w hv (.inr ⟨te, pe, rfl⟩)
    have HA : Hid (Calls Tryz.prog 100 #[.string (mk l)] w fun e w' => ∃ N, e = .returned (.tuple #[.int .i64 0, .iface 195 (.pointer (some ⟨N, 0, none⟩))]) ∧ Below w.heap.size w w') := hA.mono (by
      rintro e w' ⟨N, h1, _, _, h2⟩
      exact ⟨N, h1, h2⟩)
    clear hA ha
    go_enter Tryz.func85, Tryz.ntmps85
    go_wp2_with (first | (go_at_call 100; refine HA.out.mono ?_; rintro e w1 ⟨N, rfl, hb1⟩))
    go_ret2
    rw [HE.out.1, HE.out.2]
    exact ⟨rfl, hb1⟩
  · have HE : Hid (numN l = 0 ∧ numB l = false) := by unfold numN numB; rw [numA_no (fun v => by rw [ha]; exact fun h => by cases h)]; exact ⟨rfl, rfl⟩
    obtain ⟨te, pe, hv⟩ := hT.rng
    have hA := Any.strconv_Atoi_range laysC172 (mk l) (by rw [hsz]; omega) (by rw [mk_data]; exact ha) _ w hv (.inr ⟨te, pe, rfl⟩)
    obtain ⟨S, HS⟩ : ∃ S, Hid (Lib.atoiSat (mk l).data.toList = S) := ⟨_, rfl⟩
    rw [HS.out] at hA
    have HA : Hid (Calls Tryz.prog 100 #[.string (mk l)] w fun e w' => ∃ N, e = .returned (.tuple #[.int .i64 S, .iface 195 (.pointer (some ⟨N, 0, none⟩))]) ∧ Below w.heap.size w w') := hA.mono (by
      rintro e w' ⟨N, h1, _, _, h2⟩
      exact ⟨N, h1, h2⟩)
    clear hA ha
    go_enter Tryz.func85, Tryz.ntmps85
    go_wp2_with (first | (go_at_call 100; refine HA.out.mono ?_; rintro e w1 ⟨N, rfl, hb1⟩))
    go_ret2
    rw [HE.out.1, HE.out.2]
    exact ⟨rfl, hb1⟩

/-- the kinds: Null 1, Bool 2, Int 3, Str 4 -/
def kind (l : List UInt8) : Int :=
  if (l == [] || l == [126] || l == [110, 117, 108, 108]) = true then 1
  else if (l == [116, 114, 117, 101] || l == [102, 97, 108, 115, 101]) = true then 2
  else if numB l = true then 3 else 4
theorem eq_l (l d : List UInt8) : ((mk l).toList == d) = (l == d) := by rw [ByteArray.toList_eq, mk_data]
theorem resolve_any (l : List UInt8) (w : World) (hs : l.length ≤ 140737488351232) (hT : Tabs w) : Calls Tryz.prog 66 #[.string (mk l)] w fun e w' => e = .returned (.int .i64 (kind l)) ∧ Below w.heap.size w w' := by
  have q1 := eq_l l []
  have q2 := eq_l l [126]
  have q3 := eq_l l [110, 117, 108, 108]
  have q4 := eq_l l [116, 114, 117, 101]
  have q5 := eq_l l [102, 97, 108, 115, 101]
  cases c1 : (l == [])
  · cases c2 : (l == [126])
    · cases c3 : (l == [110, 117, 108, 108])
      · cases c4 : (l == [116, 114, 117, 101])
        · cases c5 : (l == [102, 97, 108, 115, 101])
          · cases hn : numB l
            · have HE : Hid (kind l = 4) := by unfold kind; rw [c1, c2, c3, c4, c5, hn]; rfl
              rw [c1] at q1; rw [c2] at q2; rw [c3] at q3; rw [c4] at q4; rw [c5] at q5
              have HN : Hid (Calls Tryz.prog 85 #[.string (mk l)] w fun e w' => e = .returned (.tuple #[.int .i64 (numN l), .bool false]) ∧ Below w.heap.size w w') := by rw [← hn]; exact number_any l w hs hT
              clear c1 c2 c3 c4 c5 hn
              go_enter Tryz.func66, Tryz.ntmps66
              go_wp2_with (first | (go_at_call 85; refine HN.out.mono ?_; rintro e w1 ⟨rfl, hb1⟩))
              go_ret
              rw [HE.out]
              exact ⟨rfl, hb1⟩
            · have HE : Hid (kind l = 3) := by unfold kind; rw [c1, c2, c3, c4, c5, hn]; rfl
              rw [c1] at q1; rw [c2] at q2; rw [c3] at q3; rw [c4] at q4; rw [c5] at q5
              have HN : Hid (Calls Tryz.prog 85 #[.string (mk l)] w fun e w' => e = .returned (.tuple #[.int .i64 (numN l), .bool true]) ∧ Below w.heap.size w w') := by rw [← hn]; exact number_any l w hs hT
              clear c1 c2 c3 c4 c5 hn
              go_enter Tryz.func66, Tryz.ntmps66
              go_wp2_with (first | (go_at_call 85; refine HN.out.mono ?_; rintro e w1 ⟨rfl, hb1⟩))
              go_ret
              rw [HE.out]
              exact ⟨rfl, hb1⟩
          · have HE : Hid (kind l = 2) := by unfold kind; rw [c1, c2, c3, c4, c5]; rfl
            rw [c1] at q1; rw [c2] at q2; rw [c3] at q3; rw [c4] at q4; rw [c5] at q5
            clear c1 c2 c3 c4 c5
            go_enter Tryz.func66, Tryz.ntmps66
            go_wp2
            go_ret
            rw [HE.out]
            exact ⟨rfl, Below.refl _ _⟩
        · have HE : Hid (kind l = 2) := by unfold kind; rw [c1, c2, c3, c4]; rfl
          rw [c1] at q1; rw [c2] at q2; rw [c3] at q3; rw [c4] at q4
          clear c1 c2 c3 c4 q5
          go_enter Tryz.func66, Tryz.ntmps66
          go_wp2
          go_ret
          rw [HE.out]
          exact ⟨rfl, Below.refl _ _⟩
      · have HE : Hid (kind l = 1) := by unfold kind; rw [c1, c2, c3]; rfl
        rw [c1] at q1; rw [c2] at q2; rw [c3] at q3
        clear c1 c2 c3 q4 q5
        go_enter Tryz.func66, Tryz.ntmps66
        go_wp2
        go_ret
        rw [HE.out]
        exact ⟨rfl, Below.refl _ _⟩
    · have HE : Hid (kind l = 1) := by unfold kind; rw [c1, c2]; rfl
      rw [c1] at q1; rw [c2] at q2
      clear c1 c2 q3 q4 q5
      go_enter Tryz.func66, Tryz.ntmps66
      go_wp2
      go_ret
      rw [HE.out]
      exact ⟨rfl, Below.refl _ _⟩
  · have HE : Hid (kind l = 1) := by unfold kind; rw [c1]; rfl
    rw [c1] at q1
    clear c1 q2 q3 q4 q5
    go_enter Tryz.func66, Tryz.ntmps66
    go_wp2
    go_ret
    rw [HE.out]
    exact ⟨rfl, Below.refl _ _⟩

end Go.Proofs.YtaphijgbebhdlaaGreatDoor.Pln
end

section
/- plain.isPrintable, plain.beginsPlain, plain.Is, by their contracts. -/
namespace Go.Proofs.YtaphijgbebhdlaaGreatDoor.Pln
open Utf Rws
open Go.RowKit
set_option linter.unusedSimpArgs false
set_option linter.unusedVariables false
set_option maxRecDepth 100000

theorem field0 (a b : Int) (w : World) : (Instr.field 141 (.agg #[.int .i64 a, .int .i64 b]) 0).run Tryz.prog w = .ok (.int .i64 a) w := by kernel_rfl

theorem isPrintable_any (l : List UInt8) (w : World) (hs : l.length ≤ 140737488351232) : Calls Tryz.prog 82 #[.string (mk l)] w fun e w' => e = .returned (.bool (pri l)) ∧ Below w.heap.size w w' := by
  have hfd := field0
  have hs' : (mk l).size ≤ maxLen := by rw [mk_size]; unfold maxLen; omega
  have HC := check_any (mk l) w hs'
  rw [mk_data] at HC
  cases hc : chk l with
  | none =>
    have HP : Hid (pri l = !anyB l) := by unfold pri; rw [hc, anyB_has]; rfl
    have HCC : Hid (Calls Tryz.prog 95 #[.string (mk l)] w fun e w' => e = .returned (.agg #[.int .i64 0, .int .i64 0]) ∧ Below w.heap.size w w') := by rw [hc] at HC; exact HC
    clear HC hc
    go_enter Tryz.func82, Tryz.ntmps82
    go_wp2_with (first | (go_at_call 95; refine HCC.out.mono ?_; rintro e w1 ⟨rfl, hb1⟩) | (go_at_call 96; refine (containsAny_any _ _ hs).mono ?_; rintro e w2 ⟨rfl, hb2⟩))
    go_ret
    rw [HP.out]
    exact ⟨rfl, hb1.trans (hb2.mono hb1.size)⟩
  | some p =>
    have HP : Hid (pri l = false) := by unfold pri; rw [hc]; rfl
    have HCC : Hid (Calls Tryz.prog 95 #[.string (mk l)] w fun e w' => e = .returned (.agg #[.int .i64 8, .int .i64 p]) ∧ Below w.heap.size w w') := by rw [hc] at HC; exact HC
    clear HC hc
    go_enter Tryz.func82, Tryz.ntmps82
    go_wp2_with (first | (go_at_call 95; refine HCC.out.mono ?_; rintro e w1 ⟨rfl, hb1⟩))
    go_ret
    rw [HP.out]
    exact ⟨rfl, hb1⟩

theorem b32n (b : UInt8) : ((b.toNat : Int) != 32) = !is32 b := by rw [bne, b32]

theorem beginsPlain_any (l : List UInt8) (w : World) (hs : l.length ≤ 140737488351232) : Calls Tryz.prog 83 #[.string (mk l)] w fun e w' => e = .returned (.bool (bg l)) ∧ w = w' := by
  have q1 := eq_l l []
  have q2 := eq_l l [45]
  have q3 := eq_l l [45, 45, 45]
  cases c1 : (l == [])
  · have h0 : l ≠ [] := by simpa using c1
    have hl : 0 < l.length := List.length_pos_iff.2 h0
    cases c2 : (l == [45])
    · cases c3 : (l == [45, 45, 45])
      · have HB : Hid (bg l = (!(l.getD 0 0 == 32) && !(mrk (l.getD 0 0)) && !(l.take 2 == [45, 32]))) := by
          unfold bg; rw [c1, c2, c3]; rfl
        rw [c1] at q1; rw [c2] at q2; rw [c3] at q3
        have hsz := mk_size l
        have hg : ∀ h, (mk l)[0]'h = l.getD 0 0 := fun h => mk_getD l 0 h
        have hb := b32n (l.getD 0 0)
        have HM : Hid (mrk (l.getD 0 0) = has (l.getD 0 0) (⟨#[63, 58, 44, 91, 93, 123, 125, 35, 38, 42, 33, 124, 62, 39, 34, 37, 64, 96]⟩ : ByteArray).data.toList) := rfl
        rw [show (l.getD 0 0 == 32) = is32 (l.getD 0 0) from rfl] at HB
        clear c1 c2 c3 h0
        obtain ⟨V, HV⟩ : ∃ V, Hid ((l.take 2 == [45, 32]) = V) := ⟨_, rfl⟩
        have HH : Hid (Calls Tryz.prog 98 #[.string (mk l), .string ⟨#[45, 32]⟩] w fun e w' => e = .returned (.bool V) ∧ w = w') := by rw [← HV.out]; exact hasPrefix_any l w
        rw [HV.out] at HB
        clear HV
        generalize l.getD 0 0 = b at hg hb HM HB
        cases e1 : is32 b
        · rw [e1] at hb HB
          cases e2 : mrk b
          · rw [e2] at HM HB
            have HO : Hid (Calls Tryz.prog 97 #[.int .u8 (b.toNat : Int), .string ⟨#[63, 58, 44, 91, 93, 123, 125, 35, 38, 42, 33, 124, 62, 39, 34, 37, 64, 96]⟩] w fun e w' => e = .returned (.bool false) ∧ w = w') := by rw [HM.out]; exact isOneOf_any _ b w
            clear HM
            go_enter Tryz.func83, Tryz.ntmps83
            go_wp2_with (first | (go_at_call 97; refine HO.out.mono ?_; rintro e w' ⟨rfl, rfl⟩) | (go_at_call 98; refine HH.out.mono ?_; rintro e w' ⟨rfl, rfl⟩))
            go_ret
            rw [HB.out]
            exact ⟨rfl, rfl⟩
          · rw [e2] at HM HB
            have HO : Hid (Calls Tryz.prog 97 #[.int .u8 (b.toNat : Int), .string ⟨#[63, 58, 44, 91, 93, 123, 125, 35, 38, 42, 33, 124, 62, 39, 34, 37, 64, 96]⟩] w fun e w' => e = .returned (.bool true) ∧ w = w') := by rw [HM.out]; exact isOneOf_any _ b w
            clear HM
            go_enter Tryz.func83, Tryz.ntmps83
            go_wp2_with (first | (go_at_call 97; refine HO.out.mono ?_; rintro e w' ⟨rfl, rfl⟩) | (go_at_call 98; refine HH.out.mono ?_; rintro e w' ⟨rfl, rfl⟩))
            go_ret
            rw [HB.out]
            exact ⟨rfl, rfl⟩
        · rw [e1] at hb HB
          go_enter Tryz.func83, Tryz.ntmps83
          go_wp2
          go_ret
          rw [HB.out]
          exact ⟨rfl, rfl⟩
      · have HB : Hid (bg l = false) := by unfold bg; rw [c1, c2, c3]; rfl
        rw [c1] at q1; rw [c2] at q2; rw [c3] at q3
        clear c1 c2 c3
        go_enter Tryz.func83, Tryz.ntmps83
        go_wp2
        go_ret
        rw [HB.out]
        exact ⟨rfl, rfl⟩
    · have HB : Hid (bg l = false) := by unfold bg; rw [c1, c2]; rfl
      rw [c1] at q1; rw [c2] at q2
      clear c1 c2 q3
      go_enter Tryz.func83, Tryz.ntmps83
      go_wp2
      go_ret
      rw [HB.out]
      exact ⟨rfl, rfl⟩
  · have HB : Hid (bg l = false) := by unfold bg; rw [c1]; rfl
    rw [c1] at q1
    clear c1 q2 q3
    go_enter Tryz.func83, Tryz.ntmps83
    go_wp2
    go_ret
    rw [HB.out]
    exact ⟨rfl, rfl⟩

theorem bg_ne {l : List UInt8} (h : bg l = true) : 0 < l.length := by
  cases l with
  | nil => unfold bg at h; simp at h
  | cons b r => simp

theorem is_any (l : List UInt8) (f : Bool) (w : World) (hs : l.length ≤ 140737488351232) : Calls Tryz.prog 65 #[.string (mk l), .bool f] w fun e w' => e = .returned (.bool (isP l f)) ∧ Below w.heap.size w w' := by
  have HP : isP l f = (pri l && bg l && !(is32 (l.getD (l.length - 1) 0)) && (fin l f == l.length)) := rfl
  have P1 := isPrintable_any l w hs
  cases e1 : pri l
  · have HE : Hid (isP l f = false) := by rw [HP, e1]; rfl
    rw [e1] at P1
    have HP1 : Hid (Calls Tryz.prog 82 #[.string (mk l)] w fun e w' => e = .returned (.bool false) ∧ Below w.heap.size w w') := P1
    clear P1 HP e1
    go_enter Tryz.func65, Tryz.ntmps65
    go_wp2_with (first | (go_at_call 82; refine HP1.out.mono ?_; rintro e w1 ⟨rfl, hb1⟩))
    go_ret
    rw [HE.out]
    exact ⟨rfl, hb1⟩
  · rw [e1] at P1 HP
    have HP1 : Hid (Calls Tryz.prog 82 #[.string (mk l)] w fun e w' => e = .returned (.bool true) ∧ Below w.heap.size w w') := P1
    clear P1 e1
    cases e2 : bg l
    · have HE : Hid (isP l f = false) := by rw [HP, e2]; rfl
      have HB : Hid (∀ w, Calls Tryz.prog 83 #[.string (mk l)] w fun e w' => e = .returned (.bool false) ∧ w = w') := fun w => by rw [← e2]; exact beginsPlain_any l w hs
      clear HP e2
      go_enter Tryz.func65, Tryz.ntmps65
      go_wp2_with (first | (go_at_call 82; refine HP1.out.mono ?_; rintro e w1 ⟨rfl, hb1⟩) | (go_at_call 83; refine (HB.out _).mono ?_; rintro e w' ⟨rfl, rfl⟩))
      go_ret
      rw [HE.out]
      exact ⟨rfl, hb1⟩
    · have hl := bg_ne e2
      have HB : Hid (∀ w, Calls Tryz.prog 83 #[.string (mk l)] w fun e w' => e = .returned (.bool true) ∧ w = w') := fun w => by rw [← e2]; exact beginsPlain_any l w hs
      rw [e2] at HP
      clear e2
      obtain ⟨m, hm⟩ : ∃ m, l.length = m + 1 := ⟨l.length - 1, by omega⟩
      have hsz : (mk l).size = m + 1 := by rw [mk_size]; exact hm
      have hg : ∀ h, (mk l)[m]'h = l.getD m 0 := fun h => mk_getD l m h
      have hb := b32n (l.getD m 0)
      rw [show l.length - 1 = m by omega] at HP
      have hmb : m + 1 ≤ 140737488351232 := by omega
      have hsl : l.length ≤ 562949953421312 := by omega
      cases e3 : is32 (l.getD m 0)
      · rw [e3] at hb HP
        generalize l.getD m 0 = b at hg hb
        have HQ : Hid (isP l f = ((fin l f : Int) == ((m : Int) + 1))) := by
          have e : (fin l f == m + 1) = ((fin l f : Int) == ((m : Int) + 1)) := by rw [Bool.eq_iff_iff, beq_iff_eq, beq_iff_eq]; omega
          rw [HP, hm, e]; rfl
        clear HP
        have HL : Hid (l.length = m + 1) := hm
        clear hm hl
        go_enter Tryz.func65, Tryz.ntmps65
        go_wp2_with (first | (go_at_call 82; refine HP1.out.mono ?_; rintro e w1 ⟨rfl, hb1⟩) | (go_at_call 83; refine (HB.out _).mono ?_; rintro e w' ⟨rfl, rfl⟩) | (go_at_call 84; refine (end_any _ _ _ hsl).mono ?_; rintro e w2 ⟨rfl, hb2⟩))
        go_ret
        rw [HQ.out]
        exact ⟨rfl, hb1.trans (hb2.mono hb1.size)⟩
      · have HE : Hid (isP l f = false) := by rw [HP, e3]; rfl
        rw [e3] at hb
        clear HP e3
        generalize l.getD m 0 = b at hg hb
        have HL : Hid (l.length = m + 1) := hm
        clear hm hl
        go_enter Tryz.func65, Tryz.ntmps65
        go_wp2_with (first | (go_at_call 82; refine HP1.out.mono ?_; rintro e w1 ⟨rfl, hb1⟩) | (go_at_call 83; refine (HB.out _).mono ?_; rintro e w' ⟨rfl, rfl⟩))
        go_ret
        rw [HE.out]
        exact ⟨rfl, hb1⟩

end Go.Proofs.YtaphijgbebhdlaaGreatDoor.Pln
end
