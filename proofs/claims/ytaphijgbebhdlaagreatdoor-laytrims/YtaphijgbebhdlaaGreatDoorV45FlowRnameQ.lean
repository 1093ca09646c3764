/- Several texts as one: FlowRnameQ, FlowRtext, FlowRmany, FlowFine. -/
import Derived.Test.YtaphijgbebhdlaaGreatDoorRows
import Derived.Test.YtaphijgbebhdlaaGreatDoorV01RowsPlain
import Derived.WalkKit
import Derived.WalkSpells
import Derived.WalkLawsBesides
import Derived.Laws.BitsAllLaws
import Derived.Test.YtaphijgbebhdlaaGreatDoorV27LayWr
import Derived.Test.YtaphijgbebhdlaaGreatDoorV09FlowAllow
import Derived.Test.YtaphijgbebhdlaaGreatDoorV29PlainRef3
import Derived.Test.YtaphijgbebhdlaaGreatDoorV34UtfRefG
import Derived.Deep.RegionWith
section
/- grommetref09.letter, Name, by their contracts. -/
namespace Go.Proofs.YtaphijgbebhdlaaGreatDoor.Flw
open Utf Rws Pln
open Go.RowKit
set_option linter.unusedSimpArgs false
set_option linter.unusedVariables false
set_option maxRecDepth 100000

theorem rletter_any (c : UInt8) (w : World) : Calls Tryz.prog 93 #[.int .u8 (c.toNat : Int)] w fun e w' => e = .returned (.bool (letter c)) ∧ w = w' := by
  have hb : c.toNat < 256 := c.toNat_lt
  obtain ⟨x, hx⟩ : ∃ x, x = c.toNat := ⟨_, rfl⟩
  have HX : Hid (letter c = (decide (97 ≤ x ∧ x ≤ 122) || decide (65 ≤ x ∧ x ≤ 90) || decide (48 ≤ x ∧ x ≤ 57) || decide (x = 45) || decide (x = 95))) := letter_num hx
  rw [← hx] at hb ⊢
  clear hx
  by_cases a1 : x < 48
  · go_enter Tryz.func93, Tryz.ntmps93
    go_wp2
    all_goals
      go_ret
      refine ⟨congrArg (fun q => Ending.returned (.bool q)) ?_, rfl⟩
      rw [HX.out, Bool.eq_iff_iff]
      simp
      omega
  by_cases a2 : x < 65
  · go_enter Tryz.func93, Tryz.ntmps93
    go_wp2
    all_goals
      go_ret
      refine ⟨congrArg (fun q => Ending.returned (.bool q)) ?_, rfl⟩
      rw [HX.out, Bool.eq_iff_iff]
      simp
      omega
  by_cases a3 : x < 97
  · go_enter Tryz.func93, Tryz.ntmps93
    go_wp2
    all_goals
      go_ret
      refine ⟨congrArg (fun q => Ending.returned (.bool q)) ?_, rfl⟩
      rw [HX.out, Bool.eq_iff_iff]
      simp
      omega
  go_enter Tryz.func93, Tryz.ntmps93
  go_wp2
  all_goals
    go_ret
    refine ⟨congrArg (fun q => Ending.returned (.bool q)) ?_, rfl⟩
    rw [HX.out, Bool.eq_iff_iff]
    simp
    omega

theorem rname_any (l : Ln) (w : World) (hs : l.length ≤ 562949953421312) : Calls Tryz.prog 75 #[.string (mk l)] w fun e w' => e = .returned (.bool (isName l)) ∧ w = w' := by
  have hsz := mk_size l
  go_enter Tryz.func75, Tryz.ntmps75
  go_wp2
  go_loop [3] (fun i => ∃ n : Nat, n ≤ l.length ∧ i = .int .i64 n ∧ (l.take n).all letter = true) (fun i => l.length - (intOf i).toNat)
  case atStart => exact ⟨0, Nat.zero_le _, rfl, rfl⟩
  case round =>
    obtain ⟨n, hn1, rfl, ht⟩ := hrel
    have HT : Hid ((l.take n).all letter = true) := ht
    clear ht
    by_cases hlt : n < l.length
    · have hg : ∀ h, (mk l)[n]'h = l.getD n 0 := fun h => getD_mk l n h
      have hlt' : n < (mk l).size := by rw [mk_size]; exact hlt
      have hsn := all_take l n hlt
      rw [HT.out, Bool.true_and] at hsn
      have HSN : Hid ((l.take (n + 1)).all letter = letter (l.getD n 0)) := hsn
      have HH : Hid (letter (l.getD n 0) = false → isName l = false) := all_hit l n hlt
      clear hsn
      generalize l.getD n 0 = b at hg HSN HH
      have HC := fun w => rletter_any b w
      cases hbc : letter b
      · rw [hbc] at HC
        go_wp2_with (go_at_call 93; refine (HC _).mono ?_; rintro e w' ⟨rfl, rfl⟩)
        go_ret
        rw [HH.out hbc]
        exact ⟨rfl, rfl⟩
      · rw [hbc] at HC HSN
        go_wp2_with (go_at_call 93; refine (HC _).mono ?_; rintro e w' ⟨rfl, rfl⟩)
        go_round
        case rel => exact ⟨n + 1, by omega, by go_num, HSN.out⟩
        case measure => simp [intOf]; omega
    · have HN : Hid (isName l = (decide (1 ≤ l.length) && decide (l.length ≤ 32))) := by
        have := HT.out
        rw [List.take_of_length_le (by omega)] at this
        unfold isName
        rw [this]
        exact rfl
      have e : n = l.length := by omega
      subst e
      by_cases h1 : 1 ≤ l.length
      · by_cases h2 : l.length ≤ 32
        · go_wp2
          go_ret
          rw [HN.out]
          exact ⟨by simp [h1, h2]; omega, rfl⟩
        · go_wp2
          go_ret
          rw [HN.out]
          exact ⟨by simp [h1, h2]; omega, rfl⟩
      · go_wp2
        go_ret
        rw [HN.out]
        exact ⟨by simp [h1], rfl⟩
end Go.Proofs.YtaphijgbebhdlaaGreatDoor.Flw
end

section
/- The document's scalar and text. -/
namespace Go.Proofs.YtaphijgbebhdlaaGreatDoor.Flw
open Utf Rws Pln
open Go.RowKit
set_option linter.unusedSimpArgs false
set_option linter.unusedVariables false
set_option maxRecDepth 100000
set_option maxHeartbeats 2000000

theorem rscalar_any (k : Int) (w : World) : Calls Tryz.prog 77 #[.int .i64 k] w fun e w' => e = .returned (.bool (decide (1 ≤ k) && decide (k ≤ 4))) ∧ w = w' := by
  by_cases h1 : 1 ≤ k
  · by_cases h4 : k ≤ 4
    · go_enter Tryz.func77, Tryz.ntmps77
      go_wp2
      go_ret
      exact ⟨by simp [h1, h4], rfl⟩
    · have h4' : 4 < k := by omega
      go_enter Tryz.func77, Tryz.ntmps77
      go_wp2
      go_ret
      exact ⟨by simp [h4], rfl⟩
  · have h1' : k < 1 := by omega
    go_enter Tryz.func77, Tryz.ntmps77
    go_wp2
    go_ret
    exact ⟨by rw [decide_eq_false (show ¬ (1 ≤ k) by omega)]; rfl, rfl⟩
theorem rtext9_any (k : Int) (l : Ln) (w : World) (hl : l.length ≤ 65536) : Calls Tryz.prog 76 #[.int .i64 k, .string (mk l)] w fun e w' => e = .returned (.bool (txt k l)) ∧ Below w.heap.size w w' := by
  by_cases h2 : k = 2
  · subst h2
    have HV : Hid (txt 2 l = (l == [116, 114, 117, 101] || l == [102, 97, 108, 115, 101])) := rfl
    have e1 : ((mk l).toList == [116, 114, 117, 101]) = (l == [116, 114, 117, 101]) := by rw [ByteArray.toList_eq, mk_data]
    have e2 : ((mk l).toList == [102, 97, 108, 115, 101]) = (l == [102, 97, 108, 115, 101]) := by rw [ByteArray.toList_eq, mk_data]
    cases c1 : (l == [116, 114, 117, 101]) <;> cases c2 : (l == [102, 97, 108, 115, 101]) <;> rw [c1] at e1 <;> rw [c2] at e2 <;> rw [c1, c2] at HV <;> clear c1 c2 <;>
    · go_enter Tryz.func76, Tryz.ntmps76
      go_wp2
      go_ret
      exact ⟨by rw [HV.out]; rfl, Below.refl _ _⟩
  by_cases h3 : k = 3
  · subst h3
    have HV : Hid (txt 3 l = decide (knd l = 3)) := rfl
    have HR : Hid (Calls Tryz.prog 91 #[.string (mk l)] w fun e w' => e = .returned (.int .i64 (knd l)) ∧ Hid (Below w.heap.size w w')) := rresolve_any l w (by omega)
    generalize knd l = kx at *
    go_enter Tryz.func76, Tryz.ntmps76
    go_wp2_with fail
    refine HR.out.mono ?_
    rintro e w1 ⟨rfl, H1⟩
    go_wp2
    go_ret
    refine ⟨?_, H1.out⟩
    rw [HV.out]
    by_cases h : kx = 3 <;> simp [h]
  by_cases h4 : k = 4
  · subst h4
    have HV : Hid (txt 4 l = (dec l).2.isNone) := rfl
    have HD : Hid (Calls Tryz.prog 92 #[.string (mk l)] w fun e w' => ∃ a n cap z, e = .returned (.tuple #[.slice a n cap, .agg #[.int .i64 (if (dec l).2.isNone then 0 else 8), .int .i64 z]]) ∧ Hid (Below w.heap.size w w')) := by
      cases hd : (dec l).2 with
      | none => exact (Quo.rdec_yes l w (by omega) _ rfl hd).mono (fun e w' g => by obtain ⟨a, cap, e1, _, hb⟩ := g; exact ⟨a, _, cap, 0, e1, hb⟩)
      | some p => exact (Quo.rdec_no l w (by omega) hd).mono (fun e w' g => by
          rcases g with ⟨e1, hb⟩ | ⟨a, cap, e1, hb⟩
          · exact ⟨none, 0, 0, _, e1, hb⟩
          · exact ⟨a, 0, cap, _, e1, hb⟩)
    generalize (dec l).2.isNone = q at *
    clear hl
    cases q
    · go_enter Tryz.func76, Tryz.ntmps76
      go_wp2_with fail
      refine HD.out.mono ?_
      rintro e w1 ⟨a, n, cap, z, rfl, H1⟩
      have HB : Hid (∀ o, Below w.heap.size w (w1.alloc o)) := fun o => H1.out.alloc H1.out.size o
      go_wp2
      go_ret
      exact ⟨by rw [HV.out]; rfl, HB.out _⟩
    · go_enter Tryz.func76, Tryz.ntmps76
      go_wp2_with fail
      refine HD.out.mono ?_
      rintro e w1 ⟨a, n, cap, z, rfl, H1⟩
      have HB : Hid (∀ o, Below w.heap.size w (w1.alloc o)) := fun o => H1.out.alloc H1.out.size o
      go_wp2
      go_ret
      exact ⟨by rw [HV.out]; rfl, HB.out _⟩
  · have HV : Hid (txt k l = (l == [])) := by unfold txt; rw [if_neg h2, if_neg h3, if_neg h4]; exact rfl
    have e1 : ((mk l).toList == []) = (l == []) := by rw [ByteArray.toList_eq, mk_data]
    have e2 : (mk l).toList.isEmpty = (l == []) := by rw [ByteArray.toList_eq, mk_data]; cases l <;> rfl
    have g2 : (k == 2) = false := by simpa using h2
    have g3 : (k == 3) = false := by simpa using h3
    have g4 : (k == 4) = false := by simpa using h4
    clear h2 h3 h4 hl
    cases c : (l == []) <;> rw [c] at e1 e2 HV <;> clear c <;>
    · go_enter Tryz.func76, Tryz.ntmps76
      go_wp2
      go_ret
      exact ⟨by rw [HV.out]; rfl, Below.refl _ _⟩
end Go.Proofs.YtaphijgbebhdlaaGreatDoor.Flw
end

section
/- grommetref09.many, by its contract. -/
namespace Go.Proofs.YtaphijgbebhdlaaGreatDoor.Flw
open Utf Rws Pln
open Go.RowKit
set_option linter.unusedSimpArgs false
set_option linter.unusedVariables false
set_option maxRecDepth 100000
set_option maxHeartbeats 4000000

/-- one kid after the other, as long as there are not too many -/
def manyL (f : Tr → Nat) : List Tr → Nat → Nat
  | [], n => n
  | k :: ks, n => if n ≤ 4096 then manyL f ks (n + f k) else n
def manyT : Nat → Nat → Tr → Nat
  | 0, _, _ => 1
  | d + 1, deep, t => if deep ≤ 64 then manyL (fun k => manyT d (deep + 1) k) t.kids 1 else 1
theorem manyL_le (f : Tr → Nat) (B : Nat) (hf : ∀ k, f k ≤ B) : ∀ (ks : List Tr) (n : Nat), n ≤ 4096 + B → manyL f ks n ≤ 4096 + B
  | [], n, h => h
  | k :: ks, n, h => by
    unfold manyL
    split
    · exact manyL_le f B hf ks _ (by have := hf k; omega)
    · exact h
theorem manyT_le : ∀ (d deep : Nat) (t : Tr), manyT d deep t ≤ 4096 * (66 - deep) + 1
  | 0, deep, t => by unfold manyT; omega
  | d + 1, deep, t => by
    unfold manyT
    split
    · have := manyL_le (fun k => manyT d (deep + 1) k) (4096 * (66 - (deep + 1)) + 1) (fun k => manyT_le d (deep + 1) k) t.kids 1 (by omega)
      omega
    · omega
/-- at the n-th kid -/
theorem manyL_at (f : Tr → Nat) (ks : List Tr) (i n : Nat) (h : i < ks.length) (hn : n ≤ 4096) : manyL f (ks.drop i) n = manyL f (ks.drop (i + 1)) (n + f (ks.getD i tr0)) := by
  rw [List.drop_eq_getElem_cons h, manyL, if_pos hn, List.getD_eq_getElem?_getD, List.getElem?_eq_getElem h]
  rfl
theorem manyL_end (f : Tr → Nat) (ks : List Tr) (n : Nat) (hn : ¬ n ≤ 4096) : manyL f ks n = n := by
  cases ks with
  | nil => rfl
  | cons k ks => rw [manyL, if_neg hn]

theorem rmany_core (k : Int) (s a : ByteArray) (ad : Option Addr) (len cap : Nat) (w : World) (hl : len ≤ 9223372036854775807) (d deep : Nat) (hd : deep ≤ 65) (ks : List Tr) (HK : Hid (KAt w d ad len ks)) (A : Nat) (HA : Hid (A = if deep ≤ 64 then manyL (fun k => manyT d (deep + 1) k) ks 1 else 1))
    (HI : Hid (∀ v t w, TrV w d v t → deep + 1 ≤ 65 → Calls Tryz.prog 57 #[v, .int .i64 ((deep + 1 : Nat) : Int)] w fun e w' => e = .returned (.int .i64 (manyT d (deep + 1) t)) ∧ Below w.heap.size w w')) :
    Calls Tryz.prog 57 #[.agg #[.int .i64 k, .string s, .string a, .slice ad len cap], .int .i64 (deep : Int)] w
      fun e w' => e = .returned (.int .i64 (A : Int)) ∧ Below w.heap.size w w' := by
  have HB : ∀ o : Obj, Below w.heap.size w (w.alloc o) := fun o => (Below.refl _ w).alloc (Nat.le_refl _) o
  have HL : Hid (len = ks.length) := HK.out.1
  go_enter Tryz.func57, Tryz.ntmps57
  go_wp2
  have hc1 : (w.alloc (Obj.cells #[.int .i64 k, .string s, .string a, .slice ad len cap] 29)).cell? ⟨w.heap.size, 3, none⟩ = some (.slice ad len cap) := by
    rw [World.cell?_alloc_new]
    rfl
  have hB2 := HB (Obj.cells #[.int .i64 k, .string s, .string a, .slice ad len cap] 29)
  have hsz : (w.alloc (Obj.cells #[.int .i64 k, .string s, .string a, .slice ad len cap] 29)).heap.size = w.heap.size + 1 := by rw [World.size_alloc]
  clear HB
  generalize w.alloc (Obj.cells #[.int .i64 k, .string s, .string a, .slice ad len cap] 29) = W at hc1 hB2 hsz ⊢
  go_loopw [5, 6] (fun m i wr => ∃ n j : Nat, j ≤ len ∧ m = .int .i64 n ∧ i = .int .i64 j ∧ n ≤ 1000000 ∧ (deep ≤ 64 → manyL (fun k => manyT d (deep + 1) k) ks 1 = manyL (fun k => manyT d (deep + 1) k) (ks.drop j) n) ∧ (¬ deep ≤ 64 → n = 1) ∧ Below W.heap.size W wr) (fun _ i _ => len - (intOf i).toNat)
  case atStart => exact ⟨1, 0, Nat.zero_le _, rfl, rfl, by omega, fun _ => rfl, fun _ => rfl, Below.refl _ _⟩
  case round =>
    obtain ⟨n, j, hj, rfl, rfl, hn, ht, ht2, hbe⟩ := hrel
    have HT : Hid (deep ≤ 64 → manyL (fun k => manyT d (deep + 1) k) ks 1 = manyL (fun k => manyT d (deep + 1) k) (ks.drop j) n) := ht
    have HT2 : Hid (¬ deep ≤ 64 → n = 1) := ht2
    clear ht ht2
    have hz1 := (hbe.cell (p := ⟨w.heap.size, 3, none⟩) (by show w.heap.size < _; omega)).trans hc1
    have HBW : Hid (Below w.heap.size w wr) := hB2.trans (hbe.mono (by omega))
    by_cases hlt : j < len
    · by_cases h4 : n ≤ 4096
      · by_cases h64 : deep ≤ 64
        · obtain ⟨b, off, rfl, hb, hcell⟩ := HK.out.2 (by omega)
          obtain ⟨c0, c1, c2, c3, x0, x1, x2, x3, hx⟩ := hcell j hlt
          replace x0 := (HBW.out.cell (p := ⟨b, off + j * 4, none⟩) hb).trans x0
          replace x1 := (HBW.out.cell (p := ⟨b, off + j * 4 + 1, none⟩) hb).trans x1
          replace x2 := (HBW.out.cell (p := ⟨b, off + j * 4 + 2, none⟩) hb).trans x2
          replace x3 := (HBW.out.cell (p := ⟨b, off + j * 4 + 3, none⟩) hb).trans x3
          have hq := manyT_le d (deep + 1) (ks.getD j tr0)
          have HS : Hid (manyL (fun k => manyT d (deep + 1) k) ks 1 = manyL (fun k => manyT d (deep + 1) k) (ks.drop (j + 1)) (n + manyT d (deep + 1) (ks.getD j tr0))) := by
            rw [HT.out h64, manyL_at _ ks j n (by rw [← HL.out]; exact hlt) h4]
            exact rfl
          have HC0 : Hid (Calls Tryz.prog 57 #[.agg #[c0, c1, c2, c3], .int .i64 ((deep + 1 : Nat) : Int)] wr fun e w' => e = .returned (.int .i64 (manyT d (deep + 1) (ks.getD j tr0))) ∧ Below W.heap.size W w') := by
            refine (HI.out _ _ _ (hx.later HBW.out (Nat.le_refl _)) (by omega)).mono ?_
            rintro e w' ⟨rfl, hb⟩
            exact ⟨rfl, hbe.trans (hb.mono hbe.size)⟩
          clear hcell hx
          generalize manyT d (deep + 1) (ks.getD j tr0) = Q at hq HS HC0
          have hQ : Q ≤ 400000 := by omega
          have HC : Hid (Calls Tryz.prog 57 #[.agg #[c0, c1, c2, c3], .int .i64 ((deep : Int) + 1)] wr fun e w' => e = .returned (.int .i64 (Q : Int)) ∧ Below W.heap.size W w') := by
            have := HC0.out
            rwa [show ((deep + 1 : Nat) : Int) = (deep : Int) + 1 by omega] at this
          clear HC0
          go_wp2_with (go_at_call 57; refine HC.out.mono ?_; rintro e w2 ⟨rfl, hb2⟩)
          go_roundw
          case rel => exact ⟨n + Q, j + 1, by omega, by go_num, by go_num, by omega, fun _ => HS.out, fun h => absurd h64 h, hb2⟩
          case measure => simp [intOf]; omega
        · have HR : Hid (A = n) := by rw [HA.out, if_neg h64, HT2.out h64]; exact rfl
          go_wp2
          go_ret
          rw [HR.out]
          exact ⟨rfl, HBW.out⟩
      · have HR : Hid (A = n) := by
          rw [HA.out]
          by_cases h64 : deep ≤ 64
          · rw [if_pos h64, HT.out h64, manyL_end _ _ _ h4]; exact rfl
          · rw [if_neg h64, HT2.out h64]; exact rfl
        go_wp2
        go_ret
        rw [HR.out]
        exact ⟨rfl, HBW.out⟩
    · have HR : Hid (A = n) := by
        rw [HA.out]
        by_cases h64 : deep ≤ 64
        · rw [if_pos h64, HT.out h64, List.drop_eq_nil_of_le (by have := HL.out; omega)]; exact rfl
        · rw [if_neg h64, HT2.out h64]; exact rfl
      go_wp2
      go_ret
      rw [HR.out]
      exact ⟨rfl, HBW.out⟩
theorem rmany_any : ∀ (d : Nat) (v : Value) (t : Tr) (deep : Nat) (w : World), TrV w d v t → deep ≤ 65 →
    Calls Tryz.prog 57 #[v, .int .i64 (deep : Int)] w fun e w' => e = .returned (.int .i64 (manyT d deep t)) ∧ Below w.heap.size w w'
  | 0, v, t, deep, w, h, hd => h.elim
  | d + 1, v, t, deep, w, h, hd => by
    obtain ⟨ad, len, cap, rfl, hl, hc, hm, hz, hk⟩ := h
    have m1 : maxLen = 9223372036854775807 := rfl
    exact rmany_core t.kind (mk t.text) (mk t.anc) ad len cap w (by omega) d deep hd t.kids ⟨hl, hk⟩ _ rfl (fun v t w h hd => rmany_any d v t (deep + 1) w h hd)
end Go.Proofs.YtaphijgbebhdlaaGreatDoor.Flw
end

section
/- Trees whose texts are not long: a plain word. -/
namespace Go.Proofs.YtaphijgbebhdlaaGreatDoor.Flw
open Utf Rws Pln
open Go.RowKit
set_option linter.unusedSimpArgs false
set_option linter.unusedVariables false
set_option maxRecDepth 100000
set_option maxHeartbeats 4000000

/-- short texts all through, m within one another at the most -/
def fineT : Nat → Tr → Prop
  | 0, _ => False
  | m + 1, t => t.text.length ≤ 3000 ∧ t.anc.length ≤ 3000 ∧ ∀ i, i < t.kids.length → fineT m (t.kids.getD i tr0)
/-- the first j kids' trees -/
def sumT (m : Nat) (ks : List Tr) (j : Nat) : Nat := ((ks.take j).map fun k => cntT m k).sum
theorem sumT_succ (m : Nat) (ks : List Tr) (j : Nat) (h : j < ks.length) : sumT m ks (j + 1) = sumT m ks j + cntT m (ks.getD j tr0) := by
  unfold sumT
  rw [List.take_succ_eq_append_getElem h, List.map_append, List.sum_append, List.getD_eq_getElem?_getD, List.getElem?_eq_getElem h]
  simp
end Go.Proofs.YtaphijgbebhdlaaGreatDoor.Flw
end
