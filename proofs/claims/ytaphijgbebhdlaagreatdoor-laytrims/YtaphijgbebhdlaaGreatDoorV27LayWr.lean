/- Several texts as one: LayWr, LayLv, FlowRsame, LayBkS. -/
import Derived.Test.YtaphijgbebhdlaaGreatDoorV26FlowWr
import Derived.Test.YtaphijgbebhdlaaGreatDoorV23LayLd
import Derived.Deep.RegionWith
import Derived.Test.YtaphijgbebhdlaaGreatDoorV01RowsPlain
import Derived.Test.YtaphijgbebhdlaaGreatDoorV24LayLarge
import Derived.Test.YtaphijgbebhdlaaGreatDoorV16GraphTop2I
section
/- flow.Write at the tree of the law's probe, and the probe. -/
namespace Go.Proofs.YtaphijgbebhdlaaGreatDoor.Flw
open Utf Rws Pln
open Go.RowKit
set_option linter.unusedSimpArgs false
set_option linter.unusedVariables false
set_option maxRecDepth 100000
set_option maxHeartbeats 4000000
section
variable {d : Nat} {w : World}
theorem writeW {v : Value} {t : Tr} (hb : brief d t) (h : TrV w d v t) (hT : Tb w) (hp : ∀ B b, WrOk w B b d (fun t => wrt 64 t) (fun u => u = t)) (hr : rgh d t = true) (hlen : (wrt 64 t).length ≤ 140737488355328) : Calls Tryz.prog 15 #[v] w fun e w' => e = .returned (.tuple #[.string (mk (wrt 64 t)), .int .i64 0]) ∧ Below w.heap.size w w' := by
  obtain ⟨ad, len, cap, hv⟩ := h.open4
  have HR : Hid (Calls Tryz.prog 24 #[v] (w.alloc (.cells #[.int .i64 t.kind, .string (mk t.text), .string (mk t.anc), .slice ad len cap] 29)) fun e w' => e = .returned (.bool true) ∧ Hid (Below w.heap.size w w' ∧ Bx w' w.heap.size #[.int .i64 t.kind, .string (mk t.text), .string (mk t.anc), .slice ad len cap] 29)) := by
    have b1 := below_alloc w (.cells #[.int .i64 t.kind, .string (mk t.text), .string (mk t.anc), .slice ad len cap] 29)
    have n1 := Bx.new w #[.int .i64 t.kind, .string (mk t.text), .string (mk t.anc), .slice ad len cap] 29
    exact (right_any hb (h.later b1 (Nat.le_refl _)) (hT.later b1)).mono (fun e w' g => ⟨by rw [g.1, hr], b1.trans (g.2.mono b1.size), n1.later g.2⟩)
  have HWR : Hid (∀ w1, Below w.heap.size w w1 → Calls Tryz.prog 25 #[.pointer (some ⟨w1.heap.size, 0, none⟩), v] (w1.alloc (.cells #[.pointer none, .slice none 0 0] 67)) fun e w' => e = .returned (.tuple #[]) ∧ Hid (Wb w1.heap.size w1.heap.size (wrt 64 t) w' ∧ Below w.heap.size w w' ∧ w1.heap.size ≤ w'.heap.size)) := fun w1 b1 => by
    have b2 := below_alloc w1 (.cells #[.pointer none, .slice none 0 0] 67)
    have s2 : (w1.alloc (.cells #[.pointer none, .slice none 0 0] 67)).heap.size = w1.heap.size + 1 := World.size_alloc _ _
    exact (hp w1.heap.size w1.heap.size v t _ [] rfl h (b1.trans (b2.mono b1.size)) b1.size (by omega) (.inl ⟨Nat.le_refl _, .slice none 0 0, heap_alloc_new w1 _, by simp [World.ownsRowF, World.ownsRow, Lib.byteCells], by simp [Value.ownBlock], fun _ => rfl⟩) (by simpa using hlen)).mono (fun e w' g => ⟨g.1, g.2.1, (b1.trans (b2.mono b1.size)).trans (g.2.2.1.mono b1.size), by have := g.2.2.1.size; omega⟩)
  have HSG : Hid (∀ B w3, Wb B B (wrt 64 t) w3 → Below w.heap.size w w3 → w.heap.size ≤ B → B ≤ w3.heap.size → Calls Tryz.prog 26 #[.pointer (some ⟨B, 0, none⟩)] w3 fun e w' => e = .returned (.string (mk (wrt 64 t))) ∧ Hid (Below w.heap.size w w')) := fun B w3 hw hb hB hs =>
    (Quo.string_any (wrt 64 t) hw hs).mono (fun e w' g => ⟨g.1, hb.trans (g.2.2.1.mono hB)⟩)
  clear hb h hT hr hlen hp
  subst hv
  generalize wrt 64 t = X at *
  generalize t.kind = k at *
  generalize t.text = x at *
  generalize t.anc = a at *
  go_enter Tryz.func15, Tryz.ntmps15
  go_wp2_with (go_at_call 24; refine HR.out.mono ?_; rintro e w1 ⟨rfl, H1⟩; have e0 : w1.cell? ⟨w.heap.size, 0, none⟩ = some (.int .i64 k) := H1.out.2.cell 0; have e1 : w1.cell? ⟨w.heap.size, 1, none⟩ = some (.string (mk x)) := H1.out.2.cell 1; have e2 : w1.cell? ⟨w.heap.size, 2, none⟩ = some (.string (mk a)) := H1.out.2.cell 2; have e3 : w1.cell? ⟨w.heap.size, 3, none⟩ = some (.slice ad len cap) := H1.out.2.cell 3; have hlt : w.heap.size < w1.heap.size := H1.out.2.lt)
  refine (HWR.out w1 H1.out.1).mono ?_
  rintro e w3 ⟨rfl, H3⟩
  have hB : w.heap.size ≤ w1.heap.size := by omega
  generalize w1.heap.size = K at *
  have HS2 := HSG.out K w3 H3.out.1 H3.out.2.1 hB H3.out.2.2
  go_wp2_with fail
  refine HS2.mono ?_
  rintro e w4 ⟨rfl, H4⟩
  go_wp2
  exact bodyPost_ret (v := .tuple #[.string (mk X), .int .i64 0]) (by simp [results, Tryz.results15, go_sem]) rfl ⟨rfl, H4.out⟩
end
/-- a list of itself and 5 -/
def laT : Tr := ⟨5, [], [97, 49], [⟨7, [], [97, 49], []⟩, ⟨3, [53], [], []⟩]⟩
def laW : Ln := [38, 97, 49, 32, 91, 42, 97, 49, 44, 32, 53, 93]
theorem la_wrt : wrt 64 laT = laW := by kernel_rfl
theorem la_rgh (d : Nat) : rgh (d + 3) laT = true := by kernel_rfl
def laP (t : Tr) : Prop := (t.kind = 7 ∧ t.anc.length ≤ 65536) ∨ (t.anc = [] ∧ t.text.length ≤ 65536 ∧ plS t.kind t.text)
theorem wrOk_la {W : World} {B b d : Nat} (hT : Tb W) (f : Tr → Ln) : WrOk W B b d (fun t => wstep f t) laP := by
  intro v t w out hp h hb hB hs hw hlen
  obtain ⟨k, x, a, ks⟩ := t
  obtain ⟨ad, len, cap, rfl⟩ := h.open4
  rcases hp with ⟨hk, ha⟩ | ⟨ha, hx, hp⟩
  · simp only at hk ha hlen ⊢
    subst hk
    exact write_alias x a ad len cap W w B b ha hb hB hs out hw (by simpa [wstep] using hlen)
  · simp only at ha hx hp hlen ⊢
    subst ha
    have e : wstep f ⟨k, x, [], ks⟩ = x := by
      rcases hp with rfl | ⟨rfl, h1, h2⟩
      · rfl
      · show [] ++ scl true 4 x = x
        unfold scl
        rw [if_neg (by decide), if_neg (by decide), if_pos rfl, if_pos ⟨h1, h2⟩]
        rfl
    rw [e] at hlen ⊢
    exact wrS_leaf hp hx hb hT hB hs hw hlen
theorem la_brief (d : Nat) : brief (d + 3) laT := by
  refine ⟨by decide, by decide, fun i hi => ?_⟩
  have hi2 : i < 2 := hi
  rcases (by omega : i = 0 ∨ i = 1) with rfl | rfl
  · exact ⟨by decide, by decide, fun i hi => absurd hi (Nat.not_lt_zero _)⟩
  · exact ⟨by decide, by decide, fun i hi => absurd hi (Nat.not_lt_zero _)⟩
theorem write_la {d : Nat} {w : World} {v : Value} (h : TrV w (d + 3) v laT) (hT : Tb w) : Calls Tryz.prog 15 #[v] w fun e w' => e = .returned (.tuple #[.string (mk laW), .int .i64 0]) ∧ Below w.heap.size w w' := by
  rw [← la_wrt]
  refine writeW (la_brief d) h hT (fun B b => ?_) (la_rgh d) (by rw [la_wrt]; decide)
  intro v t w' out ht h hb hB hs hw hlen
  subst ht
  obtain ⟨ad, len, cap, rfl, hl, hcp, hm, hz, hkd⟩ := h
  exact write_seq [] [97, 49] ad len cap w w' B b (d + 2) laT.kids (by have m1 : maxLen = 9223372036854775807 := rfl; omega) (by decide) (by decide) ⟨hl, hkd⟩ hb hT hB hs out hw (fun t => wrt 63 t) laP (fun i hi => by
    have hi2 : i < 2 := hi
    rcases (by omega : i = 0 ∨ i = 1) with rfl | rfl
    · exact .inl ⟨rfl, by decide⟩
    · exact .inr ⟨rfl, by decide, .inl rfl⟩) (wrOk_la hT _) hlen
end Go.Proofs.YtaphijgbebhdlaaGreatDoor.Flw
end

section
/- The law's alive, by its contract. -/
namespace Go.Proofs.YtaphijgbebhdlaaGreatDoor.Grp
open Utf Rws Pln Flw
open Go.RowKit
set_option linter.unusedSimpArgs false
set_option linter.unusedVariables false
set_option maxRecDepth 100000
set_option maxHeartbeats 4000000
def laN : List Nd := [⟨5, [], [0, 1]⟩, ⟨3, [53], []⟩]
theorem la_lyE : lyE ⟨laN, 0⟩ = 0 := by kernel_rfl
theorem la_lyG : lyG ⟨laN, 0⟩ = laT := by kernel_rfl
theorem la_sml : Sml laN := fun _ => ⟨fun n hn => by
  simp only [laN, List.mem_cons, List.not_mem_nil, or_false] at hn
  rcases hn with rfl | rfl <;> decide, by decide⟩
theorem alive_any {w : World} (hT : Tb w) : Calls Tryz.prog 6 #[] w fun e w' => e = .returned (.bool true) ∧ Below w.heap.size w w' := by
  have HT : Hid (Tb w) := hT
  have HTr : Hid (∀ W ad cap, Below w.heap.size w W → NAt W ad 2 laN → 2 ≤ cap → cap ≤ maxLen → Calls Tryz.prog 7 #[gv ad 2 cap 0] W fun e W' => ∃ (k : Int) (x y : ByteArray) (ra : Option Addr) (rl rc : Nat), e = .returned (.tuple #[.agg #[.int .i64 k, .string x, .string y, .slice ra rl rc], .int .i64 0]) ∧ Hid (TrV W' 3 (.agg #[.int .i64 k, .string x, .string y, .slice ra rl rc]) laT) ∧ Hid (Below w.heap.size w W')) := fun W ad cap hb hn h1 h2 =>
    (ttree_any (g := ⟨laN, 0⟩) ⟨ad, 2, cap, rfl, h1, h2, ⟨by decide, by decide⟩, hn⟩ la_sml (HT.out.later hb)).mono (fun e W' q => by
      obtain ⟨k, x, y, ra, rl, rc, q1, q2, q3⟩ := q
      rw [la_lyE] at q1
      rw [la_lyG] at q2
      exact ⟨k, x, y, ra, rl, rc, q1, q2.out.v, hb.trans (q3.out.mono hb.size)⟩)
  have HWr : Hid (∀ W v, Below w.heap.size w W → TrV W 3 v laT → Calls Tryz.prog 15 #[v] W fun e W' => e = .returned (.tuple #[.string (mk laW), .int .i64 0]) ∧ Hid (Below w.heap.size w W')) := fun W v hb h =>
    (write_la (d := 0) h (HT.out.later hb)).mono (fun e W' q => ⟨q.1, hb.trans (q.2.mono hb.size)⟩)
  have hs : ((mk laW).toList == [38, 97, 49, 32, 91, 42, 97, 49, 44, 32, 53, 93]) = true := by rw [ByteArray.toList_eq, mk_data]; rfl
  clear hT
  go_enter Tryz.func6, Tryz.ntmps6
  have b1 := below_alloc w (.cells #[.int .i64 0, .int .i64 1] 3)
  have s1 : (w.alloc (.cells #[.int .i64 0, .int .i64 1] 3)).heap.size = w.heap.size + 1 := World.size_alloc _ _
  have n1 := Bx.new w #[.int .i64 0, .int .i64 1] 3
  go_wp2_with fail
  refine (HTr.out _ (some ⟨w.heap.size + 1, 0, none⟩) 2 ?_ ?_ (Nat.le_refl _) (by unfold maxLen; omega)).mono ?_
  · exact b1.trans ((below_alloc _ _).mono b1.size)
  · have b2 := below_alloc (w.alloc (.cells #[.int .i64 0, .int .i64 1] 3)) (.cells #[.int .i64 5, .string ⟨#[]⟩, .slice (some ⟨w.heap.size, 0, none⟩) 2 2, .int .i64 3, .string ⟨#[53]⟩, .slice none 0 0] 47)
    have n2 := Bx.new (w.alloc (.cells #[.int .i64 0, .int .i64 1] 3)) #[.int .i64 5, .string ⟨#[]⟩, .slice (some ⟨w.heap.size, 0, none⟩) 2 2, .int .i64 3, .string ⟨#[53]⟩, .slice none 0 0] 47
    rw [s1] at n2
    have n1' := n1.later b2
    refine ⟨rfl, fun _ => ⟨_, 0, rfl, n2.lt, fun i hi => ?_⟩⟩
    rcases (by omega : i = 0 ∨ i = 1) with rfl | rfl
    · exact ⟨some ⟨w.heap.size, 0, none⟩, 2, 2, Nat.le_refl _, by unfold maxLen; omega, (by decide : i64 5), by decide, ⟨rfl, fun _ => ⟨_, 0, rfl, n1'.lt, fun i hi => by
        rcases (by omega : i = 0 ∨ i = 1) with rfl | rfl
        · exact ⟨(by decide : i64 0), n1'.cell 0⟩
        · exact ⟨(by decide : i64 1), n1'.cell 1⟩⟩⟩, n2.cell 0, n2.cell 1, n2.cell 2⟩
    · exact ⟨none, 0, 0, Nat.le_refl _, Nat.zero_le _, (by decide : i64 3), by decide, ⟨rfl, fun h => absurd h (by decide)⟩, n2.cell 3, n2.cell 4, n2.cell 5⟩
  rintro e w3 ⟨k, x, y, ra, rl, rc, rfl, HT3, B3⟩
  clear n1 b1 s1 HTr
  go_upto_region 2 with fail
  have b4 := below_alloc w3 (.cells #[.int .i64 k, .string x, .string y, .slice ra rl rc] 29)
  have HT4 : Hid (TrV (w3.alloc (.cells #[.int .i64 k, .string x, .string y, .slice ra rl rc] 29)) 3 (.agg #[.int .i64 k, .string x, .string y, .slice ra rl rc]) laT) := HT3.out.later b4 (Nat.le_refl _)
  have B4 : Hid (Below w.heap.size w (w3.alloc (.cells #[.int .i64 k, .string x, .string y, .slice ra rl rc] 29))) := B3.out.trans (b4.mono B3.out.size)
  have N4 := Bx.new w3 #[.int .i64 k, .string x, .string y, .slice ra rl rc] 29
  generalize w3.alloc (.cells #[.int .i64 k, .string x, .string y, .slice ra rl rc] 29) = w4 at HT4 B4 N4 ⊢
  generalize w3.heap.size = K4 at N4 ⊢
  obtain ⟨c0, c1, c2, c3⟩ := N4.c4
  have HW4 := HWr.out w4 _ B4.out HT4.out
  clear HT3 B3 b4 N4 HWr
  go_wp2_with (go_at_call 15; refine HW4.mono ?_; rintro e w5 ⟨rfl, B5⟩)
  go_ret
  exact ⟨by simp [hs], B5.out⟩
end Go.Proofs.YtaphijgbebhdlaaGreatDoor.Grp
end

section
/- grommetref09.Same, by its contract. -/
namespace Go.Proofs.YtaphijgbebhdlaaGreatDoor.Flw
open Utf Rws Pln
open Go.RowKit
set_option linter.unusedSimpArgs false
set_option linter.unusedVariables false
set_option maxRecDepth 100000
set_option maxHeartbeats 4000000

theorem tr_ext {a b : Tr} (h1 : a.kind = b.kind) (h2 : a.text = b.text) (h3 : a.anc = b.anc) (h4 : a.kids = b.kids) : a = b := by
  cases a; cases b; simp only at h1 h2 h3 h4; subst h1 h2 h3 h4; rfl
theorem take_same {xs ys : List Tr} {n : Nat} (h1 : n < xs.length) (h2 : n < ys.length) (ht : xs.take n = ys.take n) (he : xs.getD n tr0 = ys.getD n tr0) : xs.take (n + 1) = ys.take (n + 1) := by
  rw [List.getD_eq_getElem?_getD, List.getD_eq_getElem?_getD, List.getElem?_eq_getElem h1, List.getElem?_eq_getElem h2] at he
  rw [List.take_succ_eq_append_getElem h1, List.take_succ_eq_append_getElem h2, ht]
  congr 2
theorem rsame_core (k k' : Int) (s s' a a' : ByteArray) (ad ad' : Option Addr) (len len' cap cap' : Nat) (w : World) (hl : len ≤ 9223372036854775807) (hl' : len' ≤ 9223372036854775807) (d d' : Nat) (ks ks' : List Tr)
    (HK : Hid (KAt w d ad len ks)) (HK' : Hid (KAt w d' ad' len' ks'))
    (HI : Hid (∀ v v' t t' w, TrV w d v t → TrV w d' v' t' → Calls Tryz.prog 11 #[v, v'] w fun e w' => ∃ q : Bool, e = .returned (.bool q) ∧ (q = true ↔ t = t') ∧ Below w.heap.size w w')) :
    Calls Tryz.prog 11 #[.agg #[.int .i64 k, .string s, .string a, .slice ad len cap], .agg #[.int .i64 k', .string s', .string a', .slice ad' len' cap']] w
      fun e w' => ∃ q : Bool, e = .returned (.bool q) ∧ (q = true ↔ k = k' ∧ s = s' ∧ a = a' ∧ ks = ks') ∧ Below w.heap.size w w' := by
  have HS : ∀ x y : ByteArray, (x.toList == y.toList) = true ↔ x = y := fun x y => by
    rw [beq_iff_eq, ByteArray.toList_eq, ByteArray.toList_eq]
    exact ⟨fun h => by rw [← mk_of x, ← mk_of y, h], fun h => by rw [h]⟩
  have HB : ∀ o o' : Obj, Below w.heap.size w ((w.alloc o).alloc o') := fun o o' => ((Below.refl _ w).alloc (Nat.le_refl _) o).alloc (by rw [World.size_alloc]; omega) o'
  by_cases h1 : k = k'
  · subst h1
    cases h2 : (s.toList == s'.toList)
    · have HP : Hid (¬ s = s') := fun h => by rw [(HS s s').2 h] at h2; cases h2
      clear HS
      go_enter Tryz.func11, Tryz.ntmps11
      go_wp2
      go_ret
      exact ⟨false, rfl, ⟨fun h => (by cases h), fun h => absurd h.2.1 HP.out⟩, HB _ _⟩
    · cases h3 : (a.toList == a'.toList)
      · have HP : Hid (¬ a = a') := fun h => by rw [(HS a a').2 h] at h3; cases h3
        clear HS
        go_enter Tryz.func11, Tryz.ntmps11
        go_wp2
        go_ret
        exact ⟨false, rfl, ⟨fun h => (by cases h), fun h => absurd h.2.2.1 HP.out⟩, HB _ _⟩
      · have E2 : Hid (s = s') := (HS s s').1 h2
        have E3 : Hid (a = a') := (HS a a').1 h3
        clear HS
        by_cases h4 : len = len'
        · subst h4
          go_enter Tryz.func11, Tryz.ntmps11
          go_wp2
          have hc1 : ((w.alloc (Obj.cells #[.int .i64 k, .string s, .string a, .slice ad len cap] 29)).alloc (Obj.cells #[.int .i64 k, .string s', .string a', .slice ad' len cap'] 29)).cell? ⟨w.heap.size, 3, none⟩ = some (.slice ad len cap) := by
            rw [World.cell?_alloc_lt _ _ _ (by show w.heap.size < _; rw [World.size_alloc]; omega), World.cell?_alloc_new]
            rfl
          have hc2 : ((w.alloc (Obj.cells #[.int .i64 k, .string s, .string a, .slice ad len cap] 29)).alloc (Obj.cells #[.int .i64 k, .string s', .string a', .slice ad' len cap'] 29)).cell? ⟨w.heap.size + 1, 3, none⟩ = some (.slice ad' len cap') := by
            have := World.cell?_alloc_new (w.alloc (Obj.cells #[.int .i64 k, .string s, .string a, .slice ad len cap] 29)) #[.int .i64 k, .string s', .string a', .slice ad' len cap'] 29 3
            rw [World.size_alloc] at this
            rw [this]
            rfl
          have hB2 := HB (Obj.cells #[.int .i64 k, .string s, .string a, .slice ad len cap] 29) (Obj.cells #[.int .i64 k, .string s', .string a', .slice ad' len cap'] 29)
          have hsz : ((w.alloc (Obj.cells #[.int .i64 k, .string s, .string a, .slice ad len cap] 29)).alloc (Obj.cells #[.int .i64 k, .string s', .string a', .slice ad' len cap'] 29)).heap.size = w.heap.size + 2 := by rw [World.size_alloc, World.size_alloc]
          clear HB
          generalize (w.alloc (Obj.cells #[.int .i64 k, .string s, .string a, .slice ad len cap] 29)).alloc (Obj.cells #[.int .i64 k, .string s', .string a', .slice ad' len cap'] 29) = W at hc1 hc2 hB2 hsz ⊢
          go_loopw [5] (fun i wr => ∃ n : Nat, n ≤ len ∧ i = .int .i64 n ∧ ks.take n = ks'.take n ∧ Below W.heap.size W wr) (fun i _ => len - (intOf i).toNat)
          case atStart => exact ⟨0, Nat.zero_le _, rfl, rfl, Below.refl _ _⟩
          case round =>
            obtain ⟨n, hn, rfl, ht, hbe⟩ := hrel
            have HT : Hid (ks.take n = ks'.take n) := ht
            clear ht
            have hz1 := (hbe.cell (p := ⟨w.heap.size, 3, none⟩) (by show w.heap.size < _; omega)).trans hc1
            have hz2 := (hbe.cell (p := ⟨w.heap.size + 1, 3, none⟩) (by show w.heap.size + 1 < _; omega)).trans hc2
            have HBW : Hid (Below w.heap.size w wr) := hB2.trans (hbe.mono (by omega))
            by_cases hlt : n < len
            · obtain ⟨b, off, rfl, hb, hcell⟩ := HK.out.2 (by omega)
              obtain ⟨c0, c1, c2, c3, x0, x1, x2, x3, hx⟩ := hcell n hlt
              obtain ⟨b', off', rfl, hb', hcell'⟩ := HK'.out.2 (by omega)
              obtain ⟨y0, y1, y2, y3, z0, z1, z2, z3, hy⟩ := hcell' n hlt
              replace x0 := (HBW.out.cell (p := ⟨b, off + n * 4, none⟩) hb).trans x0
              replace x1 := (HBW.out.cell (p := ⟨b, off + n * 4 + 1, none⟩) hb).trans x1
              replace x2 := (HBW.out.cell (p := ⟨b, off + n * 4 + 2, none⟩) hb).trans x2
              replace x3 := (HBW.out.cell (p := ⟨b, off + n * 4 + 3, none⟩) hb).trans x3
              replace z0 := (HBW.out.cell (p := ⟨b', off' + n * 4, none⟩) hb').trans z0
              replace z1 := (HBW.out.cell (p := ⟨b', off' + n * 4 + 1, none⟩) hb').trans z1
              replace z2 := (HBW.out.cell (p := ⟨b', off' + n * 4 + 2, none⟩) hb').trans z2
              replace z3 := (HBW.out.cell (p := ⟨b', off' + n * 4 + 3, none⟩) hb').trans z3
              have HC : Hid (∀ m, Calls Tryz.prog 11 #[.agg #[c0, c1, c2, c3], .agg #[y0, y1, y2, y3]] (wr.drewN m) fun e w' => ∃ q : Bool, e = .returned (.bool q) ∧ Hid (q = true ↔ ks.getD n tr0 = ks'.getD n tr0) ∧ Hid (Below w.heap.size w w') ∧ Below W.heap.size W w') := by
                intro m
                have b1 := below_drewN HBW.out m
                have b2 := below_drewN hbe m
                refine (HI.out _ _ _ _ _ (hx.later b1 (Nat.le_refl _)) (hy.later b1 (Nat.le_refl _))).mono ?_
                rintro e w' ⟨q, rfl, hq, hb⟩
                exact ⟨q, rfl, hq, b1.trans (hb.mono b1.size), b2.trans (hb.mono b2.size)⟩
              clear hcell hcell' hx hy
              go_wp2_with fail
              go_region_with (go_at_call 11; refine (HC.out _).mono ?_; rintro e w2 ⟨q, rfl, hq, hbw2, hb2⟩)
              all_goals
                cases q
                · go_wp2
                  go_ret
                  exact ⟨false, rfl, ⟨fun h => (by cases h), fun h => absurd (hq.out.2 (by rw [h.2.2.2])) (by decide)⟩, hbw2.out⟩
                · go_wp2
                  go_roundw
                  case rel => exact ⟨n + 1, by omega, by go_num, take_same (by have := HK.out.1; omega) (by have := HK'.out.1; omega) HT.out (hq.out.1 rfl), hb2⟩
                  case measure => simp [intOf]; omega
            · have HE : Hid (ks = ks') := by
                have h := HT.out
                have l1 := HK.out.1
                have l2 := HK'.out.1
                rw [List.take_of_length_le (by omega), List.take_of_length_le (by omega)] at h
                exact h
              go_wp2
              go_ret
              exact ⟨true, rfl, ⟨fun _ => ⟨by first | rfl | trivial, E2.out, E3.out, HE.out⟩, fun _ => rfl⟩, HBW.out⟩
        · have HP : Hid (¬ ks = ks') := fun h => h4 (by rw [HK.out.1, HK'.out.1, h])
          have hne' : ((len : Int) != (len' : Int)) = true := by simp; omega
          go_enter Tryz.func11, Tryz.ntmps11
          go_wp2
          all_goals first | contradiction | skip
          go_ret
          exact ⟨false, rfl, ⟨fun h => (by cases h), fun h => absurd h.2.2.2 HP.out⟩, HB _ _⟩
  · have h1' : (k == k') = false := by simpa using h1
    go_enter Tryz.func11, Tryz.ntmps11
    go_wp2
    all_goals first | contradiction | skip
    go_ret
    refine ⟨false, rfl, ?_, HB _ _⟩
    simp [h1]
theorem mk_eq {a b : Ln} : mk a = mk b ↔ a = b := ⟨fun h => mk_inj h, fun h => by rw [h]⟩
theorem rsame_any : ∀ (d : Nat) (d' : Nat) (v v' : Value) (t t' : Tr) (w : World), TrV w d v t → TrV w d' v' t' →
    Calls Tryz.prog 11 #[v, v'] w fun e w' => ∃ q : Bool, e = .returned (.bool q) ∧ (q = true ↔ t = t') ∧ Below w.heap.size w w'
  | 0, d', v, v', t, t', w, h, h' => h.elim
  | d + 1, 0, v, v', t, t', w, h, h' => h'.elim
  | d + 1, d' + 1, v, v', t, t', w, h, h' => by
    obtain ⟨ad, len, cap, rfl, hl, hc, hm, hz, hk⟩ := h
    obtain ⟨ad', len', cap', rfl, hl', hc', hm', hz', hk'⟩ := h'
    have m1 : maxLen = 9223372036854775807 := rfl
    refine (rsame_core t.kind t'.kind (mk t.text) (mk t'.text) (mk t.anc) (mk t'.anc) ad ad' len len' cap cap' w (by omega) (by omega) d d' t.kids t'.kids ⟨hl, hk⟩ ⟨hl', hk'⟩ (fun v v' t t' w => rsame_any d d' v v' t t' w)).mono ?_
    rintro e w' ⟨q, rfl, hq, hb⟩
    refine ⟨q, rfl, hq.trans ?_, hb⟩
    rw [mk_eq, mk_eq]
    exact ⟨fun h => tr_ext h.1 h.2.1 h.2.2.1 h.2.2.2, fun h => by rw [h]; exact ⟨rfl, rfl, rfl, rfl⟩⟩
end Go.Proofs.YtaphijgbebhdlaaGreatDoor.Flw
end

section
/- What the laws of package lay call, at what they hold. -/
namespace Go.Proofs.YtaphijgbebhdlaaGreatDoor.Grp
open Utf Rws Pln Flw
open Go.RowKit
set_option linter.unusedSimpArgs false
set_option linter.unusedVariables false
set_option maxRecDepth 100000
set_option maxHeartbeats 4000000

/-- a tree in its box -/
structure TgS (w W : World) (K : Nat) (k : Int) (x y : ByteArray) (ra : Option Addr) (rl rc : Nat) (D : Nat) (t : Tr) : Prop where
  b : Bx W K #[.int .i64 k, .string x, .string y, .slice ra rl rc] 29
  bl : Below w.heap.size w W
  t : TrV W D (.agg #[.int .i64 k, .string x, .string y, .slice ra rl rc]) t
theorem TgS.later {w W W' : World} {K : Nat} {k : Int} {x y : ByteArray} {ra : Option Addr} {rl rc D : Nat} {t : Tr} (h : TgS w W K k x y ra rl rc D t) (hb : Below W.heap.size W W') : TgS w W' K k x y ra rl rc D t := ⟨h.b.later hb, h.bl.trans (hb.mono h.bl.size), h.t.later hb (Nat.le_refl _)⟩
theorem TgS.new {w W : World} {k : Int} {x y : ByteArray} {ra : Option Addr} {rl rc D : Nat} {t : Tr} (hb : Below w.heap.size w W) (h : TrV W D (.agg #[.int .i64 k, .string x, .string y, .slice ra rl rc]) t) : TgS w (W.alloc (.cells #[.int .i64 k, .string x, .string y, .slice ra rl rc] 29)) W.heap.size k x y ra rl rc D t := by
  have b1 := below_alloc W (.cells #[.int .i64 k, .string x, .string y, .slice ra rl rc] 29)
  exact ⟨Bx.new _ _ _, hb.trans (b1.mono hb.size), h.later b1 (Nat.le_refl _)⟩
theorem rsame_is {d d' : Nat} {v v' : Value} {t : Tr} {w : World} (h : TrV w d v t) (h' : TrV w d' v' t) : Calls Tryz.prog 11 #[v, v'] w fun e w' => e = .returned (.bool true) ∧ Below w.heap.size w w' :=
  (rsame_any d d' v v' t t w h h').mono (fun e w' q => by
    obtain ⟨b, rfl, h1, h2⟩ := q
    exact ⟨by rw [h1.2 rfl], h2⟩)
end Go.Proofs.YtaphijgbebhdlaaGreatDoor.Grp
end
