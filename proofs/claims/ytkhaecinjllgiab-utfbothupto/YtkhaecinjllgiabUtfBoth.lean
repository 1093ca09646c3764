/- The law UtfBoth, of texts that are not too long: it answers true. -/
import Derived.Test.YtkhaecinjllgiabUtfInts
import Derived.Test.YtkhaecinjllgiabUtfAlive
namespace Go.Proofs.Ytkhaecinjllgiab.Utf
open Go.RowKit
set_option linter.unusedSimpArgs false
set_option linter.unusedVariables false

theorem data_append (s t : ByteArray) : (s ++ t).data.toList = s.data.toList ++ t.data.toList := by
  have e1 : s = ⟨s.data.toList.toArray⟩ := by simp
  have e2 : t = ⟨t.data.toList.toArray⟩ := by simp
  have h := ByteArray.mk_append_mk s.data.toList t.data.toList
  rw [← e1, ← e2] at h
  rw [h]

theorem cell_new2 (w : World) (x y : Value) (t : TypeId) : (w.alloc (.cells #[x, y] t)).cell? ⟨w.heap.size, 0, none⟩ = some x ∧ (w.alloc (.cells #[x, y] t)).cell? ⟨w.heap.size, 1, none⟩ = some y := by
  rw [cell_of_row _ w.heap.size 0 _ t (0, 0) (heap_alloc_new w _), cell_of_row _ w.heap.size 1 _ t (0, 0) (heap_alloc_new w _)]
  exact ⟨rfl, rfl⟩

/-- an append of the call's own row, behind a guard that says yes -/
theorem wpList_append_own_if {P : Program} {w : World} {ops : Array Oper} {rest : List Oper} {o : Oper} {a : Act} {Q : Exit → Act → World → Prop} (hw : Region.wanted o (yielded ops a.tmps) = true) (s x : Operand) (t : TypeId)
    (ho : o.op = .call { callee := .builtin .append, args := #[s, x], argTypes := #[t, t] })
    (base : Nat) (e : TypeId) (i : TypeInfo) (z : Value) (size bytes : Nat) (ht : P.underlying t = some (.slice e)) (hi : P.info? e = some i) (hz : i.zero = some z)
    (hsize : i.size = size) (hby : i.bytes = bytes) (hzs : z.cells.size = size) (hsz : 0 < size)
    (v : Value) (n : Nat) (xs : List Value) (hs : a.eval s = v) (hown : w.ownsRow base e size v n xs)
    (ad : Addr) (m c : Nat) (news : List Value) (hx : a.eval x = .slice (some ad) m c) (hl : news.length = m * size) (hnews : ∀ j u, news[j]? = some u → w.cell? (ad.add j) = some u) (h1 : ∀ u ∈ news, u.oneCell' = true)
    (h63 : n + m ≤ maxLen) (hbytes : (n + m) * bytes ≤ 140737488355328) (hbase : base ≤ w.heap.size)
    (h : ∀ v' w', w'.ownsRow base e size v' (n + m) (xs ++ news) → w.grownBy w' v.ownBlock → (v' = .slice none 0 0 ↔ v = .slice none 0 0 ∧ m = 0) → wpList P ops Q rest (a.put o.dst v') w') : wpList P ops Q (o :: rest) a w :=
  wpList_step fun _ hK => by
    rw [if_pos hw]
    exact wp_append_own w s x t ho base e i z size bytes ht hi hz hsize hby hzs hsz v n xs hs hown ad m c news hx hl hnews h1 h63 hbytes hbase fun v' w' h2 h3 h4 => hK _ _ (h v' w' h2 h3 h4)
theorem wpList_append_none_if {P : Program} {w : World} {ops : Array Oper} {rest : List Oper} {o : Oper} {a : Act} {Q : Exit → Act → World → Prop} (hw : Region.wanted o (yielded ops a.tmps) = true) (s x : Operand) (t : TypeId)
    (ho : o.op = .call { callee := .builtin .append, args := #[s, x], argTypes := #[t, t] })
    (base : Nat) (e : TypeId) (i : TypeInfo) (size : Nat) (ht : P.underlying t = some (.slice e)) (hi : P.info? e = some i)
    (v : Value) (n : Nat) (xs : List Value) (hs : a.eval s = v) (hown : w.ownsRow base e size v n xs) (hx : a.eval x = .slice none 0 0)
    (h : wpList P ops Q rest (a.put o.dst v) w) : wpList P ops Q (o :: rest) a w := by
  refine wpList_step fun K hK => ?_
  rw [if_pos hw]
  have hrun := run_append_owned_none (P := P) (w := w) base t o.type e i size ht hi v n xs hown
  unfold Oper.wp
  simp [execOp, ho, resolve, invoke, builtin, hs, hx, hrun, Result.andThen]
  exact hK _ _ h

theorem new_many (l : List Int) : ∀ u ∈ l.map (Value.int .i64), u.oneCell' = true := by
  intro u hu
  obtain ⟨n, _, rfl⟩ := List.mem_map.1 hu
  rfl

theorem both_early (s t : ByteArray) (w : World) (hs : s.size ≤ 1048576) (p : Nat) (hd : (dec s.data.toList).2 = some p) :
    Calls Try.prog 3 #[.string s, .string t] w fun e w' => e = .returned (.bool true) ∧ Below w.heap.size w w' := by
  have hl := len_data s
  have hdl := dec_len s.data.toList.length s.data.toList (Nat.le_refl _)
  have hlen : Hid ((dec s.data.toList).1.length ≤ 17592186044416) := by unfold Hid; omega
  have HD : Hid ((dec s.data.toList).2 = some p) := hd
  clear hl hdl hd
  go_enter Try.func3, Try.ntmps3
  go_wp2_with fail
  refine (decode_any s _ (by omega) hlen.out).mono ?_
  rintro e w1 ⟨v, rfl, hown, hb1⟩
  rw [HD.out]
  clear hown
  have hwn : why (some p) = 8 := rfl
  have hpn : pos (some p) = p := rfl
  go_wp2_with (first | (go_at_call 5; refine (alive_any _).mono ?_; rintro e w5 ⟨rfl, hb5⟩))
  go_ret
  have s1 := hb1.size
  exact ⟨rfl, (hb1.alloc s1 _).trans (hb5.mono (by simp; omega))⟩

set_option maxHeartbeats 1000000 in
theorem both_bad (s t : ByteArray) (w : World) (hs : s.size ≤ 1048576) (ht : t.size ≤ 1048576) (hd : (dec s.data.toList).2 = none) (q : Nat) (hq : (dec t.data.toList).2 = some q) :
    Calls Try.prog 3 #[.string s, .string t] w fun e w' => e = .returned (.bool true) ∧ Below w.heap.size w w' := by
  have hl := len_data s
  have hdl := dec_len s.data.toList.length s.data.toList (Nat.le_refl _)
  have hlt := len_data t
  have hdlt := dec_len t.data.toList.length t.data.toList (Nat.le_refl _)
  have hqt := (dec_sound t.data.toList.length t.data.toList (Nat.le_refl _)).2 q hq
  have hb := dec_both s.data.toList t.data.toList hd
  rw [← data_append] at hb
  have hsz : (s ++ t).size = s.size + t.size := by simp
  have hlen : Hid ((dec s.data.toList).1.length ≤ 17592186044416) := by unfold Hid; omega
  have hlent : Hid ((dec t.data.toList).1.length ≤ 17592186044416) := by unfold Hid; omega
  have hlenb : Hid ((dec (s ++ t).data.toList).1.length ≤ 17592186044416) := by unfold Hid; rw [hb.1]; simp; omega
  have HD : Hid ((dec s.data.toList).2 = none) := hd
  have HT : Hid ((dec t.data.toList).2 = some q) := hq
  have HB : Hid ((dec (s ++ t).data.toList).2 = some (q + s.size)) := by unfold Hid; rw [hb.1, hq, hl]; rfl
  have hq' : (q : Int) ≤ 1048576 := by omega
  clear hl hdl hlt hdlt hqt hb hd hq
  go_enter Try.func3, Try.ntmps3
  go_wp2_with fail
  refine (decode_any s _ (by omega) hlen.out).mono ?_
  rintro e w1 ⟨v, rfl, hown, hb1⟩
  rw [HD.out]
  clear hown
  have hwn : why none = 0 := rfl
  have hpn : pos none = 0 := rfl
  go_wp2_with fail
  refine (decode_any t _ (by omega) hlent.out).mono ?_
  rintro e w2 ⟨v2, rfl, hown2, hb2⟩
  rw [HT.out]
  clear hown2
  have hwq : why (some q) = 8 := rfl
  have hpq : pos (some q) = q := rfl
  go_wp2_with fail
  refine (decode_any (s ++ t) _ (by omega) hlenb.out).mono ?_
  rintro e w3 ⟨v3, rfl, hown3, hb3⟩
  rw [HB.out]
  have e3 : decXs (s ++ t).data.toList = [] := by unfold decXs; rw [HB.out]; rfl
  rw [e3] at hown3
  obtain ⟨a3, cap3, rfl, hi3⟩ := ints_of_own (zs := []) hown3
  clear hown3 hi3 e3
  have hwb : why (some (q + s.size)) = 8 := rfl
  have hpb : pos (some (q + s.size)) = (q : Int) + s.size := by simp [pos]
  have k3 : Below (w2.heap.size + 1) (w2.alloc (Obj.cells #[Value.int IntKind.i64 8, Value.int IntKind.i64 (q : Int)] 25)) w3 := hb3.mono (by simp)
  have c20 := (k3.cell (p := ⟨w2.heap.size, 0, none⟩) (Nat.lt_succ_self _)).trans (cell_new2 w2 _ _ _).1
  have c21 := (k3.cell (p := ⟨w2.heap.size, 1, none⟩) (Nat.lt_succ_self _)).trans (cell_new2 w2 _ _ _).2
  have z1 : w1.heap.size + 1 ≤ w2.heap.size := by have := hb2.size; simpa using this
  have z2 : w2.heap.size + 1 ≤ w3.heap.size := by have := hb3.size; simpa using this
  have z0 := hb1.size
  have HE : Hid (Below w.heap.size w w3) := ((((hb1.alloc z0 _).trans (hb2.mono (by simp; omega))).alloc (by omega) _).trans (hb3.mono (by simp; omega)))
  have hz : w2.heap.size < w3.heap.size := z2
  clear hb1 hb2 hb3 k3 z1 z2 z0
  go_wp2_with (first | (go_at_call 5; refine (alive_any _).mono ?_; rintro e w5 ⟨rfl, hb5⟩))
  go_ret
  exact ⟨rfl, (HE.out.alloc HE.out.size _).trans (hb5.mono (by have := HE.out.size; simp; omega))⟩

set_option maxHeartbeats 1000000 in
theorem both_good (s t : ByteArray) (w : World) (hs : s.size ≤ 1048576) (ht : t.size ≤ 1048576) (hd : (dec s.data.toList).2 = none) (hq : (dec t.data.toList).2 = none) :
    Calls Try.prog 3 #[.string s, .string t] w fun e w' => e = .returned (.bool true) ∧ Below w.heap.size w w' := by
  have hl := len_data s
  have hdl := dec_len s.data.toList.length s.data.toList (Nat.le_refl _)
  have hlt := len_data t
  have hdlt := dec_len t.data.toList.length t.data.toList (Nat.le_refl _)
  have hb := dec_both s.data.toList t.data.toList hd
  rw [← data_append] at hb
  have hsz : (s ++ t).size = s.size + t.size := by simp
  have hlen : Hid ((dec s.data.toList).1.length ≤ 17592186044416) := by unfold Hid; omega
  have hlent : Hid ((dec t.data.toList).1.length ≤ 17592186044416) := by unfold Hid; omega
  have hlenb : Hid ((dec (s ++ t).data.toList).1.length ≤ 17592186044416) := by unfold Hid; rw [hb.1]; simp; omega
  have HD : Hid ((dec s.data.toList).2 = none) := hd
  have HT : Hid ((dec t.data.toList).2 = none) := hq
  have HB : Hid ((dec (s ++ t).data.toList).2 = none) := by unfold Hid; rw [hb.1, hq]; rfl
  have HX : Hid (decXs (s ++ t).data.toList = decXs s.data.toList ++ decXs t.data.toList) := by
    unfold Hid decXs; rw [hb.1, hd, hq]; rfl
  have hcb : cnt (s.data.toList ++ t.data.toList) = cnt s.data.toList + cnt t.data.toList := by rw [← data_append]; exact hb.2
  have hc1 : cnt s.data.toList ≤ 1048576 := by omega
  have hc2 : cnt t.data.toList ≤ 1048576 := by omega
  have hx1 : (decXs s.data.toList).length ≤ 1048576 := by unfold decXs; rw [hd]; simp; omega
  have hx2 : (decXs t.data.toList).length ≤ 1048576 := by unfold decXs; rw [hq]; simp; omega
  clear hl hdl hlt hdlt hb hd hq
  go_enter Try.func3, Try.ntmps3
  go_wp2_with fail
  refine (decode_any s _ (by omega) hlen.out).mono ?_
  rintro e w1 ⟨v, rfl, hown, hb1⟩
  rw [HD.out]
  have hwn : why none = 0 := rfl
  have hpn : pos none = 0 := rfl
  go_wp2_with fail
  refine (decode_any t _ (by omega) hlent.out).mono ?_
  rintro e w2 ⟨v2, rfl, hown2, hb2⟩
  rw [HT.out]
  go_wp2_with fail
  refine (decode_any (s ++ t) _ (by omega) hlenb.out).mono ?_
  rintro e w3 ⟨v3, rfl, hown3, hb3⟩
  rw [HB.out]
  rw [HX.out] at hown3
  have z0 := hb1.size
  have z1 : w1.heap.size + 1 ≤ w2.heap.size := by have := hb2.size; simpa using this
  have z2 : w2.heap.size + 1 ≤ w3.heap.size := by have := hb3.size; simpa using this
  have k3 : Below (w2.heap.size + 1) (w2.alloc (Obj.cells #[Value.int IntKind.i64 0, Value.int IntKind.i64 0] 25)) w3 := hb3.mono (by simp)
  have c20 := (k3.cell (p := ⟨w2.heap.size, 0, none⟩) (Nat.lt_succ_self _)).trans (cell_new2 w2 _ _ _).1
  have c21 := (k3.cell (p := ⟨w2.heap.size, 1, none⟩) (Nat.lt_succ_self _)).trans (cell_new2 w2 _ _ _).2
  have hz : w2.heap.size < w3.heap.size := z2
  have n12 : Below w1.heap.size w1 w2 := ((Below.refl _ _).alloc (Nat.le_refl _) _).trans (hb2.mono (by simp))
  have n23 : Below w2.heap.size w2 w3 := ((Below.refl _ _).alloc (Nat.le_refl _) _).trans (hb3.mono (by simp))
  have n13 : Below w1.heap.size w1 w3 := n12.trans (n23.mono (by omega))
  have HE : Hid (Below w.heap.size w w3) := hb1.trans (n13.mono z0)
  have hbw : Below w3.heap.size w3 (w3.alloc (Obj.cells #[Value.int IntKind.i64 0, Value.int IntKind.i64 0] 25)) := (Below.refl _ _).alloc (Nat.le_refl _) _
  have o1 : (w3.alloc (Obj.cells #[Value.int IntKind.i64 0, Value.int IntKind.i64 0] 25)).ownsRow w.heap.size 3 1 v (decXs s.data.toList).length ((decXs s.data.toList).map (Value.int .i64)) := (own_later hown n13).alloc _
  have o2 : (w3.alloc (Obj.cells #[Value.int IntKind.i64 0, Value.int IntKind.i64 0] 25)).ownsRow w1.heap.size 3 1 v2 (decXs t.data.toList).length ((decXs t.data.toList).map (Value.int .i64)) := (ownsRow_lower (own_later hown2 n23) (by simp)).alloc _
  have o3 : w3.ownsRow w2.heap.size 3 1 v3 (decXs s.data.toList ++ decXs t.data.toList).length ((decXs s.data.toList ++ decXs t.data.toList).map (Value.int .i64)) := ownsRow_lower hown3 (by simp)
  have ob : ∀ k, v.ownBlock = some k → k < w1.heap.size := fun k hk => (hown.lt k hk).2
  obtain ⟨i0, hi, hz0, hz1, hz2⟩ := info_parts Try.info3
  have hm1 : s.size ≤ maxLen := by unfold maxLen; omega
  have hm2 : t.size ≤ maxLen := by unfold maxLen; omega
  have hm3 : (s ++ t).size ≤ maxLen := by unfold maxLen; omega
  have HBW : Hid (Below w.heap.size w (w3.alloc (Obj.cells #[Value.int IntKind.i64 0, Value.int IntKind.i64 0] 25))) := HE.out.alloc HE.out.size _
  clear hb2 hb3 k3 hown hown2 hown3 n12 n23 n13
  obtain ⟨ol2, o2⟩ := o2
  rcases o2 with ⟨rfl, hn0⟩ | ⟨g, cap, cur, rfl, hg0, hg, hgc, hgm, hgs, hgt⟩
  · have e0 : decXs t.data.toList = [] := List.eq_nil_iff_length_eq_zero.2 hn0
    have p5 : (w3.alloc (Obj.cells #[Value.int IntKind.i64 0, Value.int IntKind.i64 0] 25)).ownsRow w.heap.size 3 1 v (decXs s.data.toList ++ decXs t.data.toList).length ((decXs s.data.toList ++ decXs t.data.toList).map (Value.int .i64)) := by rw [e0, List.append_nil]; exact o1
    have p3 := o3.alloc (Obj.cells #[Value.int IntKind.i64 0, Value.int IntKind.i64 0] 25)
    have HB5 := HBW
    have hx0 : (decXs t.data.toList).length = 0 := hn0
    have O1 : Hid ((w3.alloc (Obj.cells #[Value.int IntKind.i64 0, Value.int IntKind.i64 0] 25)).ownsRow w.heap.size 3 1 v (decXs s.data.toList).length ((decXs s.data.toList).map (Value.int .i64))) := o1
    clear o1 o3 ol2 e0 hn0
    obtain ⟨a5, cap5, rfl, hi5⟩ := ints_of_own p5
    obtain ⟨a3, cap3, rfl, hi3⟩ := ints_of_own p3
    have hll : (decXs s.data.toList ++ decXs t.data.toList).length ≤ 17592186044416 := by rw [List.length_append]; omega
    have HI5 : Hid (Ints (w3.alloc (Obj.cells #[Value.int IntKind.i64 0, Value.int IntKind.i64 0] 25)) a5 (decXs s.data.toList ++ decXs t.data.toList).length (decXs s.data.toList ++ decXs t.data.toList)) := hi5
    have HI3 : Hid (Ints (w3.alloc (Obj.cells #[Value.int IntKind.i64 0, Value.int IntKind.i64 0] 25)) a3 (decXs s.data.toList ++ decXs t.data.toList).length (decXs s.data.toList ++ decXs t.data.toList)) := hi3
    clear hi5 hi3 p5 p3
    generalize decXs s.data.toList ++ decXs t.data.toList = zs at *
    go_wp2_with (first | (at_builtin; refine wpList_append_none_if (by simp [Region.wanted, yielded]) (.tmp 58) (.tmp 59) 22 rfl w.heap.size 3 i0 1 Try.underlying22 hi _ _ _ rfl O1.out rfl ?_))
    refine (ints_same a3 a5 _ cap3 cap5 zs _ HI3.out HI5.out hll).mono ?_
    rintro e w6 ⟨rfl, hb6⟩
    have HB6 : Hid (Below w.heap.size w w6) := HB5.out.trans (hb6.mono HB5.out.size)
    clear hb6
    go_wp2_with (first | (go_at_call 5; refine (alive_any _).mono ?_; rintro e w7 ⟨rfl, hb7⟩) | (go_at_call 7; refine (count_any _ _ (by assumption)).mono ?_; rintro e w' ⟨rfl, rfl⟩))
    go_ret
    exact ⟨rfl, HB6.out.trans (hb7.mono HB6.out.size)⟩
  · have hnews : ∀ j u, ((decXs t.data.toList).map (Value.int .i64))[j]? = some u → (w3.alloc (Obj.cells #[Value.int IntKind.i64 0, Value.int IntKind.i64 0] 25)).cell? ((⟨g, 0, none⟩ : Addr).add j) = some u := by
      intro j u hu
      rw [add_plain, Nat.zero_add, cell_of_row _ g j cur 3 (0, 0) hg]
      rw [← hgt, List.getElem?_take] at hu
      split at hu
      · simpa using hu
      · cases hu
    clear hg hgt hgs ol2
    go_wp2_with (first | (at_builtin; refine wpList_append_own_if (by simp [Region.wanted, yielded]) (.tmp 58) (.tmp 59) 22 rfl w.heap.size 3 i0 (.int .i64 0) 1 8 Try.underlying22 hi hz0 hz1 hz2 rfl (by decide) _ _ _ rfl o1 ⟨g, 0, none⟩ _ _ ((decXs t.data.toList).map (Value.int .i64)) rfl (by simp) hnews (new_many _) ?_ ?_ ?_ ?_))
    · unfold maxLen; omega
    · omega
    · simp; omega
    intro v' w5 hown' hgrow _
    have p5 : w5.ownsRow w.heap.size 3 1 v' (decXs s.data.toList ++ decXs t.data.toList).length ((decXs s.data.toList ++ decXs t.data.toList).map (Value.int .i64)) := by rw [List.length_append, List.map_append]; exact hown'
    have p3 := (o3.alloc (Obj.cells #[Value.int IntKind.i64 0, Value.int IntKind.i64 0] 25)).kept hgrow (by
      by_cases hv : v3.ownBlock = none
      · exact .inl hv
      · right
        intro e
        cases hk : v.ownBlock with
        | none => rw [hk] at e; exact hv e
        | some k =>
          have h1 := ob k hk
          have h2 := (o3.lt k (by rw [e, hk])).1
          omega)
    have HB5 : Hid (Below w.heap.size w w5) := HBW.out.grown hgrow (by simp; omega) (fun k hk => (o1.lt k hk).1)
    clear hown' hgrow o1 o3 hnews
    obtain ⟨a5, cap5, rfl, hi5⟩ := ints_of_own p5
    obtain ⟨a3, cap3, rfl, hi3⟩ := ints_of_own p3
    have hll : (decXs s.data.toList ++ decXs t.data.toList).length ≤ 17592186044416 := by rw [List.length_append]; omega
    have HI5 : Hid (Ints w5 a5 (decXs s.data.toList ++ decXs t.data.toList).length (decXs s.data.toList ++ decXs t.data.toList)) := hi5
    have HI3 : Hid (Ints w5 a3 (decXs s.data.toList ++ decXs t.data.toList).length (decXs s.data.toList ++ decXs t.data.toList)) := hi3
    clear hi5 hi3 p5 p3
    generalize decXs s.data.toList ++ decXs t.data.toList = zs at *
    go_wp2_with fail
    refine (ints_same a3 a5 _ cap3 cap5 zs _ HI3.out HI5.out hll).mono ?_
    rintro e w6 ⟨rfl, hb6⟩
    have HB6 : Hid (Below w.heap.size w w6) := HB5.out.trans (hb6.mono HB5.out.size)
    clear hb6
    go_wp2_with (first | (go_at_call 5; refine (alive_any _).mono ?_; rintro e w7 ⟨rfl, hb7⟩) | (go_at_call 7; refine (count_any _ _ (by assumption)).mono ?_; rintro e w' ⟨rfl, rfl⟩))
    go_ret
    exact ⟨rfl, HB6.out.trans (hb7.mono HB6.out.size)⟩

theorem both_walk (s t : ByteArray) (w : World) (hs : s.size ≤ 1048576) (ht : t.size ≤ 1048576) : Calls Try.prog 3 #[.string s, .string t] w fun e w' => e = .returned (.bool true) ∧ Below w.heap.size w w' := by
  cases h : (dec s.data.toList).2 with
  | some p => exact both_early s t w hs p h
  | none =>
    cases h2 : (dec t.data.toList).2 with
    | some q => exact both_bad s t w hs ht h q h2
    | none => exact both_good s t w hs ht h h2

end Go.Proofs.Ytkhaecinjllgiab.Utf
