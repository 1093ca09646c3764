/- Several texts as one: PlainNum. -/
import Derived.Test.YtaflbooofchimaaGreatDoorJPlainShelfI
import Derived.Test.YtaflbooofchimaaGreatDoorJ03UtfLeaf
import Derived.Test.YtaflbooofchimaaGreatDoorJ01RowsPlain
import Derived.Lib.SmallJoins
import Derived.Lib.AtoiAllCases
section
/- plain.Text, plain.Number, plain.Resolve, by their contracts. -/
namespace Go.Proofs.YtaflbooofchimaaGreatDoor.Pln
open Utf Rws
open Go.RowKit
set_option linter.unusedSimpArgs false
set_option linter.unusedVariables false
set_option maxRecDepth 100000

/-- the table's name, as the row lists it -/
def powName : String := match Rows.isoTellsRow.laid with
  | _ :: _ :: x :: _ => x.1
  | _ => Rows.isoTellsRow.func
/-- what the library reads of the variables that the rows list -/
structure Tabs (w : World) : Prop where
  pow : Lib.TabIs Tryz.prog w powName .u64 Lib.pow10Tab
  syn : ∃ te pe, w.cell? ⟨1, 0, none⟩ = some (.iface te pe)
  rng : ∃ te pe, w.cell? ⟨2, 0, none⟩ = some (.iface te pe)

theorem Tabs.later {w w' : World} (h : Tabs w) (hb : Below w.heap.size w w') : Tabs w' := by
  obtain ⟨h1, ⟨t2, p2, h2⟩, ⟨t3, p3, h3⟩⟩ := h
  refine ⟨?_, ⟨t2, p2, ?_⟩, ⟨t3, p3, ?_⟩⟩
  · exact Joins.tab_stays (g := 3) (by kernel_rfl) h1 hb (Nat.le_refl _)
  · exact (hb.cell (p := ⟨1, 0, none⟩) (World.block_lt_of_cell? w _ h2)).trans h2
  · exact (hb.cell (p := ⟨2, 0, none⟩) (World.block_lt_of_cell? w _ h3)).trans h3

theorem below_grow (w : World) (k : Nat) (os : Array Obj) : Below w.heap.size w (Sort.grow (w.drewN k) os) :=
  ⟨rfl, rfl, rfl, by simp [Sort.grow], fun i hi => by simp [Sort.grow, Array.getElem?_append, hi]⟩
theorem itoa_any (n : Int) (w : World) (h : inI n) (hT : Tabs w) : Calls Tryz.prog 120 #[.int .i64 n] w fun e w' => e = .returned (.string (mk (Lib.itoa n))) ∧ Below w.heap.size w w' := by
  refine (Any.strconv_Itoa laysM171 n h.1 h.2 w hT.pow).mono ?_
  rintro e w' ⟨rfl, k, os, rfl⟩
  exact ⟨rfl, below_grow w k os⟩

theorem text_any (n : Int) (w : World) (h : inI n) (hT : Tabs w) : Calls Tryz.prog 112 #[.int .i64 n] w fun e w' => e = .returned (.string (mk (Lib.itoa n))) ∧ Below w.heap.size w w' := by
  have h1 := h.1
  have h2 := h.2
  go_enter Tryz.func112, Tryz.ntmps112
  go_wp2_with (first | (go_at_call 120; refine (itoa_any _ _ h hT).mono ?_; rintro e w' ⟨rfl, hb⟩))
  go_ret
  exact ⟨rfl, hb⟩

theorem eq_mk (a b : List UInt8) : ((mk a).toList == (mk b).toList) = (a == b) := by
  rw [ByteArray.toList_eq, ByteArray.toList_eq, mk_data, mk_data]

theorem number_any (l : List UInt8) (w : World) (hs : l.length ≤ 140737488351232) (hT : Tabs w) : Calls Tryz.prog 108 #[.string (mk l)] w fun e w' => e = .returned (.tuple #[.int .i64 (numN l), .bool (numB l)]) ∧ Below w.heap.size w w' := by
  have hsz := mk_size l
  cases ha : Lib.atoiAll l
  · rename_i v
    have hin := atoi_in ha
    have h1 := hin.1
    have h2 := hin.2
    have hA := Any.strconv_Atoi_ok laysC172 (mk l) (by rw [hsz]; omega) v (by rw [mk_data]; exact ha) w
    have hA' : Calls Tryz.prog 111 #[.string (mk l)] w fun e w' => e = .returned (.tuple #[.int .i64 v, .nilIface]) ∧ Below w.heap.size w w' := hA.mono (by
      rintro e w' ⟨rfl, h⟩
      refine ⟨rfl, ?_⟩
      rcases h with rfl | ⟨t, rfl⟩
      · exact Below.refl _ _
      · exact Lib.bytesWorld_below _ _ _)
    clear hA
    have HN := numA_ok ha
    have HA : Hid (Calls Tryz.prog 111 #[.string (mk l)] w fun e w' => e = .returned (.tuple #[.int .i64 v, .nilIface]) ∧ Below w.heap.size w w') := hA'
    clear hA' ha
    by_cases he : Lib.itoa v = l
    · have HE : Hid (numN l = v ∧ numB l = true) := by unfold numN numB; rw [HN, if_pos he]; exact ⟨rfl, rfl⟩
      have hq : ((mk (Lib.itoa v)).toList == (mk l).toList) = true := by rw [eq_mk, he]; simp
      clear he HN
      go_enter Tryz.func108, Tryz.ntmps108
      go_wp2_with (first | (go_at_call 111; refine HA.out.mono ?_; rintro e w1 ⟨rfl, hb1⟩) | (go_at_call 112; refine (text_any _ _ hin (hT.later hb1)).mono ?_; rintro e w2 ⟨rfl, hb2⟩))
      go_ret2
      rw [HE.out.1, HE.out.2]
      exact ⟨rfl, hb1.trans (hb2.mono hb1.size)⟩
    · have HE : Hid (numN l = 0 ∧ numB l = false) := by unfold numN numB; rw [HN, if_neg he]; exact ⟨rfl, rfl⟩
      have hq : ((mk (Lib.itoa v)).toList == (mk l).toList) = false := by rw [eq_mk]; simpa using he
      clear he HN
      go_enter Tryz.func108, Tryz.ntmps108
      go_wp2_with (first | (go_at_call 111; refine HA.out.mono ?_; rintro e w1 ⟨rfl, hb1⟩) | (go_at_call 112; refine (text_any _ _ hin (hT.later hb1)).mono ?_; rintro e w2 ⟨rfl, hb2⟩))
      go_ret2
      rw [HE.out.1, HE.out.2]
      exact ⟨rfl, hb1.trans (hb2.mono hb1.size)⟩
  · have HE : Hid (numN l = 0 ∧ numB l = false) := by unfold numN numB; rw [numA_no (fun v => by rw [ha]; exact fun h => by cases h)]; exact ⟨rfl, rfl⟩
    obtain ⟨te, pe, hv⟩ := hT.syn
    have hA := Any.strconv_Atoi_syntax laysC172 (mk l) (by rw [hsz]; omega) (by rw [mk_data]; exact ha) _ w hv (.inr ⟨te, pe, rfl⟩)
    have HA : Hid (Calls Tryz.prog 111 #[.string (mk l)] w fun e w' => ∃ N, e = .returned (.tuple #[.int .i64 0, .iface 161 (.pointer (some ⟨N, 0, none⟩))]) ∧ Below w.heap.size w w') := hA.mono (by
      rintro e w' ⟨N, h1, _, _, h2⟩
      exact ⟨N, h1, h2⟩)
    clear hA ha
    go_enter Tryz.func108, Tryz.ntmps108
    go_wp2_with (first | (go_at_call 111; refine HA.out.mono ?_; rintro e w1 ⟨N, rfl, hb1⟩))
    go_ret2
    rw [HE.out.1, HE.out.2]
    exact ⟨rfl, hb1⟩
  · have HE : Hid (numN l = 0 ∧ numB l = false) := by unfold numN numB; rw [numA_no (fun v => by rw [ha]; exact fun h => by cases h)]; exact ⟨rfl, rfl⟩
    obtain ⟨te, pe, hv⟩ := hT.rng
    have hA := Any.strconv_Atoi_range laysC172 (mk l) (by rw [hsz]; omega) (by rw [mk_data]; exact ha) _ w hv (.inr ⟨te, pe, rfl⟩)
    obtain ⟨S, HS⟩ : ∃ S, Hid (Lib.atoiSat (mk l).data.toList = S) := ⟨_, rfl⟩
    rw [HS.out] at hA
    have HA : Hid (Calls Tryz.prog 111 #[.string (mk l)] w fun e w' => ∃ N, e = .returned (.tuple #[.int .i64 S, .iface 161 (.pointer (some ⟨N, 0, none⟩))]) ∧ Below w.heap.size w w') := hA.mono (by
      rintro e w' ⟨N, h1, _, _, h2⟩
      exact ⟨N, h1, h2⟩)
    clear hA ha
    go_enter Tryz.func108, Tryz.ntmps108
    go_wp2_with (first | (go_at_call 111; refine HA.out.mono ?_; rintro e w1 ⟨N, rfl, hb1⟩))
    go_ret2
    rw [HE.out.1, HE.out.2]
    exact ⟨rfl, hb1⟩

/-- the kinds: Null 1, Bool 2, Int 3, Str 4 -/
def kind (l : List UInt8) : Int :=
  if (l == [] || l == [126] || l == [110, 117, 108, 108]) = true then 1
  else if (l == [116, 114, 117, 101] || l == [102, 97, 108, 115, 101]) = true then 2
  else if numB l = true then 3 else 4
theorem eq_at (l : List UInt8) (c : ByteArray) (d : List UInt8) (h : c.data.toList = d) : ((mk l).toList == d) = (l == d) := by
  rw [ByteArray.toList_eq, mk_data]
theorem eq_l (l d : List UInt8) : ((mk l).toList == d) = (l == d) := by rw [ByteArray.toList_eq, mk_data]
theorem resolve_any (l : List UInt8) (w : World) (hs : l.length ≤ 140737488351232) (hT : Tabs w) : Calls Tryz.prog 104 #[.string (mk l)] w fun e w' => e = .returned (.int .i64 (kind l)) ∧ Below w.heap.size w w' := by
  have q1 := eq_l l []
  have q2 := eq_l l [126]
  have q3 := eq_l l [110, 117, 108, 108]
  have q4 := eq_l l [116, 114, 117, 101]
  have q5 := eq_l l [102, 97, 108, 115, 101]
  cases c1 : (l == [])
  · cases c2 : (l == [126])
    · cases c3 : (l == [110, 117, 108, 108])
      · cases c4 : (l == [116, 114, 117, 101])
        · cases c5 : (l == [102, 97, 108, 115, 101])
          · cases hn : numB l
            · have HE : Hid (kind l = 4) := by unfold kind; rw [c1, c2, c3, c4, c5, hn]; rfl
              rw [c1] at q1; rw [c2] at q2; rw [c3] at q3; rw [c4] at q4; rw [c5] at q5
              have HN : Hid (Calls Tryz.prog 108 #[.string (mk l)] w fun e w' => e = .returned (.tuple #[.int .i64 (numN l), .bool false]) ∧ Below w.heap.size w w') := by rw [← hn]; exact number_any l w hs hT
              clear c1 c2 c3 c4 c5 hn
              go_enter Tryz.func104, Tryz.ntmps104
              go_wp2_with (first | (go_at_call 108; refine HN.out.mono ?_; rintro e w1 ⟨rfl, hb1⟩))
              go_ret
              rw [HE.out]
              exact ⟨rfl, hb1⟩
            · have HE : Hid (kind l = 3) := by unfold kind; rw [c1, c2, c3, c4, c5, hn]; rfl
              rw [c1] at q1; rw [c2] at q2; rw [c3] at q3; rw [c4] at q4; rw [c5] at q5
              have HN : Hid (Calls Tryz.prog 108 #[.string (mk l)] w fun e w' => e = .returned (.tuple #[.int .i64 (numN l), .bool true]) ∧ Below w.heap.size w w') := by rw [← hn]; exact number_any l w hs hT
              clear c1 c2 c3 c4 c5 hn
              go_enter Tryz.func104, Tryz.ntmps104
              go_wp2_with (first | (go_at_call 108; refine HN.out.mono ?_; rintro e w1 ⟨rfl, hb1⟩))
              go_ret
              rw [HE.out]
              exact ⟨rfl, hb1⟩
          · have HE : Hid (kind l = 2) := by unfold kind; rw [c1, c2, c3, c4, c5]; rfl
            rw [c1] at q1; rw [c2] at q2; rw [c3] at q3; rw [c4] at q4; rw [c5] at q5
            clear c1 c2 c3 c4 c5
            go_enter Tryz.func104, Tryz.ntmps104
            go_wp2
            go_ret
            rw [HE.out]
            exact ⟨rfl, Below.refl _ _⟩
        · have HE : Hid (kind l = 2) := by unfold kind; rw [c1, c2, c3, c4]; rfl
          rw [c1] at q1; rw [c2] at q2; rw [c3] at q3; rw [c4] at q4
          clear c1 c2 c3 c4 q5
          go_enter Tryz.func104, Tryz.ntmps104
          go_wp2
          go_ret
          rw [HE.out]
          exact ⟨rfl, Below.refl _ _⟩
      · have HE : Hid (kind l = 1) := by unfold kind; rw [c1, c2, c3]; rfl
        rw [c1] at q1; rw [c2] at q2; rw [c3] at q3
        clear c1 c2 c3 q4 q5
        go_enter Tryz.func104, Tryz.ntmps104
        go_wp2
        go_ret
        rw [HE.out]
        exact ⟨rfl, Below.refl _ _⟩
    · have HE : Hid (kind l = 1) := by unfold kind; rw [c1, c2]; rfl
      rw [c1] at q1; rw [c2] at q2
      clear c1 c2 q3 q4 q5
      go_enter Tryz.func104, Tryz.ntmps104
      go_wp2
      go_ret
      rw [HE.out]
      exact ⟨rfl, Below.refl _ _⟩
  · have HE : Hid (kind l = 1) := by unfold kind; rw [c1]; rfl
    rw [c1] at q1
    clear c1 q2 q3 q4 q5
    go_enter Tryz.func104, Tryz.ntmps104
    go_wp2
    go_ret
    rw [HE.out]
    exact ⟨rfl, Below.refl _ _⟩

end Go.Proofs.YtaflbooofchimaaGreatDoor.Pln
end
