/- Several texts as one: GraphPlc2, GraphComp. -/
import Derived.Test.YtaphijgbebhdlaaGreatDoorV21GraphPls2
section
/- The composer's place: the walk. -/
namespace Go.Proofs.YtaphijgbebhdlaaGreatDoor.Grp
open Utf Rws Pln Flw
open Go.RowKit Go.Maps
set_option linter.unusedSimpArgs false
set_option linter.unusedVariables false
set_option maxRecDepth 100000
set_option maxHeartbeats 4000000

theorem wpOp_append_at {P : Program} {ops : Array Oper} {Q : Exit → Act → World → Prop} {j : Nat} {o : Oper} {K : Act → World → Prop} {a : Act} {w : World} (ho : ops[j]? = some o)
    (hg : o.guard = none) (s x : Operand) (t : TypeId) (hop : o.op = Op.call { callee := Callee.builtin Builtin.append, args := #[s, x], argTypes := #[t, t] }) (base : Nat)
    (e : TypeId) (i : TypeInfo) (z : Value) (size bytes : Nat) (h1 : P.underlying t = some (.slice e)) (h2 : P.info? e = some i) (h3 : i.zero = some z) (h4 : i.size = size) (h5 : i.bytes = bytes) (h6 : z.cells.size = size) (h7 : 0 < size)
    (v : Value) (n : Nat) (xs : List Value) (hs : a.eval s = v) (hown : w.ownsRow base e size v n xs)
    (ad : Addr) (m c : Nat) (news : List Value) (hx : a.eval x = .slice (some ad) m c) (hn : news.length = m * size) (hc : ∀ j u, news[j]? = some u → w.cell? (ad.add j) = some u) (h1c : ∀ u ∈ news, u.oneCell' = true)
    (b1 : n + m ≤ maxLen) (b2 : (n + m) * bytes ≤ 140737488355328) (hbase : base ≤ w.heap.size)
    (hK : ∀ v' w', w'.ownsRow base e size v' (n + m) (xs ++ news) → w.grownBy w' v.ownBlock → (v'.ownBlock = v.ownBlock ∨ v'.ownBlock = some w.heap.size) → K (a.put o.dst v') w') : wpOp P ops Q j K a w := by
  refine wpOp_at ho (by simp [Region.wanted, hg]) ?_
  obtain ⟨v', w', hrun, r1, r2, _, r4⟩ := run_append_own_at (P := P) w base t o.type e i z size bytes h1 h2 h3 h4 h5 h6 h7 v n xs hown ad m c news hn hc h1c b1 b2 hbase
  unfold Oper.wp
  simp [execOp, hop, resolve, invoke, builtin, hs, hx, hrun, Result.andThen]
  exact hK v' w' r1 r2 r4
theorem cell_three (w : World) (a b c : Value) (t : TypeId) : ∀ j u, [a, b, c][j]? = some u → (w.alloc (.cells #[a, b, c] t)).cell? ((⟨w.heap.size, 0, none⟩ : Addr).add j) = some u := by
  intro j u hj
  have e : (⟨w.heap.size, 0, none⟩ : Addr).add j = ⟨w.heap.size, j, none⟩ := by simp [Addr.add]; intro h; exact h.symm
  rw [e, World.cell?_alloc_new]
  match j, hj with
  | 0, hj => simpa using hj
  | 1, hj => simpa using hj
  | 2, hj => simpa using hj
theorem all7 : ∀ i, i < 7 → ([true, true, true, true, true, true, true, false].set 7 true).getD i false = true := by decide
theorem place_core {w0 W : World} {K M d : Nat} {k : Int} {x a : Ln} {ad : Option Addr} {len cap : Nat} {ks : List Tr} {nv : Value} {l : List (Nd × Value)} {an : List (Ln × Nat)} (hcap : len ≤ 9223372036854775807) (hk : i64 k) (hx : x.length ≤ 9223372036854775807) (ha : a.length ≤ 9223372036854775807) (HKA : Hid (KAt w0 d ad len ks)) (HP : Hid (PlOk w0 K M d)) (hC : CmS w0 W K M nv l an) (hz : l.length + tsz (d + 1) ⟨k, x, a, ks⟩ ≤ 1000000) :
    Calls Tryz.prog 36 #[.pointer (some ⟨K, 0, none⟩), tv k x a ad len cap] W (PlRes w0 K M nv l W (plc (d + 1) ⟨k, x, a, ks⟩ ⟨l.map (·.1), an⟩)) := by
  have b1 := below_alloc W (.cells #[.int .i64 k, .string (mk x), .string (mk a), .slice ad len cap] 29)
  have n1 := Bx.new W #[.int .i64 k, .string (mk x), .string (mk a), .slice ad len cap] 29
  have hC1 := hC.later b1
  have hno : ∀ g, W.heap.size ≤ g → some g ≠ nv.ownBlock := fun g hg e => by have := (own_block hC.ow e.symm).2; omega
  have hnk : ∀ p ∈ l, ¬ kb p W.heap.size := fun p hp hk => by have := ((hC.kk p hp).lt hk).2.1; omega
  have hKlt := hC.bx.lt
  by_cases h7 : k = 7
  · subst h7
    cases hl : look an a with
    | none =>
      have HR : Hid (plc (d + 1) ⟨7, x, a, ks⟩ ⟨l.map (·.1), an⟩ = (0, 11, ⟨l.map (·.1), an⟩)) := by
        show _ = _
        rw [plc, if_pos rfl]
        simp only [hl]
      rw [HR.out]
      have HM := meant_any hC1.bx hC1.mp ha
      rw [hl] at HM
      have HM2 : Hid (Calls Tryz.prog 55 _ _ _) := HM
      have HC1 : Hid (CmS w0 (W.alloc (.cells #[.int .i64 7, .string (mk x), .string (mk a), .slice ad len cap] 29)) K M nv l an) := hC1
      clear HM hC1 hC HP HKA
      go_enter Tryz.func36, Tryz.ntmps36
      go_wp2_with (go_at_call 55; refine HM2.out.mono ?_; rintro e w2 ⟨rfl, rfl⟩)
      go_ret2
      exact ⟨rfl, (by decide : 0 ≤ 1000000), (by decide : 11 ≤ 100), nv, l, HC1.out, rfl, Ch.of_below b1, OB.refl _ _, NB.refl _ _⟩
    | some q =>
      have HR : Hid (plc (d + 1) ⟨7, x, a, ks⟩ ⟨l.map (·.1), an⟩ = (q, 0, ⟨l.map (·.1), an⟩)) := by
        show _ = _
        rw [plc, if_pos rfl]
        simp only [hl]
      rw [HR.out]
      have HM := meant_any hC1.bx hC1.mp ha
      rw [hl] at HM
      have HM2 : Hid (Calls Tryz.prog 55 _ _ _) := HM
      have HC1 : Hid (CmS w0 (W.alloc (.cells #[.int .i64 7, .string (mk x), .string (mk a), .slice ad len cap] 29)) K M nv l an) := hC1
      obtain ⟨p, hp1, hp2⟩ := look_le an a q hl
      have hq : q ≤ 1000000 := by have := hC.ha p hp1; omega
      clear HM hC1 hC HP HKA
      go_enter Tryz.func36, Tryz.ntmps36
      go_wp2_with (go_at_call 55; refine HM2.out.mono ?_; rintro e w2 ⟨rfl, rfl⟩)
      go_ret2
      exact ⟨rfl, hq, (by decide : 0 ≤ 100), nv, l, HC1.out, rfl, Ch.of_below b1, OB.refl _ _, NB.refl _ _⟩
  have h7' : (k == 7) = false := by simpa using h7
  obtain ⟨R, HR⟩ : ∃ R, Hid (R = pls (plc d) k 0 ks [] [] (put1 ⟨k, x, a, ks⟩ ⟨l.map (·.1), an⟩)) := ⟨_, rfl⟩
  have HR1 : Hid (plc (d + 1) ⟨k, x, a, ks⟩ ⟨l.map (·.1), an⟩ = setK l.length ⟨k, x, a, ks⟩ R) := by
    show _ = _
    rw [plc, if_neg h7, HR.out, List.length_map]
  rw [HR1.out]
  have hll : l.length ≤ 1000000 := by omega
  obtain ⟨na, nc, hnv, hn1, hn2⟩ := own_shapeN hC.ow
  go_enter Tryz.func36, Tryz.ntmps36
  go_upto_region 3 with fail
  generalize W.alloc (.cells #[.int .i64 k, .string (mk x), .string (mk a), .slice ad len cap] 29) = A at *
  obtain ⟨KB, hKB⟩ : ∃ KB, KB = W.heap.size := ⟨_, rfl⟩
  rw [← hKB] at n1 hno hnk hKlt ⊢
  have HKB : Hid (KB = W.heap.size) := hKB
  clear hKB
  subst hnv
  obtain ⟨c0, c1⟩ := hC1.bx.c2
  obtain ⟨d0, d1, d2, d3⟩ := n1.c4
  go_upto_region 4 with fail
  have hmix : Tryz.prog.follows .mixedOrders = true := by kernel_rfl
  have HC1 : Hid (CmS w0 A K M (.slice na l.length nc) l an) := hC1
  have hKA := hC1.bx.lt
  have hown := hC1.ow
  have hKBA := n1.lt
  have z0 := hC1.bx.fz 0
  have c0a : (A.drew.alloc (.cells #[.int .i64 k, .string (mk x), .slice none 0 0] 47)).cell? ⟨K, 0, none⟩ = some (.slice na l.length nc) := (World.cell?_alloc_lt _ _ _ (by show K < A.heap.size; exact hKA)).trans c0
  have hob : some K ≠ Value.ownBlock (.slice na l.length nc) := fun e => by have := (own_block hown e.symm).1; omega
  obtain ⟨i0, hi, hz0, hz1, hz2⟩ := info_parts Tryz.infoNode
  refine wp_region_E hmix (N := 15) (dp := plcDp) (by kernel_rfl) (E := Value × World) (fun (e : Value × World) (s : List Bool) => (s.getD 9 false = true → s.getD 6 false = true ∧ s.getD 8 false = true) ∧ (s.getD 10 false = true → s.getD 9 false = true) ∧ (s.getD 11 false = true → s.getD 10 false = true ∧ s.getD 4 false = true ∧ Hid ((∃ ea ec, e.1 = .slice ea (l.length + 1) ec) ∧ e.2.ownsRow (K + 1) 47 3 e.1 (l.length + 1) (ncs l ++ [.int .i64 k, .string (mk x), .slice none 0 0]) ∧ (A.drew.alloc (.cells #[.int .i64 k, .string (mk x), .slice none 0 0] 47)).grownBy e.2 (Value.ownBlock (.slice na l.length nc)) ∧ (e.1.ownBlock = Value.ownBlock (.slice na l.length nc) ∨ e.1.ownBlock = some (A.drew.alloc (.cells #[.int .i64 k, .string (mk x), .slice none 0 0] 47)).heap.size))) ∧ (s.getD 14 false = true → s.getD 11 false = true)) (fun (e : Value × World) (s : List Bool) => { tmps := #[.pointer (some ⟨K, 0, none⟩), tv k x a ad len cap, undef, .pointer (some ⟨KB, 0, none⟩), .int .i64 0, .int .i64 0, .int .i64 (l.length : Int), undef, undef, .pointer (some ⟨KB, 0, none⟩), .int .i64 k, .bool false, undef, undef, undef, undef, undef, undef, .pointer (some ⟨K, 0, none⟩), .pointer (some ⟨K, 0, none⟩), .pointer (some ⟨K, 0, none⟩), .slice na l.length nc, .int .i64 (l.length : Int), slu (s.getD 0 false) (.pointer (some ⟨K, 0, none⟩)) undef, slu (s.getD 1 false) (.pointer (some ⟨K, 0, none⟩)) undef, slu (s.getD 2 false) (.pointer (some ⟨K, 0, none⟩)) undef, slu (s.getD 3 false) (.pointer (some ⟨K, 0, none⟩)) undef, slu (s.getD 4 false) (.slice na l.length nc) undef, slu (s.getD 5 false) (.pointer (some ⟨KB, 0, none⟩)) undef, slu (s.getD 6 false) (.int .i64 k) undef, slu (s.getD 7 false) (.pointer (some ⟨KB, 1, none⟩)) undef, slu (s.getD 8 false) (.string (mk x)) undef, slu (s.getD 9 false) (.agg #[.int .i64 k, .string (mk x), .slice none 0 0]) undef, slu (s.getD 10 false) (.slice (some ⟨A.heap.size, 0, none⟩) 1 1) undef, slu (s.getD 11 false) (e.1) undef, slu (s.getD 12 false) (.pointer (some ⟨K, 0, none⟩)) undef, slu (s.getD 13 false) (.pointer (some ⟨K, 0, none⟩)) undef, undef, undef, undef, undef, undef, undef, undef, undef, undef, undef, undef, undef, undef, undef, undef, undef, undef, undef, undef, undef, undef, undef, undef, undef, undef, undef], defers := [] }) (fun (e : Value × World) (s : List Bool) => cond (s.getD 14 false) (e.2.setCell ⟨K, 0, none⟩ e.1) (cond (s.getD 11 false) e.2 (cond (s.getD 10 false) (A.drew.alloc (.cells #[.int .i64 k, .string (mk x), .slice none 0 0] 47)) A.drew))) ?hS ?hF (undef, A) ⟨fun h => absurd h (by decide), fun h => absurd h (by decide), fun h => absurd h (by decide), fun h => absurd h (by decide)⟩ rfl rfl
  case hS =>
    rintro ⟨ev, eW⟩ s hJ hl i hi' hbi hd Kk hK
    match s, hl with
    | [b0, b1, b2, b3, b4, b5, b6, b7, b8, b9, b10, b11, b12, b13, b14], _ =>
      simp only [List.getD_cons_zero, List.getD_cons_succ] at hJ ⊢
      have hi2 : i = 0 ∨ i = 1 ∨ i = 2 ∨ i = 3 ∨ i = 4 ∨ i = 5 ∨ i = 6 ∨ i = 7 ∨ i = 8 ∨ i = 9 ∨ i = 10 ∨ i = 11 ∨ i = 12 ∨ i = 13 ∨ i = 14 := by omega
      rcases hi2 with rfl | rfl | rfl | rfl | rfl | rfl | rfl | rfl | rfl | rfl | rfl | rfl | rfl | rfl | rfl
      · have g0 : b0 = false := hbi
        subst g0
        have hK2 := hK (ev, eW) (by first | exact hJ | (refine ⟨fun h => ?_, fun h => ?_, fun h => ?_, fun h => ?_⟩ <;> first | exact rfl | exact ⟨rfl, rfl⟩ | exact hJ.1 h | exact hJ.2.1 h | exact hJ.2.2.1 h | exact hJ.2.2.2 h | exact absurd h (by simp)))
        clear hK hJ hd hbi
        simp only [List.set_cons_zero, List.set_cons_succ, List.getD_cons_zero, List.getD_cons_succ, slu_t, slu_f, cond_true, cond_false] at hK2 ⊢
        generalize cond b14 _ _ = WW at hK2 ⊢
        refine wpOp_if rfl ?_
        go_simp
        exact hK2
      · have g1 : b1 = false := hbi
        subst g1
        have hK2 := hK (ev, eW) (by first | exact hJ | (refine ⟨fun h => ?_, fun h => ?_, fun h => ?_, fun h => ?_⟩ <;> first | exact rfl | exact ⟨rfl, rfl⟩ | exact hJ.1 h | exact hJ.2.1 h | exact hJ.2.2.1 h | exact hJ.2.2.2 h | exact absurd h (by simp)))
        clear hK hJ hd hbi
        simp only [List.set_cons_zero, List.set_cons_succ, List.getD_cons_zero, List.getD_cons_succ, slu_t, slu_f, cond_true, cond_false] at hK2 ⊢
        generalize cond b14 _ _ = WW at hK2 ⊢
        refine wpOp_if rfl ?_
        go_simp
        exact hK2
      · have g2 : b2 = false := hbi
        have h1 : b1 = true := hd 1 (by simp [plcDp])
        subst g2 h1
        have hK2 := hK (ev, eW) (by first | exact hJ | (refine ⟨fun h => ?_, fun h => ?_, fun h => ?_, fun h => ?_⟩ <;> first | exact rfl | exact ⟨rfl, rfl⟩ | exact hJ.1 h | exact hJ.2.1 h | exact hJ.2.2.1 h | exact hJ.2.2.2 h | exact absurd h (by simp)))
        clear hK hJ hd hbi
        simp only [List.set_cons_zero, List.set_cons_succ, List.getD_cons_zero, List.getD_cons_succ, slu_t, slu_f, cond_true, cond_false] at hK2 ⊢
        generalize cond b14 _ _ = WW at hK2 ⊢
        refine wpOp_if rfl ?_
        go_simp
        exact hK2
      · have g3 : b3 = false := hbi
        have h2 : b2 = true := hd 2 (by simp [plcDp])
        subst g3 h2
        have hK2 := hK (ev, eW) (by first | exact hJ | (refine ⟨fun h => ?_, fun h => ?_, fun h => ?_, fun h => ?_⟩ <;> first | exact rfl | exact ⟨rfl, rfl⟩ | exact hJ.1 h | exact hJ.2.1 h | exact hJ.2.2.1 h | exact hJ.2.2.2 h | exact absurd h (by simp)))
        clear hK hJ hd hbi
        simp only [List.set_cons_zero, List.set_cons_succ, List.getD_cons_zero, List.getD_cons_succ, slu_t, slu_f, cond_true, cond_false] at hK2 ⊢
        generalize cond b14 _ _ = WW at hK2 ⊢
        refine wpOp_if rfl ?_
        go_simp
        exact hK2
      · have g4 : b4 = false := hbi
        have h3 : b3 = true := hd 3 (by simp [plcDp])
        have f11 : b11 = false := by cases b11 with | false => rfl | true => exact absurd ((hJ.2.2.1 rfl).2.1) (by rw [g4]; simp)
        have f14 : b14 = false := by cases b14 with | false => rfl | true => exact absurd (hJ.2.2.2 rfl) (by rw [f11]; simp)
        subst g4 h3 f11 f14
        have hK2 := hK (ev, eW) (by first | exact hJ | (refine ⟨fun h => ?_, fun h => ?_, fun h => ?_, fun h => ?_⟩ <;> first | exact rfl | exact ⟨rfl, rfl⟩ | exact hJ.1 h | exact hJ.2.1 h | exact hJ.2.2.1 h | exact hJ.2.2.2 h | exact absurd h (by simp)))
        clear hK hJ hd hbi
        cases b10
        all_goals
          simp only [List.set_cons_zero, List.set_cons_succ, List.getD_cons_zero, List.getD_cons_succ, slu_t, slu_f, cond_true, cond_false] at hK2 ⊢
          refine wpOp_if rfl ?_
          go_simp
          exact hK2
      · have g5 : b5 = false := hbi
        subst g5
        have hK2 := hK (ev, eW) (by first | exact hJ | (refine ⟨fun h => ?_, fun h => ?_, fun h => ?_, fun h => ?_⟩ <;> first | exact rfl | exact ⟨rfl, rfl⟩ | exact hJ.1 h | exact hJ.2.1 h | exact hJ.2.2.1 h | exact hJ.2.2.2 h | exact absurd h (by simp)))
        clear hK hJ hd hbi
        simp only [List.set_cons_zero, List.set_cons_succ, List.getD_cons_zero, List.getD_cons_succ, slu_t, slu_f, cond_true, cond_false] at hK2 ⊢
        generalize cond b14 _ _ = WW at hK2 ⊢
        refine wpOp_if rfl ?_
        go_simp
        exact hK2
      · have g6 : b6 = false := hbi
        have h5 : b5 = true := hd 5 (by simp [plcDp])
        have f9 : b9 = false := by cases b9 with | false => rfl | true => exact absurd ((hJ.1 rfl).1) (by rw [g6]; simp)
        have f10 : b10 = false := by cases b10 with | false => rfl | true => exact absurd (hJ.2.1 rfl) (by rw [f9]; simp)
        have f11 : b11 = false := by cases b11 with | false => rfl | true => exact absurd ((hJ.2.2.1 rfl).1) (by rw [f10]; simp)
        have f14 : b14 = false := by cases b14 with | false => rfl | true => exact absurd (hJ.2.2.2 rfl) (by rw [f11]; simp)
        subst g6 h5 f9 f10 f11 f14
        have hK2 := hK (ev, eW) (by first | exact hJ | (refine ⟨fun h => ?_, fun h => ?_, fun h => ?_, fun h => ?_⟩ <;> first | exact rfl | exact ⟨rfl, rfl⟩ | exact hJ.1 h | exact hJ.2.1 h | exact hJ.2.2.1 h | exact hJ.2.2.2 h | exact absurd h (by simp)))
        clear hK hJ hd hbi
        simp only [List.set_cons_zero, List.set_cons_succ, List.getD_cons_zero, List.getD_cons_succ, slu_t, slu_f, cond_true, cond_false] at hK2 ⊢
        refine wpOp_if rfl ?_
        go_simp
        exact hK2
      · have g7 : b7 = false := hbi
        subst g7
        have hK2 := hK (ev, eW) (by first | exact hJ | (refine ⟨fun h => ?_, fun h => ?_, fun h => ?_, fun h => ?_⟩ <;> first | exact rfl | exact ⟨rfl, rfl⟩ | exact hJ.1 h | exact hJ.2.1 h | exact hJ.2.2.1 h | exact hJ.2.2.2 h | exact absurd h (by simp)))
        clear hK hJ hd hbi
        simp only [List.set_cons_zero, List.set_cons_succ, List.getD_cons_zero, List.getD_cons_succ, slu_t, slu_f, cond_true, cond_false] at hK2 ⊢
        generalize cond b14 _ _ = WW at hK2 ⊢
        refine wpOp_if rfl ?_
        go_simp
        exact hK2
      · have g8 : b8 = false := hbi
        have h7 : b7 = true := hd 7 (by simp [plcDp])
        have f9 : b9 = false := by cases b9 with | false => rfl | true => exact absurd ((hJ.1 rfl).2) (by rw [g8]; simp)
        have f10 : b10 = false := by cases b10 with | false => rfl | true => exact absurd (hJ.2.1 rfl) (by rw [f9]; simp)
        have f11 : b11 = false := by cases b11 with | false => rfl | true => exact absurd ((hJ.2.2.1 rfl).1) (by rw [f10]; simp)
        have f14 : b14 = false := by cases b14 with | false => rfl | true => exact absurd (hJ.2.2.2 rfl) (by rw [f11]; simp)
        subst g8 h7 f9 f10 f11 f14
        have hK2 := hK (ev, eW) (by first | exact hJ | (refine ⟨fun h => ?_, fun h => ?_, fun h => ?_, fun h => ?_⟩ <;> first | exact rfl | exact ⟨rfl, rfl⟩ | exact hJ.1 h | exact hJ.2.1 h | exact hJ.2.2.1 h | exact hJ.2.2.2 h | exact absurd h (by simp)))
        clear hK hJ hd hbi
        simp only [List.set_cons_zero, List.set_cons_succ, List.getD_cons_zero, List.getD_cons_succ, slu_t, slu_f, cond_true, cond_false] at hK2 ⊢
        refine wpOp_if rfl ?_
        go_simp
        exact hK2
      · have g9 : b9 = false := hbi
        have h6 : b6 = true := hd 6 (by simp [plcDp])
        have h8 : b8 = true := hd 8 (by simp [plcDp])
        have f10 : b10 = false := by cases b10 with | false => rfl | true => exact absurd (hJ.2.1 rfl) (by rw [g9]; simp)
        have f11 : b11 = false := by cases b11 with | false => rfl | true => exact absurd ((hJ.2.2.1 rfl).1) (by rw [f10]; simp)
        have f14 : b14 = false := by cases b14 with | false => rfl | true => exact absurd (hJ.2.2.2 rfl) (by rw [f11]; simp)
        subst g9 h6 h8 f10 f11 f14
        have hK2 := hK (ev, eW) (by first | exact hJ | (refine ⟨fun h => ?_, fun h => ?_, fun h => ?_, fun h => ?_⟩ <;> first | exact rfl | exact ⟨rfl, rfl⟩ | exact hJ.1 h | exact hJ.2.1 h | exact hJ.2.2.1 h | exact hJ.2.2.2 h | exact absurd h (by simp)))
        clear hK hJ hd hbi
        simp only [List.set_cons_zero, List.set_cons_succ, List.getD_cons_zero, List.getD_cons_succ, slu_t, slu_f, cond_true, cond_false] at hK2 ⊢
        refine wpOp_if rfl ?_
        go_simp
        exact hK2
      · have g10 : b10 = false := hbi
        have h9 : b9 = true := hd 9 (by simp [plcDp])
        have f11 : b11 = false := by cases b11 with | false => rfl | true => exact absurd ((hJ.2.2.1 rfl).1) (by rw [g10]; simp)
        have f14 : b14 = false := by cases b14 with | false => rfl | true => exact absurd (hJ.2.2.2 rfl) (by rw [f11]; simp)
        subst g10 h9 f11 f14
        have hK2 := hK (ev, eW) (by first | exact hJ | (refine ⟨fun h => ?_, fun h => ?_, fun h => ?_, fun h => ?_⟩ <;> first | exact rfl | exact ⟨rfl, rfl⟩ | exact hJ.1 h | exact hJ.2.1 h | exact hJ.2.2.1 h | exact hJ.2.2.2 h | exact absurd h (by simp)))
        clear hK hJ hd hbi
        simp only [List.set_cons_zero, List.set_cons_succ, List.getD_cons_zero, List.getD_cons_succ, slu_t, slu_f, cond_true, cond_false] at hK2 ⊢
        refine wpOp_if rfl ?_
        go_simp
        exact hK2
      · have g11 : b11 = false := hbi
        have h4 : b4 = true := hd 4 (by simp [plcDp])
        have h10 : b10 = true := hd 10 (by simp [plcDp])
        have f14 : b14 = false := by cases b14 with | false => rfl | true => exact absurd (hJ.2.2.2 rfl) (by rw [g11]; simp)
        subst g11 h4 h10 f14
        clear hd hbi
        refine wpOp_append_at rfl rfl _ _ 22 rfl (K + 1) 47 i0 _ 3 48 Tryz.underNodes hi hz0 hz1 hz2 rfl (by decide) (.slice na l.length nc) l.length _ rfl ((show A.drew.ownsRow (K + 1) 47 3 (.slice na l.length nc) l.length _ from hown).alloc _) ⟨A.heap.size, 0, none⟩ 1 1 [.int .i64 k, .string (mk x), .slice none 0 0] rfl rfl (cell_three _ _ _ _ _) (fun u hu => by simp only [List.mem_cons, List.not_mem_nil, or_false] at hu; rcases hu with rfl | rfl | rfl <;> rfl) (by have : maxLen = 9223372036854775807 := rfl; omega) (by omega) (by show K + 1 ≤ (A.drew.alloc (.cells #[.int .i64 k, .string (mk x), .slice none 0 0] 47)).heap.size; rw [World.size_alloc]; show K + 1 ≤ A.heap.size + 1; omega) (fun v' w' r1 r2 r3 => ?_)
        obtain ⟨ea, ec, he, _⟩ := own_shapeN r1
        exact hK (v', w') ⟨hJ.1, hJ.2.1, fun _ => ⟨rfl, rfl, ⟨ea, ec, he⟩, r1, r2, r3⟩, fun h => absurd h (by simp)⟩
      · have g12 : b12 = false := hbi
        have h0 : b0 = true := hd 0 (by simp [plcDp])
        have h11 : b11 = true := hd 11 (by simp [plcDp])
        subst g12 h0 h11
        have hK2 := hK (ev, eW) (by first | exact hJ | (refine ⟨fun h => ?_, fun h => ?_, fun h => ?_, fun h => ?_⟩ <;> first | exact rfl | exact ⟨rfl, rfl⟩ | exact hJ.1 h | exact hJ.2.1 h | exact hJ.2.2.1 h | exact hJ.2.2.2 h | exact absurd h (by simp)))
        clear hK hJ hd hbi
        simp only [List.set_cons_zero, List.set_cons_succ, List.getD_cons_zero, List.getD_cons_succ, slu_t, slu_f, cond_true, cond_false] at hK2 ⊢
        generalize cond b14 _ _ = WW at hK2 ⊢
        refine wpOp_if rfl ?_
        go_simp
        exact hK2
      · have g13 : b13 = false := hbi
        have h12 : b12 = true := hd 12 (by simp [plcDp])
        subst g13 h12
        have hK2 := hK (ev, eW) (by first | exact hJ | (refine ⟨fun h => ?_, fun h => ?_, fun h => ?_, fun h => ?_⟩ <;> first | exact rfl | exact ⟨rfl, rfl⟩ | exact hJ.1 h | exact hJ.2.1 h | exact hJ.2.2.1 h | exact hJ.2.2.2 h | exact absurd h (by simp)))
        clear hK hJ hd hbi
        simp only [List.set_cons_zero, List.set_cons_succ, List.getD_cons_zero, List.getD_cons_succ, slu_t, slu_f, cond_true, cond_false] at hK2 ⊢
        generalize cond b14 _ _ = WW at hK2 ⊢
        refine wpOp_if rfl ?_
        go_simp
        exact hK2
      · have g14 : b14 = false := hbi
        have h11 : b11 = true := hd 11 (by simp [plcDp])
        have h13 : b13 = true := hd 13 (by simp [plcDp])
        subst g14 h11 h13
        obtain ⟨⟨ea, ec, he⟩, r1, r2, r3⟩ := (hJ.2.2.1 rfl).2.2.out
        subst he
        have hK2 := hK (.slice ea (l.length + 1) ec, eW) ⟨hJ.1, hJ.2.1, hJ.2.2.1, fun _ => rfl⟩
        have yE : eW.heap[K]? = A.heap[K]? := (r2.block K (by rw [World.size_alloc]; show K < A.heap.size + 1; omega) hob).trans (Below.heap_alloc _ _ _ hKA)
        have yB : Bx eW K #[.slice na l.length nc, .map (some M)] 92 := yE.trans HC1.out.bx
        have y2e : eW.cell? ⟨K, 0, none⟩ = some (.slice na l.length nc) := yB.cell 0
        have z2e := yB.fz 0
        clear hK hJ hd hbi r1 r2 r3 yE yB
        simp only [List.set_cons_zero, List.set_cons_succ, List.getD_cons_zero, List.getD_cons_succ, slu_t, slu_f, cond_true, cond_false] at hK2 ⊢
        refine wpOp_if rfl ?_
        go_simp
        exact hK2
  case hF =>
    rintro ⟨ev, eW⟩ hJ
    obtain ⟨⟨ea, ec, he⟩, r1, r2, r3⟩ := (hJ.2.2.1 rfl).2.2.out
    subst he
    have hdr : Below A.heap.size A A.drew := (Below.refl _ A).drew
    obtain ⟨q1, q2, q3⟩ := cms_app (HC1.out.later hdr) hk hx r1 r2 r3
    have hKM := HC1.out.hk
    have HB8 : Hid (Bx (eW.setCell ⟨K, 0, none⟩ (.slice ea (l.length + 1) ec)) KB #[.int .i64 k, .string (mk x), .string (mk a), .slice ad len cap] 29) := (q2.bk KB hKBA (by omega) (by omega) (hno KB (Nat.le_refl _))).trans n1
    have HCH : Hid (Ch K M (.slice na l.length nc) W (eW.setCell ⟨K, 0, none⟩ (.slice ea (l.length + 1) ec))) := (Ch.of_below b1).trans (OB.refl _ _) ((Ch.of_below hdr).trans (OB.refl _ _) q2)
    have HOB : Hid (OB (.slice na l.length nc) (.slice ea (l.length + 1) ec) W) := (OB.refl _ _).trans q3 b1.size
    have HC8 : Hid (CmS w0 (eW.setCell ⟨K, 0, none⟩ (.slice ea (l.length + 1) ec)) K M (.slice ea (l.length + 1) ec) (l ++ [(⟨k, x, []⟩, .slice none 0 0)]) an) := q1
    clear hJ r1 r2 r3 q1 q2 q3 hdr c0 c1 d0 d1 d2 d3 c0a z0 hob hown n1 hno hnk hC1 hi hz0 hz1 hz2
    simp only [show List.replicate 15 true = [true, true, true, true, true, true, true, true, true, true, true, true, true, true, true] from rfl, List.getD_cons_zero, List.getD_cons_succ, slu_t, cond_true]
    generalize eW.setCell ⟨K, 0, none⟩ (.slice ea (l.length + 1) ec) = W8 at HB8 HCH HOB HC8 ⊢
    obtain ⟨d0, d1, d2, d3⟩ := HB8.out.c4
    by_cases hae : a = []
    case' pos =>
      have ha' : ((mk a).toList == []) = true := by rw [mk_nil_eq]; simpa using hae
      have HAE : Hid (a = []) := hae
      clear hae
      go_upto_region 7 with fail
      have HAN : Hid (put1 ⟨k, x, a, ks⟩ ⟨l.map (·.1), an⟩ = ⟨(l ++ [((⟨k, x, []⟩ : Nd), Value.slice none 0 0)]).map (·.1), an⟩) := by
        show _ = _
        simp [put1, HAE.out]
      clear d0 d1 d2 d3 HAE
    case' neg =>
      have ha' : ((mk a).toList == []) = false := by rw [mk_nil_eq]; simpa using hae
      go_upto_region 6 with fail
      obtain ⟨c0, c1⟩ := HC8.out.bx.c2
      refine wp_region_E hmix (N := 8) (dp := ancDp) (by kernel_rfl) (E := World) (fun (e : World) (s : List Bool) => s.getD 7 false = true → (∀ i, i < 7 → s.getD i false = true) ∧ Hid (e.ownsMap Tryz.prog 9 (plainElem Tryz.prog 3) M (an.length + 1) ((aD an).put (.string a) (.lit (.int .i64 (l.length : Int)))) ∧ W8.drew.grownBy e (some M))) (fun (e : World) (s : List Bool) => { tmps := #[.pointer (some ⟨K, 0, none⟩), tv k x a ad len cap, undef, .pointer (some ⟨KB, 0, none⟩), .int .i64 0, .int .i64 0, .int .i64 (l.length : Int), undef, undef, .pointer (some ⟨KB, 0, none⟩), .int .i64 k, .bool false, undef, undef, undef, undef, undef, undef, .pointer (some ⟨K, 0, none⟩), .pointer (some ⟨K, 0, none⟩), .pointer (some ⟨K, 0, none⟩), .slice na l.length nc, .int .i64 (l.length : Int), (.pointer (some ⟨K, 0, none⟩)), (.pointer (some ⟨K, 0, none⟩)), (.pointer (some ⟨K, 0, none⟩)), (.pointer (some ⟨K, 0, none⟩)), (.slice na l.length nc), (.pointer (some ⟨KB, 0, none⟩)), (.int .i64 k), (.pointer (some ⟨KB, 1, none⟩)), (.string (mk x)), (.agg #[.int .i64 k, .string (mk x), .slice none 0 0]), (.slice (some ⟨A.heap.size, 0, none⟩) 1 1), (.slice ea (l.length + 1) ec), (.pointer (some ⟨K, 0, none⟩)), (.pointer (some ⟨K, 0, none⟩)), .pointer (some ⟨KB, 2, none⟩), .string (mk a), .bool true, slu (s.getD 0 false) (.pointer (some ⟨K, 0, none⟩)) undef, slu (s.getD 1 false) (.pointer (some ⟨K, 0, none⟩)) undef, slu (s.getD 2 false) (.pointer (some ⟨K, 1, none⟩)) undef, slu (s.getD 3 false) (.map (some M)) undef, slu (s.getD 4 false) (.pointer (some ⟨KB, 2, none⟩)) undef, slu (s.getD 5 false) (.string (mk a)) undef, slu (s.getD 6 false) (.int .i64 (l.length : Int)) undef, undef, undef, undef, undef, undef, undef, undef, undef, undef, undef, undef, undef, undef, undef, undef, undef], defers := [] }) (fun (e : World) (s : List Bool) => cond (s.getD 7 false) e W8.drew) ?hS6 ?hF6 W8 (fun h => absurd h (by decide)) rfl rfl
      case hS6 =>
        rintro eW' s hJ hl i hi' hbi hd Kk hK
        match s, hl with
        | [b0, b1, b2, b3, b4, b5, b6, b7], _ =>
          simp only [List.getD_cons_zero, List.getD_cons_succ] at hJ ⊢
          have hi2 : i = 0 ∨ i = 1 ∨ i = 2 ∨ i = 3 ∨ i = 4 ∨ i = 5 ∨ i = 6 ∨ i = 7 := by omega
          rcases hi2 with rfl | rfl | rfl | rfl | rfl | rfl | rfl | rfl
          · have g0 : b0 = false := hbi
            cases b7
            · subst g0 
              have hK2 := hK eW' (fun h => absurd h (by simp))
              clear hK hJ hd hbi
              simp only [List.set_cons_zero, List.set_cons_succ, List.getD_cons_zero, List.getD_cons_succ, slu_t, slu_f, cond_true, cond_false] at hK2 ⊢
              refine wpOp_if rfl ?_
              go_simp
              exact hK2
            · exact absurd ((hJ rfl).1 0 (by decide)) (by rw [g0]; simp)
          · have g1 : b1 = false := hbi
            have e0 : b0 = true := hd 0 (by simp [ancDp])
            cases b7
            · subst g1 e0
              have hK2 := hK eW' (fun h => absurd h (by simp))
              clear hK hJ hd hbi
              simp only [List.set_cons_zero, List.set_cons_succ, List.getD_cons_zero, List.getD_cons_succ, slu_t, slu_f, cond_true, cond_false] at hK2 ⊢
              refine wpOp_if rfl ?_
              go_simp
              exact hK2
            · exact absurd ((hJ rfl).1 1 (by decide)) (by rw [g1]; simp)
          · have g2 : b2 = false := hbi
            have e1 : b1 = true := hd 1 (by simp [ancDp])
            cases b7
            · subst g2 e1
              have hK2 := hK eW' (fun h => absurd h (by simp))
              clear hK hJ hd hbi
              simp only [List.set_cons_zero, List.set_cons_succ, List.getD_cons_zero, List.getD_cons_succ, slu_t, slu_f, cond_true, cond_false] at hK2 ⊢
              refine wpOp_if rfl ?_
              go_simp
              exact hK2
            · exact absurd ((hJ rfl).1 2 (by decide)) (by rw [g2]; simp)
          · have g3 : b3 = false := hbi
            have e2 : b2 = true := hd 2 (by simp [ancDp])
            cases b7
            · subst g3 e2
              have hK2 := hK eW' (fun h => absurd h (by simp))
              clear hK hJ hd hbi
              simp only [List.set_cons_zero, List.set_cons_succ, List.getD_cons_zero, List.getD_cons_succ, slu_t, slu_f, cond_true, cond_false] at hK2 ⊢
              refine wpOp_if rfl ?_
              go_simp
              exact hK2
            · exact absurd ((hJ rfl).1 3 (by decide)) (by rw [g3]; simp)
          · have g4 : b4 = false := hbi
            cases b7
            · subst g4 
              have hK2 := hK eW' (fun h => absurd h (by simp))
              clear hK hJ hd hbi
              simp only [List.set_cons_zero, List.set_cons_succ, List.getD_cons_zero, List.getD_cons_succ, slu_t, slu_f, cond_true, cond_false] at hK2 ⊢
              refine wpOp_if rfl ?_
              go_simp
              exact hK2
            · exact absurd ((hJ rfl).1 4 (by decide)) (by rw [g4]; simp)
          · have g5 : b5 = false := hbi
            have e4 : b4 = true := hd 4 (by simp [ancDp])
            cases b7
            · subst g5 e4
              have hK2 := hK eW' (fun h => absurd h (by simp))
              clear hK hJ hd hbi
              simp only [List.set_cons_zero, List.set_cons_succ, List.getD_cons_zero, List.getD_cons_succ, slu_t, slu_f, cond_true, cond_false] at hK2 ⊢
              refine wpOp_if rfl ?_
              go_simp
              exact hK2
            · exact absurd ((hJ rfl).1 5 (by decide)) (by rw [g5]; simp)
          · have g6 : b6 = false := hbi
            cases b7
            · subst g6 
              have hK2 := hK eW' (fun h => absurd h (by simp))
              clear hK hJ hd hbi
              simp only [List.set_cons_zero, List.set_cons_succ, List.getD_cons_zero, List.getD_cons_succ, slu_t, slu_f, cond_true, cond_false] at hK2 ⊢
              refine wpOp_if rfl ?_
              go_simp
              exact hK2
            · exact absurd ((hJ rfl).1 6 (by decide)) (by rw [g6]; simp)
          · have g7 : b7 = false := hbi
            have e0 : b0 = true := hd 0 (by simp [ancDp])
            have e1 : b1 = true := hd 1 (by simp [ancDp])
            have e2 : b2 = true := hd 2 (by simp [ancDp])
            have e3 : b3 = true := hd 3 (by simp [ancDp])
            have e4 : b4 = true := hd 4 (by simp [ancDp])
            have e5 : b5 = true := hd 5 (by simp [ancDp])
            have e6 : b6 = true := hd 6 (by simp [ancDp])
            subst g7 e0 e1 e2 e3 e4 e5 e6
            refine wpOp_mapUpdate rfl rfl _ _ _ 90 rfl 9 3 Tryz.keyedS Tryz.undAnc (plainElem Tryz.prog 3) M an.length (aD an) rfl (show W8.drew.ownsMap Tryz.prog 9 (plainElem Tryz.prog 3) M an.length (aD an) from HC8.out.mp) (by have := HC8.out.hl; rw [List.length_append] at this; have e1 : ([(⟨k, x, []⟩, .slice none 0 0)] : List (Nd × Value)).length = 1 := rfl; have e2 : maxLen = 9223372036854775807 := rfl; omega) _ _ (.string a) rfl rfl (key_mk ha) _ [] (ancElem hll) (fun w' r1 r2 => ?_)
            exact hK w' (fun _ => ⟨fun i hi => all7 i hi, r1, r2⟩)
      rintro eW' hJ
      obtain ⟨r1, r2⟩ := (hJ rfl).2.out
      simp only [show List.replicate 8 true = [true, true, true, true, true, true, true, true] from rfl, List.getD_cons_zero, List.getD_cons_succ, slu_t, cond_true]
      have hal : an.length < (l ++ [((⟨k, x, []⟩ : Nd), Value.slice none 0 0)]).length := by
        have := HC1.out.hl
        rw [List.length_append, List.length_singleton]; omega
      have hdr : Below W8.heap.size W8 W8.drew := (Below.refl _ W8).drew
      obtain ⟨q1, q2⟩ := cms_anc (HC8.out.later hdr) hll hal r1 r2
      have HB9 : Hid (Bx eW' KB #[.int .i64 k, .string (mk x), .string (mk a), .slice ad len cap] 29) := (r2.block KB HB8.out.lt (fun e => by cases e; omega)).trans HB8.out
      have HCH9 : Hid (Ch K M (.slice na l.length nc) W eW') := HCH.out.trans HOB.out ((Ch.of_below hdr).trans (OB.refl _ _) q2)
      have HC9 : Hid (CmS w0 eW' K M (.slice ea (l.length + 1) ec) (l ++ [((⟨k, x, []⟩ : Nd), Value.slice none 0 0)]) ((a, l.length) :: an)) := q1
      have HAN : Hid (put1 ⟨k, x, a, ks⟩ ⟨l.map (·.1), an⟩ = ⟨(l ++ [((⟨k, x, []⟩ : Nd), Value.slice none 0 0)]).map (·.1), (a, l.length) :: an⟩) := by
        show _ = _
        simp [put1, hae]
      clear hJ r1 r2 q1 q2 hdr hal d0 d1 d2 d3 c0 c1 HB8 HCH HC8
      have HB8 := HB9
      have HCH := HCH9
      have HC8 := HC9
      clear HB9 HCH9 HC9
    all_goals
      have HPS := places_core (k := k) (x := x) (a := a) (cap := cap) hcap HKA HP HC8.out (by rw [List.length_append, List.length_singleton]; have q := hz; simp only [tsz] at q; omega)
      rw [← HAN.out, ← HR.out] at HPS
      have HPS2 : Hid (Calls Tryz.prog 56 _ _ _) := HPS
      clear HPS
      obtain ⟨d0, d1, d2, d3⟩ := HB8.out.c4
      go_upto_region 8 with (go_at_call 56; refine HPS2.out.mono ?_; rintro e w5 ⟨her, pa, pc, nv5, l5, rfl, hpc1, hpc2, hI5, hF5, hC5, hN5, hch5, hob5, hnb5⟩)
      have hlen : l.length < l5.length := by
        have h1 : l5.length = R.2.2.ns.length := by rw [← hN5, List.length_map]
        have h2 := pls_mono (plc_mono d) k ks 0 [] [] (put1 ⟨k, x, a, ks⟩ ⟨l.map (·.1), an⟩)
        have h3 : (put1 ⟨k, x, a, ks⟩ ⟨l.map (·.1), an⟩).ns.length = l.length + 1 := by simp [put1]
        rw [← HR.out] at h2
        omega
      obtain ⟨p5, hp5⟩ : ∃ p, l5[l.length]? = some p := ⟨_, List.getElem?_eq_getElem hlen⟩
      have hp6 : p5.1 = ⟨k, x, []⟩ := by
        have h2 := pls_keep (plc_mono d) (plc_keep d) k ks 0 [] [] (put1 ⟨k, x, a, ks⟩ ⟨l.map (·.1), an⟩) l.length (by simp [put1])
        rw [← HR.out, ← hN5, List.getElem?_map, hp5] at h2
        have h3 : (put1 ⟨k, x, a, ks⟩ ⟨l.map (·.1), an⟩).ns[l.length]? = some ⟨k, x, []⟩ := by simp [put1]
        rw [h3] at h2
        simpa using h2
      obtain ⟨g5, cap5, hnv5, hg5⟩ : ∃ g c, nv5 = .slice (some ⟨g, 0, none⟩) l5.length c ∧ K + 1 ≤ g := by
        rcases hC5.ow.2 with ⟨_, h2⟩ | ⟨g, c, cur, h2, h3, _⟩
        · omega
        · exact ⟨g, c, h2, h3⟩
      have hf6 : ∀ b off, 0 < R.1.length → pa = some ⟨b, off, none⟩ → K < b ∧ some b ≠ nv5.ownBlock := fun b off h1 h2 => ⟨by have := (hF5 b off h1 h2).1; have := HCH.out.size; have := hC5.bx.lt; have := HC8.out.bx.lt; omega, (hF5 b off h1 h2).2.1⟩
      obtain ⟨q1, q2⟩ := cms_kids hC5 hp5 hpc1 hpc2 hI5 hf6 hnv5
      have HC6 : Hid (CmS _ _ _ _ _ _ _) := q1
      have HCH6 : Hid (Ch K M (.slice na l.length nc) W _) := (HCH.out.trans HOB.out hch5).trans (HOB.out.trans hob5 HCH.out.size) q2
      have HOB6 : Hid (OB (.slice na l.length nc) nv5 W) := HOB.out.trans hob5 HCH.out.size
      have HNB6 : Hid (NB l (l5.set l.length (⟨p5.1.kind, p5.1.text, R.1.map fun a : Nat => (a : Int)⟩, .slice pa R.1.length pc)) W) := by
        intro q hq
        rcases List.mem_or_eq_of_mem_set hq with hq | rfl
        · rcases hnb5 q hq with h1 | h1
          · rcases List.mem_append.1 h1 with h1 | h1
            · exact .inl h1
            · rw [List.mem_singleton.1 h1]
              exact .inr fun b hb => by obtain ⟨off, len', cap', h2, h3⟩ := hb; cases h2
          · exact .inr fun b hb => Nat.le_trans HCH.out.size (h1 b hb)
        · exact .inr fun b hb => by
            obtain ⟨off, len', cap', h2, h3⟩ := hb
            cases h2
            exact Nat.le_trans HCH.out.size (hF5 b off h3 rfl).1
      have HN6 : Hid ((l5.set l.length (⟨p5.1.kind, p5.1.text, R.1.map fun a : Nat => (a : Int)⟩, .slice pa R.1.length pc)).map (·.1) = R.2.2.ns.set l.length ⟨k, x, R.1.map fun a : Nat => (a : Int)⟩) := by
        show _ = _
        rw [List.map_set, hN5, hp6]
      have hown5 := hC5.ow
      subst hnv5
      have y0 : w5.cell? ⟨K, 0, none⟩ = some (.slice (some ⟨g5, 0, none⟩) l5.length cap5) := hC5.bx.cell 0
      have y1 : w5.cell? ⟨g5, l.length * 3 + 2, none⟩ = some p5.2 := by
        rw [hown5.cellAt (l.length * 3 + 2) (by omega)]
        exact (ncs_get l5 l.length p5 hp5).2.2
      have z1 := hown5.frozenAt (l.length * 3 + 2)
      have hlt5 : l5.length ≤ cap5 ∧ cap5 ≤ maxLen := by
        obtain ⟨_, _, e1, e2, e3⟩ := own_shapeN hown5
        cases e1
        exact ⟨e2, e3⟩
      have HER : Hid (R.2.1 ≤ 100) := her
      clear hC5 hN5 hch5 hob5 hnb5 hF5 hI5 hf6 hp5 hp6 q1 q2 hown5 her
      go_wp2
      go_ret2
      exact ⟨rfl, hll, HER.out, _, _, HC6.out, HN6.out, HCH6.out, HOB6.out, HNB6.out⟩
/-- place does its work -/
theorem place_any (w0 : World) (K M : Nat) : ∀ d, PlOk w0 K M d
  | 0 => fun v t W nv l an hT _ _ => hT.elim
  | d + 1 => fun v t W nv l an hT hC hz => by
    obtain ⟨k, x, a, ks⟩ := t
    obtain ⟨ad, len, cap, rfl, hl, hc, hm, hz', hk'⟩ := hT
    exact place_core (Nat.le_trans hc (Nat.le_trans hm (by decide))) ⟨hz'.1, hz'.2.1⟩ hz'.2.2.1 hz'.2.2.2 (⟨hl, hk'⟩ : KAt w0 d ad len ks) (place_any w0 K M d) hC hz
end Go.Proofs.YtaphijgbebhdlaaGreatDoor.Grp
end

section
/- Package graph's Compose, by its contract. -/
namespace Go.Proofs.YtaphijgbebhdlaaGreatDoor.Grp
open Utf Rws Pln Flw
open Go.RowKit Go.Maps
set_option linter.unusedSimpArgs false
set_option linter.unusedVariables false
set_option maxRecDepth 100000
set_option maxHeartbeats 4000000

/-- a composer's nodes are a graph -/
theorem cms_grp {w0 W : World} {K M : Nat} {nv : Value} {l : List (Nd × Value)} {an : List (Ln × Nat)} (h : CmS w0 W K M nv l an) : ∃ ad len cap, nv = .slice ad len cap ∧ GrP (K + 1) W (gv ad len cap 0) ⟨l.map (·.1), 0⟩ := by
  obtain ⟨ad, cap, rfl, h1, h2⟩ := own_shapeN h.ow
  refine ⟨ad, l.length, cap, rfl, fun W' hs hk => ⟨ad, l.length, cap, rfl, h1, h2, ⟨(by decide : (-9223372036854775808 : Int) ≤ 0), (by decide : (0 : Int) ≤ 9223372036854775807)⟩, by rw [List.length_map], fun hp => ?_⟩⟩
  rcases h.ow.2 with ⟨_, h3⟩ | ⟨g, c, cur, e, hb, hh, _⟩
  · omega
  · cases e
    have hgl : g < W.heap.size := (Array.getElem?_eq_some_iff.1 hh).1
    have hkg := hk g hb hgl
    have hc : ∀ j, j < l.length * 3 → W'.cell? ⟨g, j, none⟩ = (ncs l)[j]? := fun j hj => (World.cell?_of_block (w := W) hkg).trans (h.ow.cellAt j hj)
    refine ⟨g, 0, rfl, by omega, fun i hi => ?_⟩
    have hli : l[i]? = some l[i] := List.getElem?_eq_getElem hi
    obtain ⟨k1, k2, kad, klen, kcap, k3, k4, k5, k6, k7⟩ := h.kk l[i] (List.getElem_mem hi)
    have hg : (l.map (·.1)).getD i nd0 = l[i].1 := by rw [List.getD_eq_getElem?_getD, List.getElem?_map, hli]; rfl
    obtain ⟨m1, m2, m3⟩ := ncs_get l i l[i] hli
    rw [hg]
    refine ⟨kad, klen, kcap, k4, k5, k1, k2, ⟨k6.1, fun hq => ?_⟩, ?_, ?_, ?_⟩
    · obtain ⟨b2, off2, e2, hlt, hcc⟩ := k6.2 hq
      have hbk := (k7 b2 off2 hq e2).1
      exact ⟨b2, off2, e2, by omega, fun j hj => ⟨(hcc j hj).1, (World.cell?_of_block (w := W) (hk b2 hbk hlt)).trans (hcc j hj).2⟩⟩
    · rw [Nat.zero_add, hc _ (by omega)]; exact m1
    · rw [Nat.zero_add, hc _ (by omega)]; exact m2
    · rw [Nat.zero_add, hc _ (by omega), m3, k3]
def cmR (d : Nat) (t : Tr) : Nat × Nat × Cs := plc d t ⟨[], []⟩
def cmOk (d : Nat) (t : Tr) : Bool := rgh d t && decide ((cmR d t).2.1 = 0)
def cmEr (d : Nat) (t : Tr) : Int := if rgh d t = true then ((cmR d t).2.1 : Int) else 1
/-- the boxes of a tree and of an answer -/
structure CoS (w W : World) (tc : Array Value) : Prop where
  g : Bx W w.heap.size tc 29
  r : Bx W (w.heap.size + 1) #[.slice none 0 0, .int .i64 0] 24
  bl : Below w.heap.size w W
theorem CoS.later {w W W' : World} {tc : Array Value} (h : CoS w W tc) (hb : Below W.heap.size W W') : CoS w W' tc := ⟨h.g.later hb, h.r.later hb, h.bl.trans (hb.mono h.bl.size)⟩
theorem CoS.new (w : World) (tc : Array Value) : CoS w ((w.alloc (.cells tc 29)).alloc (.cells #[.slice none 0 0, .int .i64 0] 24)) tc := by
  have b1 := below_alloc w (.cells tc 29)
  have s1 : (w.alloc (.cells tc 29)).heap.size = w.heap.size + 1 := World.size_alloc _ _
  have b2 := below_alloc (w.alloc (.cells tc 29)) (.cells #[.slice none 0 0, .int .i64 0] 24)
  have n2 := Bx.new (w.alloc (.cells tc 29)) #[.slice none 0 0, .int .i64 0] 24
  rw [s1] at n2
  exact ⟨(Bx.new w _ _).later b2, n2, b1.trans (b2.mono b1.size)⟩
/-- a composer begins -/
theorem cms_new {w W : World} {tc : Array Value} (h : CoS w W tc) : CmS w (((W.alloc (.map #[] 0)).alloc (.cells #[.slice none 0 0, .map (some W.heap.size)] 92))) (W.heap.size + 1) W.heap.size (.slice none 0 0) [] [] := by
  have b1 := below_alloc W (.map #[] 0)
  have s1 : (W.alloc (.map #[] 0)).heap.size = W.heap.size + 1 := World.size_alloc _ _
  have b2 := below_alloc (W.alloc (.map #[] 0)) (.cells #[.slice none 0 0, .map (some W.heap.size)] 92)
  have n2 := Bx.new (W.alloc (.map #[] 0)) #[.slice none 0 0, .map (some W.heap.size)] 92
  rw [s1] at n2
  have m1 : AncAt ((W.alloc (.map #[] 0)).alloc (.cells #[.slice none 0 0, .map (some W.heap.size)] 92)) W.heap.size [] := (World.ownsMap_made W Tryz.prog 9 (plainElem Tryz.prog 3)).alloc _
  exact ⟨n2, World.ownsRow_nil _ _ _ _, m1, fun p hp => absurd hp (by simp), h.bl.trans ((b1.trans (b2.mono b1.size)).mono h.bl.size), h.bl.size, by omega, fun q hq => absurd hq (by simp), Nat.le_refl _⟩
theorem compose_any {w : World} {d : Nat} {v : Value} {t : Tr} (hb : bri 2147483648 d t) (h : TrV w d v t) (hT : Tb w) (hz : tsz d t ≤ 1000000) : Calls Tryz.prog 22 #[v] w (GRes w (cmOk d t) (cmEr d t) ⟨(cmR d t).2.2.ns, 0⟩) := by
  obtain ⟨ad, len, cap, hv⟩ := h.open4
  obtain ⟨tc, htc⟩ : ∃ tc : Array Value, tc = #[.int .i64 t.kind, .string (mk t.text), .string (mk t.anc), .slice ad len cap] := ⟨_, rfl⟩
  have h0 := CoS.new w tc
  have HR : Hid (∀ w', Hid (CoS w w' tc) → Calls Tryz.prog 24 #[v] w' fun e w'' => e = .returned (.bool (rgh d t)) ∧ Hid (CoS w w'' tc)) :=
    fun w' h' => (right_big hb (h.later h'.out.bl (Nat.le_refl _)) (hT.later h'.out.bl)).mono (fun e w'' q => ⟨q.1, h'.out.later q.2⟩)
  subst hv
  have HV : Hid (TrV w d (tv t.kind t.text t.anc ad len cap) t) := h
  cases hq : rgh d t
  · have HE : Hid (cmOk d t = false ∧ cmEr d t = 1) := ⟨by unfold cmOk; rw [hq]; rfl, by unfold cmEr; rw [hq]; rfl⟩
    rw [hq] at HR
    clear h
    subst htc
    go_enter Tryz.func22, Tryz.ntmps22
    go_wp2_with fail
    generalize (w.alloc (.cells #[.int .i64 t.kind, .string (mk t.text), .string (mk t.anc), .slice ad len cap] 29)).alloc (.cells #[.slice none 0 0, .int .i64 0] 24) = W0 at h0 ⊢
    refine (HR.out _ h0).mono ?_
    rintro e w1 ⟨rfl, H1⟩
    obtain ⟨c0, c1⟩ := H1.out.r.c2
    have z0 := H1.out.r.fz 0
    have z1 := H1.out.r.fz 1
    have HB : Hid (_ ∧ _) := ⟨(H1.out.r.set 0 (.slice none 0 0)).set 1 (.int .i64 0), (H1.out.bl.setCell (p := ⟨w.heap.size + 1, 0, none⟩) (by show w.heap.size ≤ w.heap.size + 1; omega) (.slice none 0 0)).setCell (p := ⟨w.heap.size + 1, 1, none⟩) (by show w.heap.size ≤ w.heap.size + 1; omega) (.int .i64 0)⟩
    clear H1 h0 HR hT HV
    go_wp2
    generalize (w1.setCell ⟨w.heap.size + 1, 0, none⟩ (.slice none 0 0)).setCell ⟨w.heap.size + 1, 1, none⟩ (.int .i64 0) = W9 at HB ⊢
    have g0 : W9.cell? ⟨w.heap.size + 1, 0, none⟩ = some (.slice none 0 0) := HB.out.1.cell 0
    have g1 : W9.cell? ⟨w.heap.size + 1, 1, none⟩ = some (.int .i64 0) := HB.out.1.cell 1
    refine bodyPost_ret (v := .tuple #[gv none 0 0 0, .int .i64 1]) (by simp [results, Tryz.results22, go_sem, g0, g1]) rfl ?_
    exact ⟨by rw [HE.out.1, HE.out.2, if_neg (by decide)], HB.out.2⟩
  · rw [hq] at HR
    clear h
    obtain ⟨R, HRR⟩ : ∃ R, Hid (R = cmR d t) := ⟨_, rfl⟩
    have HP : Hid (∀ W, Hid (CoS w W tc) → Calls Tryz.prog 36 #[.pointer (some ⟨W.heap.size + 1, 0, none⟩), tv t.kind t.text t.anc ad len cap] ((W.alloc (.map #[] 0)).alloc (.cells #[.slice none 0 0, .map (some W.heap.size)] 92)) fun e W' => ∃ na nl nc, e = .returned (.tuple #[.int .i64 (R.1 : Int), .int .i64 (R.2.1 : Int)]) ∧ Hid (GrP (W.heap.size + 1 + 1) W' (gv na nl nc 0) ⟨R.2.2.ns, 0⟩) ∧ R.2.1 ≤ 100 ∧ W'.cell? ⟨W.heap.size + 1, 0, none⟩ = some (.slice na nl nc) ∧ Hid (CoS w W' tc) ∧ W.heap.size + 1 < W'.heap.size) := fun W hW => by
      have hc := cms_new hW.out
      have b1 := below_alloc W (.map #[] 0)
      have b2 := below_alloc (W.alloc (.map #[] 0)) (.cells #[.slice none 0 0, .map (some W.heap.size)] 92)
      have b3 : Below W.heap.size W _ := b1.trans (b2.mono b1.size)
      refine (place_any w (W.heap.size + 1) W.heap.size d _ t _ _ [] [] HV.out hc (by simpa using hz)).mono ?_
      rintro e W' ⟨rfl, q1, q2, nv', l', hC, hN, hCh, _, _⟩
      obtain ⟨na, nl, nc, rfl, hg⟩ := cms_grp hC
      have e1 : R = plc d t ⟨([] : List (Nd × Value)).map (·.1), []⟩ := HRR.out
      rw [hN] at hg
      rw [e1]
      have hsz := hW.out.r.lt
      have hch2 : ∀ k, k < W.heap.size → W'.heap[k]? = W.heap[k]? := fun k hk => (hCh.bk k (Nat.lt_of_lt_of_le hk b3.size) (by omega) (by omega) (by simp [Value.ownBlock])).trans (b3.block k hk)
      exact ⟨na, nl, nc, rfl, hg, q2, hC.bx.cell 0, ⟨(hch2 _ hW.out.g.lt).trans hW.out.g, (hch2 _ hW.out.r.lt).trans hW.out.r, hC.bl⟩, hC.bx.lt⟩
    have hmm := @run_makeMap Tryz.prog
    subst htc
    clear hb hT hz HV
    go_enter Tryz.func22, Tryz.ntmps22
    go_wp2_with fail
    generalize (w.alloc (.cells #[.int .i64 t.kind, .string (mk t.text), .string (mk t.anc), .slice ad len cap] 29)).alloc (.cells #[.slice none 0 0, .int .i64 0] 24) = W0 at h0 ⊢
    refine (HR.out _ h0).mono ?_
    rintro e w1 ⟨rfl, H1⟩
    go_upto_region 4 with fail
    have HPW : Hid (Calls Tryz.prog 36 _ _ _) := HP.out w1 H1
    have b1 := below_alloc w1 (.map #[] 0)
    have b2 := below_alloc (w1.alloc (.map #[] 0)) (.cells #[.slice none 0 0, .map (some w1.heap.size)] 92)
    obtain ⟨d0, d1, d2, d3⟩ := (H1.out.later (b1.trans (b2.mono b1.size))).g.c4
    have hlt1 : w.heap.size + 1 < w1.heap.size := H1.out.r.lt
    clear hmm b1 b2 HP HR h0
    generalize (w1.alloc (.map #[] 0)).alloc (.cells #[.slice none 0 0, .map (some w1.heap.size)] 92) = W2 at HPW d0 d1 d2 d3 ⊢
    go_upto_region 5 with (go_at_call 36; refine HPW.out.mono ?_; rintro e w3 ⟨na, nl, nc, rfl, H4, her, y0, H5, hlt3⟩)
    obtain ⟨c0, c1⟩ := H5.out.r.c2
    have z0 := H5.out.r.fz 0
    have z1 := H5.out.r.fz 1
    clear d0 d1 d2 d3 HPW
    by_cases he : R.2.1 = 0
    · have HE : Hid (cmOk d t = true) := by show _ = _; unfold cmOk; rw [hq, ← HRR.out, he]; rfl
      have he' : ((R.2.1 : Int) != 0) = false := by rw [he]; rfl
      have HR2 : Hid ((cmR d t).2.2.ns = R.2.2.ns) := by rw [HRR.out]; exact rfl
      have HB : Hid (_ ∧ _ ∧ _) := ⟨(H5.out.r.set 0 (.slice na nl nc)).set 1 (.int .i64 0), (H5.out.bl.setCell (p := ⟨w.heap.size + 1, 0, none⟩) (by show w.heap.size ≤ w.heap.size + 1; omega) (.slice na nl nc)).setCell (p := ⟨w.heap.size + 1, 1, none⟩) (by show w.heap.size ≤ w.heap.size + 1; omega) (.int .i64 0), (H4.out.set (i := 0) (u := .slice na nl nc) (K := w.heap.size + 1) (by omega)).set (i := 1) (u := .int .i64 0) (K := w.heap.size + 1) (by omega)⟩
      have HEE : Hid (R.2.1 = 0) := he
      clear he
      go_wp2
      generalize (w3.setCell ⟨w.heap.size + 1, 0, none⟩ (.slice na nl nc)).setCell ⟨w.heap.size + 1, 1, none⟩ (.int .i64 0) = W9 at HB ⊢
      have g0 : W9.cell? ⟨w.heap.size + 1, 0, none⟩ = some (.slice na nl nc) := HB.out.1.cell 0
      have g1 : W9.cell? ⟨w.heap.size + 1, 1, none⟩ = some (.int .i64 0) := HB.out.1.cell 1
      refine bodyPost_ret (v := .tuple #[gv na nl nc 0, .int .i64 0]) (by simp [results, Tryz.results22, go_sem, g0, g1]) rfl ?_
      exact ⟨by rw [HE.out, if_pos rfl, HR2.out]; exact ⟨_, rfl, HB.out.2.2.mono (by omega)⟩, HB.out.2.1⟩
    · have HE : Hid (cmOk d t = false ∧ cmEr d t = (R.2.1 : Int)) := ⟨by unfold cmOk; rw [hq, ← HRR.out]; simp [he], by unfold cmEr; rw [hq, if_pos rfl, ← HRR.out]⟩
      have he' : ((R.2.1 : Int) != 0) = true := by simp; omega
      have HB : Hid (_ ∧ _) := ⟨(H5.out.r.set 0 (.slice none 0 0)).set 1 (.int .i64 0), (H5.out.bl.setCell (p := ⟨w.heap.size + 1, 0, none⟩) (by show w.heap.size ≤ w.heap.size + 1; omega) (.slice none 0 0)).setCell (p := ⟨w.heap.size + 1, 1, none⟩) (by show w.heap.size ≤ w.heap.size + 1; omega) (.int .i64 0)⟩
      go_wp2
      generalize (w3.setCell ⟨w.heap.size + 1, 0, none⟩ (.slice none 0 0)).setCell ⟨w.heap.size + 1, 1, none⟩ (.int .i64 0) = W9 at HB ⊢
      have g0 : W9.cell? ⟨w.heap.size + 1, 0, none⟩ = some (.slice none 0 0) := HB.out.1.cell 0
      have g1 : W9.cell? ⟨w.heap.size + 1, 1, none⟩ = some (.int .i64 0) := HB.out.1.cell 1
      refine bodyPost_ret (v := .tuple #[gv none 0 0 0, .int .i64 (R.2.1 : Int)]) (by simp [results, Tryz.results22, go_sem, g0, g1]) rfl ?_
      exact ⟨by rw [HE.out.1, HE.out.2, if_neg (by decide)], HB.out.2⟩
end Go.Proofs.YtaphijgbebhdlaaGreatDoor.Grp
end
