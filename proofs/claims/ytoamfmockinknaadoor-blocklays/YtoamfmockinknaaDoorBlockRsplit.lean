/- The reference's split, by its contract. -/
import Derived.Test.YtoamfmockinknaaDoorBlockLayP
import Derived.Test.YtoamfmockinknaaDoorBlockStep
namespace Go.Proofs.YtoamfmockinknaaDoor.Blk
open Go.RowKit
open Rws (mk mk_data mk_size mk_of mk_ext mk_get mk_inj is32)
set_option linter.unusedSimpArgs false
set_option linter.unusedVariables false
set_option maxRecDepth 100000

theorem spl_snoc : ∀ t : Ln, ∃ A y, spl t = A ++ [y] ∧ ∀ b, spl (t ++ [b]) = if b = 10 then A ++ [y] ++ [[]] else A ++ [y ++ [b]]
  | [] => ⟨[], [], rfl, fun b => by
      show spl [b] = _
      rw [spl]
      split <;> rfl⟩
  | c :: r => by
    obtain ⟨A, y, h1, h2⟩ := spl_snoc r
    by_cases hc : c = 10
    · refine ⟨[] :: A, y, by rw [spl, if_pos hc, h1]; rfl, fun b => ?_⟩
      rw [List.cons_append, spl, if_pos hc, h2 b]
      split <;> rfl
    · cases A with
      | nil =>
        refine ⟨[], c :: y, by rw [spl, if_neg hc, h1]; rfl, fun b => ?_⟩
        rw [List.cons_append, spl, if_neg hc, h2 b]
        by_cases hb : b = 10
        · rw [if_pos hb, if_pos hb]; rfl
        · rw [if_neg hb, if_neg hb]; rfl
      | cons h A2 =>
        refine ⟨(c :: h) :: A2, y, by rw [spl, if_neg hc, h1]; rfl, fun b => ?_⟩
        rw [List.cons_append, spl, if_neg hc, h2 b]
        by_cases hb : b = 10
        · rw [if_pos hb, if_pos hb]; rfl
        · rw [if_neg hb, if_neg hb]; rfl
theorem mk_appS (a b : Ln) : mk a ++ mk b = mk (a ++ b) := by
  apply ByteArray.ext
  rw [ByteArray.data_append]
  simp [mk]
theorem strV_last (A : List Ln) (y : Ln) : (strV (A ++ [y]))[A.length]? = some (.string (mk y)) := by
  unfold strV
  rw [List.map_append, List.getElem?_append_right (by simp)]
  simp
theorem strV_set (A : List Ln) (y z : Ln) : (strV (A ++ [y])).set A.length (.string (mk z)) = strV (A ++ [z]) := by
  unfold strV
  rw [List.map_append, List.map_append, List.set_append_right _ _ (by simp)]
  simp

theorem own_form {W : World} {base : Nat} {e : TypeId} {size : Nat} {v : Value} {k : Nat} {xs : List Value} (h : W.ownsRow base e size v (k + 1) xs) : ∃ g cap, v = .slice (some ⟨g, 0, none⟩) (k + 1) cap := by
  rcases h.2 with ⟨_, h0⟩ | ⟨g, cap, cur, hv, _⟩
  · cases h0
  · exact ⟨g, cap, hv⟩

set_option maxHeartbeats 4000000 in
theorem rsplit_any (s : Ln) (w : World) (hs : s.length ≤ 1048576) :
    Calls Tryd.prog 20 #[.string (mk s)] w fun e w' => ∃ v, e = .returned v ∧ w'.ownsRow w.heap.size 9 1 v (spl s).length (strV (spl s)) ∧ Below w.heap.size w w' := by
  obtain ⟨i0, hi, hz0, hz1, hz2⟩ := info_parts Tryd.infoStr
  go_enter Tryd.func20, Tryd.ntmps20
  go_wp2
  go_loopw [3, 4] (fun uv ui wr => ∃ (k : Nat) (A : List Ln) (y : Ln) (g cap : Nat), k ≤ s.length ∧ ui = .int .i64 (k : Int) ∧ uv = .slice (some ⟨g, 0, none⟩) (A.length + 1) cap ∧ spl (s.take k) = A ++ [y] ∧ A.length ≤ k ∧ y.length ≤ k ∧ wr.ownsRow w.heap.size 9 1 uv (A.length + 1) (strV (A ++ [y])) ∧ Below w.heap.size w wr) (fun _ ui _ => s.length - (intOf ui).toNat)
  case atStart => exact ⟨0, [], [], w.heap.size, 1, Nat.zero_le _, rfl, rfl, rfl, Nat.le_refl _, Nat.le_refl _, World.ownsRow_lit w #[.string ⟨#[]⟩] 1 (Nat.le_refl _) (by decide) rfl, (Below.refl _ _).alloc (Nat.le_refl _) _⟩
  case round =>
    obtain ⟨k, A, y, g, cap, hk, rfl, rfl, hE, hAk, hyk, hown, hbe⟩ := hrel
    have HE : Hid (spl (s.take k) = A ++ [y]) := hE
    have HO : Hid (wr.ownsRow w.heap.size 9 1 (.slice (some ⟨g, 0, none⟩) (A.length + 1) cap) (A.length + 1) (strV (A ++ [y]))) := hown
    have hws := hbe.size
    have hsz : (mk s).size = s.length := mk_size s
    clear hE hown
    by_cases hlt : k < s.length
    · obtain ⟨b, hb⟩ : ∃ b, b = s.getD k 0 := ⟨_, rfl⟩
      have HTK : Hid (s.take (k + 1) = s.take k ++ [b]) := by
        rw [hb, List.take_succ_eq_append_getElem hlt, List.getD_eq_getElem?_getD, List.getElem?_eq_getElem hlt]; exact rfl
      have hg : ∀ h, (mk s)[k]'h = b := fun h => by rw [mk_get, hb, List.getD_eq_getElem?_getD, List.getElem?_eq_getElem hlt]; rfl
      have hext : (mk s).extract k (k + 1) = mk [b] := by
        rw [mk_ext, hb, List.getD_eq_getElem?_getD, List.getElem?_eq_getElem hlt]
        congr 1
        rw [show k + 1 - k = 1 by omega, List.drop_eq_getElem_cons hlt]
        rfl
      have HSN : Hid (spl (s.take (k + 1)) = if b = 10 then A ++ [y] ++ [[]] else A ++ [y ++ [b]]) := by
        obtain ⟨A', y', h1, h2⟩ := spl_snoc (s.take k)
        rw [HTK.out, h2 b]
        rw [HE.out] at h1
        obtain ⟨rfl, h3⟩ := List.append_inj' h1 rfl
        cases h3
        exact rfl
      clear hb HTK
      by_cases hb10 : b = 10
      · have HN : Hid (spl (s.take (k + 1)) = (A ++ [y]) ++ [[]]) := by rw [HSN.out, if_pos hb10]; exact rfl
        rw [hb10] at hg
        have h10 : ((10 : UInt8).toNat : Int) = 10 := rfl
        clear hext HSN
        go_wp2_with (first | (at_builtin; refine wpList_append_own _ rfl _ _ 25 rfl w.heap.size 9 i0 (.string ⟨#[]⟩) 1 16 Tryd.underlying25 hi hz0 hz1 hz2 rfl (by decide) _ _ _ rfl (HO.out.alloc _) ⟨wr.heap.size, 0, none⟩ 1 1 [Value.string ⟨#[]⟩] rfl rfl (cell_one _ _) (str_one _) (by unfold maxLen; omega) (by omega) (by rw [World.size_alloc]; omega) ?_; intro v' w3 hown' hgrow _; have hb3 : Below w.heap.size w w3 := (hbe.alloc hws _).grown hgrow (by rw [World.size_alloc]; omega) (own_block HO.out); have hs3 := hgrow.size; rw [World.size_alloc] at hs3; obtain ⟨g', cap', rfl⟩ := own_form hown'))
        have HO3 : Hid (w3.ownsRow w.heap.size 9 1 (.slice (some ⟨g', 0, none⟩) (A.length + 1 + 1) cap') (A.length + 1 + 1) (strV ((A ++ [y]) ++ [[]]))) := by rw [strV_snoc]; exact hown'
        clear hown' hgrow
        go_roundw
        case rel => exact ⟨k + 1, A ++ [y], [], g', cap', by omega, by go_num, by rw [List.length_append]; rfl, HN.out, by rw [List.length_append]; simp; omega, by simp, by rw [List.length_append]; exact HO3.out, hb3⟩
        case measure => (simp [intOf] <;> omega)
      · have HN : Hid (spl (s.take (k + 1)) = A ++ [y ++ [b]]) := by rw [HSN.out, if_neg hb10]; exact rfl
        have hyb : ((b.toNat : Int) == 10) = false := by
          rw [beq_eq_false_iff_ne]
          intro e
          apply hb10
          apply UInt8.toNat_inj.1
          have : b.toNat = 10 := by omega
          rw [this]; rfl
        have c0 : wr.cell? ⟨g, A.length, none⟩ = some (.string (mk y)) := by rw [HO.out.cellAt A.length (by omega)]; exact strV_last A y
        have f0 : wr.frozen? ⟨g, A.length, none⟩ = false := HO.out.frozenAt A.length
        obtain ⟨Z, HZZ⟩ : ∃ Z : Ln, Hid (Z = y ++ [b]) := ⟨y ++ [b], rfl⟩
        have hap : mk y ++ mk [b] = mk Z := by rw [HZZ.out]; exact mk_appS y [b]
        have hys : (mk y).size = y.length := mk_size y
        have hbs : (mk [b]).size = 1 := rfl
        have hst := HO.out.stored A.length (.string (mk Z))
        rw [strV_set] at hst
        have HST : Hid ((wr.setCell ⟨g, A.length, none⟩ (.string (mk Z))).ownsRow w.heap.size 9 1 (.slice (some ⟨g, 0, none⟩) (A.length + 1) cap) (A.length + 1) (strV (A ++ [Z]))) := hst.1
        have hgl := own_block HO.out g rfl
        rw [← HZZ.out] at HN
        have hZl : Z.length ≤ k + 1 := by rw [HZZ.out, List.length_append]; simp; omega
        clear hst HSN hb10
        go_wp2
        go_region
        all_goals (
          go_wp2
          go_roundw
          case rel => exact ⟨k + 1, A, Z, g, cap, by omega, by go_num, rfl, HN.out, by omega, hZl, HST.out, hbe.drew.setCell (p := ⟨g, A.length, none⟩) hgl _⟩
          case measure => (simp [intOf] <;> omega))
    · have HF : Hid (spl s = A ++ [y]) := by rw [← HE.out, List.take_of_length_le (by omega)]; exact rfl
      go_wp2
      go_ret
      refine ⟨_, rfl, ?_, hbe⟩
      rw [HF.out, List.length_append]
      exact HO.out

end Go.Proofs.YtoamfmockinknaaDoor.Blk
