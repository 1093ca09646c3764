/- settle. -/
import Derived.Test.YtedpiikdlpehjaaDiskTurn3
namespace Go.Proofs.Ytedpiikdlpehjaa.Dsk
open Go Go.RowKit Go.Maps
set_option linter.unusedSimpArgs false
set_option linter.unusedVariables false

theorem chg_cell (ad : List Nat) : ∀ (l : List Chg) (k j : Nat) (h : k < l.length), j < 3 → (l.flatMap (chgC ad))[k * 3 + j]? = (chgC ad l[k])[j]?
  | [], k, j, h, _ => by simp at h
  | c :: r, 0, j, h, hj => by
    simp only [List.flatMap_cons, List.getElem_cons_zero, Nat.zero_mul, Nat.zero_add]
    rw [List.getElem?_append_left (by simp [chgC]; omega)]
  | c :: r, k + 1, j, h, hj => by
    simp only [List.flatMap_cons, List.getElem_cons_succ]
    rw [List.getElem?_append_right (by simp [chgC]; omega)]
    have e : (k + 1) * 3 + j - (chgC ad c).length = k * 3 + j := by simp [chgC]; omega
    rw [e]
    exact chg_cell ad r k j (by simpa using h) hj
theorem settle_snoc (t : Tbl) (l : List Chg) (k : Nat) {c : Chg} (hc : l[k]? = some c) : settle t (l.take (k + 1)) = c.app (settle t (l.take k)) := by
  obtain ⟨h, rfl⟩ := List.getElem?_eq_some_iff.1 hc
  unfold settle
  rw [List.take_succ_eq_append_getElem h, List.foldl_append]
  rfl
theorem pv_ptr (ad : List Nat) (o : Option Nat) : ∃ P, pv ad o = .pointer P := by cases o <;> exact ⟨_, rfl⟩
section
variable {w : World} {F : Nat → Prop} {d : Nat} {m : M} {ad : List Nat} {dv : List Value} {nB kB : Nat} {sv : Value}
theorem DiskIn.settle_nil (h : DiskIn w F d m ad dv nB kB (.slice none 0 0)) : Go.Calls Try.prog 48 #[.pointer (some ⟨d, 0, none⟩), .int .i64 0] w fun e w' => e = .returned (.tuple #[]) ∧ DiskIn w' F d (m.settled 0) ad dv nB kB (.slice none 0 0) ∧ Only F w w' := by
  have hc7 := h.c7
  have hf7 := h.cell.free 7
  have HF : Hid (DiskIn (w.setCell ⟨d, 7, none⟩ (.slice none 0 0)) F d (m.settled 0) ad dv nB kB (.slice none 0 0) ∧ Only F w (w.setCell ⟨d, 7, none⟩ (.slice none 0 0))) := by
    refine ⟨?_, (Only.refl F w).setCell (.inl h.fd) _⟩
    exact h.sets 7 _ rfl rfl rfl rfl ⟨rfl, .inl ⟨rfl, rfl⟩⟩ (fun b hb => by cases hb)
  clear h
  go_enter Try.func48, Try.ntmps48
  go_wp2
  refine wp_loop_rounds 1 ?_
  rw [rounds_succ]
  go_wp2
  go_end0
  exact ⟨rfl, HF.out⟩
/-- a change that stands in the row -/
theorem DiskIn.chg {g len cap : Nat} (h : DiskIn w F d m ad dv nB kB (.slice (some ⟨g, 0, none⟩) len cap)) (k : Nat) {c : Chg} (hc : m.since[k]? = some c) :
    w.cell? ⟨g, k * 3, none⟩ = some (.string (str c.gone)) ∧ w.cell? ⟨g, k * 3 + 1, none⟩ = some (.string (str c.name)) ∧ w.cell? ⟨g, k * 3 + 2, none⟩ = some (pv ad c.to) := by
  obtain ⟨hk, rfl⟩ := List.getElem?_eq_some_iff.1 hc
  have key : ∀ j, j < 3 → w.cell? ⟨g, k * 3 + j, none⟩ = (chgC ad m.since[k])[j]? := by
    intro j hj
    rcases h.since.2 with ⟨q, _⟩ | ⟨g', cap', cur, q, h0, hb, h1, h2, h3, h4⟩
    · cases q
    · cases q
      rw [cell_of_row w g _ cur _ (0, 0) hb, ← chg_cell ad m.since k j hk hj, ← h4, List.getElem?_take, if_pos (by omega)]
      simp
  exact ⟨key 0 (by decide), key 1 (by decide), key 2 (by decide)⟩
set_option maxHeartbeats 1000000 in
theorem DiskIn.settle_some {g cap : Nat} (h : DiskIn w F d m ad dv nB kB (.slice (some ⟨g, 0, none⟩) m.since.length cap)) (n : Nat) (hn : n ≤ m.since.length) (hs : m.since.length ≤ 1099511627776) (hnm : ∀ c ∈ m.since, c.gone.length ≤ 32 ∧ c.name.length ≤ 32) (hl : ∀ j, (settle m.kept (m.since.take j)).length ≤ 64) :
    Go.Calls Try.prog 48 #[.pointer (some ⟨d, 0, none⟩), .int .i64 n] w fun e w' => e = .returned (.tuple #[]) ∧ DiskIn w' F d (m.settled n) ad dv nB kB (.slice none 0 0) ∧ Only F w w' := by
  have hc7 := h.c7
  have hcap : m.since.length ≤ cap ∧ cap ≤ maxLen := by
    rcases h.since.2 with ⟨q, _⟩ | ⟨g', cap', cur, q, h0, hb, h1, h2, h3, h4⟩
    · cases q
    · cases q
      exact ⟨h1, h2⟩
  obtain ⟨len, HL⟩ : ∃ x, Hid (x = m.since.length) := ⟨_, rfl⟩
  rw [← HL.out] at hc7 hcap hs hn
  have H : Hid (DiskIn w F d m ad dv nB kB (.slice (some ⟨g, 0, none⟩) len cap)) := by rw [HL.out]; exact h
  have HNM : Hid (∀ c ∈ m.since, c.gone.length ≤ 32 ∧ c.name.length ≤ 32) := hnm
  have HLL : Hid (∀ j, (settle m.kept (m.since.take j)).length ≤ 64) := hl
  have hcap1 := hcap.1
  have hcap2 := hcap.2
  unfold maxLen at hcap2
  clear h hnm hl hcap
  go_enter Try.func48, Try.ntmps48
  go_wp2
  clear hc7
  go_loopw [13] (fun i wr => ∃ k : Nat, k ≤ n ∧ i = .int .i64 k ∧ DiskIn wr F d { m with kept := settle m.kept (m.since.take k) } ad dv nB kB (.slice (some ⟨g, 0, none⟩) len cap) ∧ Only F w wr) (fun i _ => n - (intOf i).toNat)
  case atStart => exact ⟨0, Nat.zero_le _, rfl, H.out, Only.refl F w⟩
  case round =>
    obtain ⟨k, hk, rfl, hD, hO⟩ := hrel
    have HD : Hid (DiskIn wr F d { m with kept := settle m.kept (m.since.take k) } ad dv nB kB (.slice (some ⟨g, 0, none⟩) len cap)) := hD
    have HO : Hid (Only F w wr) := hO
    clear hD hO
    by_cases hlt : k < n
    · have hkl : k < m.since.length := by rw [← HL.out]; omega
      obtain ⟨c, HC⟩ : ∃ c, Hid (m.since[k]? = some c) := ⟨_, List.getElem?_eq_getElem hkl⟩
      obtain ⟨q0, q1, q2⟩ := HD.out.chg k HC.out
      obtain ⟨P, HP⟩ : ∃ P, Hid (pv ad c.to = .pointer P) := pv_ptr ad c.to
      rw [HP.out] at q2
      have hmem : c ∈ m.since := List.mem_of_getElem? HC.out
      have HT : Hid (∀ W, TblAt W kB ad (settle m.kept (m.since.take k)) → Go.Calls Try.prog 60 #[.map (some kB), .agg #[.string (str c.gone), .string (str c.name), .pointer P]] W fun e w' => e = .returned (.tuple #[]) ∧ TblAt w' kB ad (settle m.kept (m.since.take (k + 1))) ∧ Only (· = kB) W w') := by
        intro W hW
        have h1 := HNM.out c hmem
        have h2 := tturn_any kB c ad _ W hW (by unfold maxLen; omega) (by unfold maxLen; omega) (Nat.le_trans (HLL.out k) (by decide))
        rw [HP.out, ← settle_snoc m.kept m.since k HC.out] at h2
        exact h2
      clear hkl hmem
      go_wp2_with fail
      obtain ⟨W, HW⟩ : ∃ W, Hid (W = wr.alloc (.cells #[.string (str c.gone), .string (str c.name), .pointer P] 86)) := ⟨_, rfl⟩
      obtain ⟨e, HE⟩ : ∃ e, Hid (e = wr.heap.size) := ⟨_, rfl⟩
      rw [← HW.out, ← HE.out]
      have HR : Hid (Row W e 86 [.string (str c.gone), .string (str c.name), .pointer P]) := by rw [HW.out, HE.out]; exact Row.mk wr [.string (str c.gone), .string (str c.name), .pointer P] _
      have HDW : Hid (DiskIn W F d { m with kept := settle m.kept (m.since.take k) } ad dv nB kB (.slice (some ⟨g, 0, none⟩) len cap)) := by rw [HW.out]; exact HD.out.at_ (by simp) (fun i hi => Below.heap_alloc _ _ _ (HD.out.lt i hi))
      have HOW : Hid (Only F w W) := by rw [HW.out]; exact HO.out.alloc _
      have HNF : Hid (¬ F e) := fun q => by have := HD.out.lt e q; have := HE.out; omega
      have hc6 := HDW.out.c6
      have hb0 : W.cell? ⟨e, 0, none⟩ = some (.string (str c.gone)) := by rw [HR.out.cell]; rfl
      have hb1 : W.cell? ⟨e, 1, none⟩ = some (.string (str c.name)) := by rw [HR.out.cell]; rfl
      have hb2 : W.cell? ⟨e, 2, none⟩ = some (.pointer P) := by rw [HR.out.cell]; rfl
      clear HD q0 q1 q2 HO HW
      go_region_held3 (fun w' => w'.cell? ⟨d, 6, none⟩ = some (.map (some kB)) ∧ w'.cell? ⟨e, 0, none⟩ = some (.string (str c.gone)) ∧ w'.cell? ⟨e, 1, none⟩ = some (.string (str c.name)) ∧ w'.cell? ⟨e, 2, none⟩ = some (.pointer P)) (go_keep) (first | (go_at_call 60; refine (HT.out _ (by exact HDW.out.kept)).mono ?_; rintro e' w2 ⟨rfl, hT2, hO2⟩; have k5 := (World.cell?_of_block (w := W) (w' := w2) (a := ⟨d, 6, none⟩) (hO2.block d HDW.out.cell.lt HDW.out.kept_ne)).trans hc6; have kg := fun i => World.cell?_of_block (w := W) (w' := w2) (a := ⟨e, i, none⟩) (hO2.block e HR.out.lt (fun q => HNF.out (q ▸ HDW.out.fk))); have k0 := (kg 0).trans hb0; have k1 := (kg 1).trans hb1; have k2 := (kg 2).trans hb2; clear kg))
      have H3 : Hid (DiskIn w2 F d { m with kept := settle m.kept (m.since.take (k + 1)) } ad dv nB kB (.slice (some ⟨g, 0, none⟩) len cap)) := by
        refine HDW.out.tables hO2.size (fun i hi h1 h2 => hO2.block i (HDW.out.lt i hi) h2) ?_ hT2 rfl rfl rfl
        exact HDW.out.names.at_ (hO2.block nB (HDW.out.lt _ HDW.out.fn) HDW.out.nk)
      have HO3 : Hid (Only F w w2) := HOW.out.drew.trans hO2 fun i (hi : i = kB) => .inl (hi ▸ HDW.out.fk)
      clear hT2 hO2 k5 k0 k1 k2 hc6 hb0 hb1 hb2 HDW HOW HT
      go_wp2
      go_roundw
      case rel => exact ⟨k + 1, by omega, by go_num, H3.out, HO3.out⟩
      case measure => simp [intOf]; omega
    · have hkn : k = n := by omega
      subst hkn
      have hc7 := HD.out.c7
      have hf7 := HD.out.cell.free 7
      have HF : Hid (DiskIn (wr.setCell ⟨d, 7, none⟩ (.slice none 0 0)) F d (m.settled k) ad dv nB kB (.slice none 0 0) ∧ Only F w (wr.setCell ⟨d, 7, none⟩ (.slice none 0 0))) := by
        refine ⟨?_, HO.out.setCell (.inl HD.out.fd) _⟩
        exact HD.out.sets 7 _ rfl rfl rfl rfl ⟨rfl, .inl ⟨rfl, rfl⟩⟩ (fun b hb => by cases hb)
      go_wp2
      go_end0
      exact ⟨rfl, HF.out⟩
theorem DiskIn.settle (h : DiskIn w F d m ad dv nB kB sv) (n : Nat) (hn : n ≤ m.since.length) (hs : m.since.length ≤ 1099511627776) (hnm : ∀ c ∈ m.since, c.gone.length ≤ 32 ∧ c.name.length ≤ 32) (hl : ∀ j, (Dsk.settle m.kept (m.since.take j)).length ≤ 64) :
    Go.Calls Try.prog 48 #[.pointer (some ⟨d, 0, none⟩), .int .i64 n] w fun e w' => e = .returned (.tuple #[]) ∧ DiskIn w' F d (m.settled n) ad dv nB kB (.slice none 0 0) ∧ Only F w w' := by
  rcases h.since.2 with ⟨q, q0⟩ | ⟨g, cap, cur, q, _⟩
  · subst q
    obtain rfl : n = 0 := by omega
    exact h.settle_nil
  · subst q
    exact h.settle_some n hn hs hnm hl
end
end Go.Proofs.Ytedpiikdlpehjaa.Dsk
