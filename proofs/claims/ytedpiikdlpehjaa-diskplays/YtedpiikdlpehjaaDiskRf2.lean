/- The document's disk: lists of names. -/
import Derived.Test.YtedpiikdlpehjaaDiskRf1
import Derived.Maps.AppendAt
namespace Go.Proofs.Ytedpiikdlpehjaa.Dsk
open Go Go.RowKit Go.Maps
set_option linter.unusedSimpArgs false
set_option linter.unusedVariables false

/-- names as the document's disk lists them, in blocks of X -/
def Ents (w : World) (X : Nat → Prop) (v : Value) (t : Tbl) : Prop :=
  ∃ a cap, v = .slice a t.length cap ∧ t.length ≤ cap ∧ cap ≤ maxLen ∧ ∀ i p, t[i]? = some p → ∃ b off, a = some ⟨b, off, none⟩ ∧ X b ∧ b < w.heap.size ∧ w.cell? ⟨b, off + i * 2, none⟩ = some (.string (str p.1)) ∧ w.cell? ⟨b, off + i * 2 + 1, none⟩ = some (.int .i64 p.2)
theorem Ents.at_ {w w' : World} {X : Nat → Prop} {v : Value} {t : Tbl} (h : Ents w X v t) (hs : w.heap.size ≤ w'.heap.size) (e : ∀ b, X b → b < w.heap.size → w'.heap[b]? = w.heap[b]?) : Ents w' X v t := by
  obtain ⟨a, cap, h1, h2, h3, h4⟩ := h
  refine ⟨a, cap, h1, h2, h3, fun i p hp => ?_⟩
  obtain ⟨b, off, ha, hx, hlt, c0, c1⟩ := h4 i p hp
  have he := e b hx hlt
  exact ⟨b, off, ha, hx, Nat.lt_of_lt_of_le hlt hs, (World.cell?_of_block (w := w) (a := ⟨b, off + i * 2, none⟩) he).trans c0, (World.cell?_of_block (w := w) (a := ⟨b, off + i * 2 + 1, none⟩) he).trans c1⟩
theorem Ents.later {w w' : World} {X : Nat → Prop} {v : Value} {t : Tbl} (h : Ents w X v t) (hb : Below w.heap.size w w') : Ents w' X v t := h.at_ hb.size fun b _ hl => hb.block b hl
theorem Ents.mono {w : World} {X Y : Nat → Prop} {v : Value} {t : Tbl} (h : Ents w X v t) (hx : ∀ b, X b → b < w.heap.size → Y b) : Ents w Y v t := by
  obtain ⟨a, cap, h1, h2, h3, h4⟩ := h
  refine ⟨a, cap, h1, h2, h3, fun i p hp => ?_⟩
  obtain ⟨b, off, ha, hxx, hlt, c0, c1⟩ := h4 i p hp
  exact ⟨b, off, ha, hx b hxx hlt, hlt, c0, c1⟩
theorem Ents.nil (w : World) (X : Nat → Prop) : Ents w X (.slice none 0 0) [] := ⟨none, 0, rfl, Nat.le_refl _, Nat.zero_le _, fun i p h => by cases h⟩
theorem Ents.len_le {w : World} {X : Nat → Prop} {v : Value} {t : Tbl} (h : Ents w X v t) : t.length ≤ maxLen := by
  obtain ⟨a, cap, h1, h2, h3, h4⟩ := h
  omega
/-- the place of a name's file, or -1 -/
def lookI (t : Tbl) (n : Nm) : Int := match look t n with | none => -1 | some i => i
theorem look_take_none {t : Tbl} {n : Nm} {j : Nat} {p : Nm × Nat} (h : look (t.take j) n = none) (hp : t[j]? = some p) : look (t.take (j + 1)) n = (if p.1 = n then some p.2 else none) := by
  have hn := look_none h
  rw [List.take_add_one, hp]
  unfold look at h ⊢
  simp only [Option.toList_some]
  have h' : List.find? (fun p => p.1 == n) (t.take j) = none := by
    cases q : List.find? (fun p => p.1 == n) (t.take j) with
    | none => rfl
    | some y => rw [q] at h; cases h
  rw [List.find?_append, h']
  by_cases e : p.1 = n
  · simp [e]
  · simp [e]
theorem look_take_some {t : Tbl} {n : Nm} {j i : Nat} (h : look (t.take j) n = some i) : look t n = some i := by
  unfold look at h ⊢
  rw [← List.take_append_drop j t, List.find?_append]
  cases q : List.find? (fun p => p.1 == n) (t.take j) with
  | none => rw [q] at h; cases h
  | some y => rw [q] at h; exact h
theorem find_any {w : World} {X : Nat → Prop} {v : Value} {t : Tbl} (h : Ents w X v t) (n : Nm) : Calls Try.prog 44 #[v, .string (str n)] w fun e w' => e = .returned (.int .i64 (lookI t n)) ∧ Below w.heap.size w w' := by
  have hm : maxLen = 9223372036854775807 := rfl
  have hl := h.len_le
  obtain ⟨a, cap, rfl, hlc, hcm, hcell⟩ := h
  obtain ⟨k, HK⟩ : ∃ k, Hid (k = t.length) := ⟨_, rfl⟩
  rw [← HK.out] at hlc hl ⊢
  obtain ⟨R, HR⟩ : ∃ R, Hid (R = lookI t n) := ⟨_, rfl⟩
  rw [← HR.out]
  have HC : Hid (∀ i p, t[i]? = some p → ∃ b off, a = some ⟨b, off, none⟩ ∧ X b ∧ b < w.heap.size ∧ w.cell? ⟨b, off + i * 2, none⟩ = some (.string (str p.1)) ∧ w.cell? ⟨b, off + i * 2 + 1, none⟩ = some (.int .i64 p.2)) := hcell
  clear hcell
  go_enter Try.func44, Try.ntmps44
  go_wp2_with fail
  go_loopw [5] (fun i wr => ∃ j : Nat, j ≤ k ∧ i = .int .i64 j ∧ look (t.take j) n = none ∧ Below w.heap.size w wr) (fun i _ => k - (intOf i).toNat)
  case atStart => exact ⟨0, Nat.zero_le _, rfl, rfl, Below.refl _ _⟩
  case round =>
    obtain ⟨j, hj, rfl, hlo, hB⟩ := hrel
    have HLO : Hid (look (t.take j) n = none) := hlo
    have HB : Hid (Below w.heap.size w wr) := hB
    clear hlo hB
    by_cases hlt : j < k
    · obtain ⟨p, hp⟩ : ∃ p, t[j]? = some p := ⟨_, List.getElem?_eq_getElem (by rw [← HK.out]; exact hlt)⟩
      obtain ⟨b, off, rfl, _, hbl, c0, c1⟩ := HC.out j p hp
      rw [← HB.out.cell (p := ⟨b, off + j * 2, none⟩) hbl] at c0
      rw [← HB.out.cell (p := ⟨b, off + j * 2 + 1, none⟩) hbl] at c1
      have HLT : Hid (look (t.take (j + 1)) n = (if p.1 = n then some p.2 else none)) := look_take_none HLO.out hp
      by_cases e : p.1 = n
      · have HRR : Hid (R = p.2) := by
          have h1 := HLT.out
          rw [if_pos e] at h1
          rw [HR.out]
          unfold Hid lookI
          rw [look_take_some h1]
        rw [e] at c0
        have hq : ((str n).toList == (str n).toList) = true := beq_self_eq_true _
        clear hp
        go_wp2
        go_ret
        exact ⟨by rw [HRR.out]; rfl, HB.out⟩
      · have hq : ((str p.1).toList == (str n).toList) = false := str_ne e
        generalize str p.1 = S at *
        clear hp
        go_wp2
        go_roundw
        case rel => exact ⟨j + 1, by omega, by go_num, by rw [HLT.out, if_neg e], HB.out⟩
        case measure => simp [intOf]; omega
    · have HRR : Hid (R = -1) := by
        have h1 := HLO.out
        rw [List.take_of_length_le (by rw [← HK.out]; omega)] at h1
        rw [HR.out]
        unfold Hid lookI
        rw [h1]
      go_wp2
      go_ret
      exact ⟨by rw [HRR.out]; rfl, HB.out⟩
def cellsE (t : Tbl) : List Value := t.flatMap fun p => [.string (str p.1), .int .i64 p.2]
theorem cellsE_cons (p : Nm × Nat) (t : Tbl) : cellsE (p :: t) = .string (str p.1) :: .int .i64 p.2 :: cellsE t := rfl
theorem cellsE_app (t s : Tbl) : cellsE (t ++ s) = cellsE t ++ cellsE s := by simp [cellsE]
theorem cellsE_len (t : Tbl) : (cellsE t).length = t.length * 2 := by
  induction t with
  | nil => rfl
  | cons p t ih => rw [cellsE_cons, List.length_cons, List.length_cons, ih, List.length_cons]; omega
theorem cellsE_at (t : Tbl) (i : Nat) (p : Nm × Nat) (h : t[i]? = some p) : (cellsE t)[i * 2]? = some (.string (str p.1)) ∧ (cellsE t)[i * 2 + 1]? = some (.int .i64 p.2) := by
  induction t generalizing i with
  | nil => cases h
  | cons q t ih =>
    cases i with
    | zero => cases h; exact ⟨rfl, rfl⟩
    | succ i =>
      have := ih i (by simpa using h)
      rw [cellsE_cons, show (i + 1) * 2 = i * 2 + 1 + 1 by omega]
      exact this
theorem ents_own {w : World} {B : Nat} {v : Value} {t : Tbl} (h : w.ownsRow B 71 2 v t.length (cellsE t)) : Ents w (B ≤ ·) v t := by
  rcases h.2 with ⟨q, q0⟩ | ⟨g, cap, cur, q, h0, hb, h1, h2, h3, h4⟩
  · have : t = [] := List.eq_nil_of_length_eq_zero q0
    subst this
    rw [q]
    exact Ents.nil _ _
  · refine ⟨_, cap, q, h1, h2, fun i p hp => ⟨g, 0, rfl, h0, (Array.getElem?_eq_some_iff.1 hb).1, ?_⟩⟩
    obtain ⟨e0, e1⟩ := cellsE_at t i p hp
    have hi := (List.getElem?_eq_some_iff.1 hp).1
    rw [← h4, List.getElem?_take, if_pos (by omega)] at e0 e1
    rw [cell_of_row w g _ cur _ (0, 0) hb, cell_of_row w g _ cur _ (0, 0) hb, Nat.zero_add]
    exact ⟨by simpa using e0, by simpa using e1⟩
theorem infoEntry : (Try.prog.info? 71).map (fun i => (i.zero, i.size, i.bytes)) = some (some (.agg #[.string ⟨#[]⟩, .int .i64 0]), 2, 24) := by kernel_rfl
theorem cells2' (w : World) (a b : Value) (t : TypeId) : ∀ j u, ([a, b])[j]? = some u → (w.alloc (.cells #[a, b] t)).cell? ((⟨w.heap.size, 0, none⟩ : Addr).add j) = some u := by
  intro j u h
  have e : (⟨w.heap.size, 0, none⟩ : Addr).add j = ⟨w.heap.size, j, none⟩ := by unfold Addr.add; split <;> simp_all
  rw [e]
  exact ((Row.mk w [a, b] t).cell j).trans h
theorem del_take (t : Tbl) (n : Nm) (j : Nat) (p : Nm × Nat) (h : t[j]? = some p) : del (t.take (j + 1)) n = del (t.take j) n ++ (if p.1 = n then [] else [p]) := by
  rw [List.take_add_one, h]
  unfold del
  rw [Option.toList_some, List.filter_append]
  congr 1
  by_cases e : p.1 = n <;> simp [e]
theorem own_block' {W : World} {B : Nat} {e : TypeId} {k n : Nat} {v : Value} {xs : List Value} (h : W.ownsRow B e k v n xs) (g : Nat) (hg : v.ownBlock = some g) : B ≤ g := by
  rcases h.2 with ⟨q, q0⟩ | ⟨g', cap, cur, q, h0, _⟩
  · rw [q] at hg; cases hg
  · rw [q] at hg; cases hg; exact h0
set_option maxHeartbeats 1000000 in
theorem without_any {w : World} {X : Nat → Prop} {v : Value} {t : Tbl} (h : Ents w X v t) (n : Nm) (hl : t.length ≤ 1000000) : Calls Try.prog 56 #[v, .string (str n)] w fun e w' => ∃ v', e = .returned v' ∧ w'.ownsRow w.heap.size 71 2 v' (del t n).length (cellsE (del t n)) ∧ Below w.heap.size w w' := by
  have hm : maxLen = 9223372036854775807 := rfl
  obtain ⟨a, cap, rfl, hlc, hcm, hcell⟩ := h
  obtain ⟨k, HK⟩ : ∃ k, Hid (k = t.length) := ⟨_, rfl⟩
  rw [← HK.out] at hlc hl ⊢
  have HC : Hid (∀ i p, t[i]? = some p → ∃ b off, a = some ⟨b, off, none⟩ ∧ X b ∧ b < w.heap.size ∧ w.cell? ⟨b, off + i * 2, none⟩ = some (.string (str p.1)) ∧ w.cell? ⟨b, off + i * 2 + 1, none⟩ = some (.int .i64 p.2)) := hcell
  obtain ⟨i0, hi0, hz0, hz1, hz2⟩ := info_parts infoEntry
  clear hcell
  go_enter Try.func56, Try.ntmps56
  go_wp2_with fail
  go_loopw [5, 6] (fun o i wr => ∃ j : Nat, j ≤ k ∧ i = .int .i64 j ∧ wr.ownsRow w.heap.size 71 2 o (del (t.take j) n).length (cellsE (del (t.take j) n)) ∧ Below w.heap.size w wr) (fun _ i _ => k - (intOf i).toNat)
  case atStart => exact ⟨0, Nat.zero_le _, rfl, World.ownsRow_nil _ _ _ _, Below.refl _ _⟩
  case round =>
    obtain ⟨j, hj, rfl, hO, hB⟩ := hrel
    have HB : Hid (Below w.heap.size w wr) := hB
    have HO : Hid (wr.ownsRow w.heap.size 71 2 u5 (del (t.take j) n).length (cellsE (del (t.take j) n))) := hO
    clear hO hB
    by_cases hlt : j < k
    · obtain ⟨p, hp⟩ : ∃ p, t[j]? = some p := ⟨_, List.getElem?_eq_getElem (by rw [← HK.out]; exact hlt)⟩
      obtain ⟨b, off, rfl, _, hbl, c0, c1⟩ := HC.out j p hp
      rw [← HB.out.cell (p := ⟨b, off + j * 2, none⟩) hbl] at c0
      rw [← HB.out.cell (p := ⟨b, off + j * 2 + 1, none⟩) hbl] at c1
      have HDT : Hid (del (t.take (j + 1)) n = del (t.take j) n ++ (if p.1 = n then [] else [p])) := del_take t n j p hp
      by_cases e : p.1 = n
      · rw [e] at c0
        have hq : ((str n).toList == (str n).toList) = true := beq_self_eq_true _
        have HO2 : Hid (wr.ownsRow w.heap.size 71 2 u5 (del (t.take (j + 1)) n).length (cellsE (del (t.take (j + 1)) n))) := by
          rw [HDT.out, if_pos e, List.append_nil]
          exact HO.out
        clear hp
        go_wp2
        go_roundw
        case rel => exact ⟨j + 1, by omega, by go_num, HO2.out, HB.out⟩
        case measure => simp [intOf]; omega
      · have hq : ((str p.1).toList == (str n).toList) = false := str_ne e
        have HDL : Hid ((del (t.take j) n).length ≤ j) := by
          have h1 : (del (t.take j) n).length ≤ (t.take j).length := List.length_filter_le _ _
          rw [List.length_take] at h1
          unfold Hid
          omega
        obtain ⟨dl, HDD⟩ : ∃ x, Hid (x = (del (t.take j) n).length) := ⟨_, rfl⟩
        have HO1 : Hid (wr.ownsRow w.heap.size 71 2 u5 dl (cellsE (del (t.take j) n))) := by rw [HDD.out]; exact HO.out
        have hdl : dl ≤ j := by rw [HDD.out]; exact HDL.out
        have HCE : Hid (cellsE (del (t.take (j + 1)) n) = cellsE (del (t.take j) n) ++ [.string (str p.1), .int .i64 p.2]) := by
          rw [HDT.out, if_neg e, cellsE_app]
          rfl
        have HLE : Hid ((del (t.take (j + 1)) n).length = dl + 1) := by
          rw [HDT.out, if_neg e, HDD.out]
          exact List.length_append
        generalize cellsE (del (t.take j) n) = ce at *
        obtain ⟨S, HSS⟩ : ∃ S, Hid (S = str p.1) := ⟨_, rfl⟩
        rw [← HSS.out] at c0 hq HCE
        generalize p.2 = pi at *
        have hsz := HB.out.size
        clear hp HO
        go_wp2_with (at_builtin; refine wpList_append_own_at _ rfl _ _ 30 rfl w.heap.size 71 i0 (.agg #[.string ⟨#[]⟩, .int .i64 0]) 2 24 Try.underlying30 hi0 hz0 hz1 hz2 rfl (by decide) u5 dl ce rfl (HO1.out.alloc _) ⟨wr.heap.size, 0, none⟩ 1 1 [.string S, .int .i64 pi] rfl rfl (cells2' _ _ _ _) (by intro u hu; rcases List.mem_cons.1 hu with h | h; (rw [h]; rfl); (rw [List.mem_singleton.1 h]; rfl)) ?_ ?_ ?_ ?_)
        · unfold maxLen; omega
        · omega
        · simp; omega
        intro v' w5 hown' hgrow _ _
        have HB5 : Hid (Below w.heap.size w w5) := (HB.out.alloc hsz _).grown hgrow (by simp; omega) (fun j hj => own_block' HO1.out j hj)
        have HO5 : Hid (w5.ownsRow w.heap.size 71 2 v' (del (t.take (j + 1)) n).length (cellsE (del (t.take (j + 1)) n))) := by
          rw [HLE.out, HCE.out]
          exact hown'
        clear hown' hgrow
        go_wp2
        go_roundw
        case rel => exact ⟨j + 1, by omega, by go_num, HO5.out, HB5.out⟩
        case measure => simp [intOf]; omega
    · have HT : Hid (t.take j = t) := List.take_of_length_le (by rw [← HK.out]; omega)
      rw [HT.out] at HO
      go_wp2
      go_ret
      exact ⟨u5, rfl, HO.out, HB.out⟩
end Go.Proofs.Ytedpiikdlpehjaa.Dsk
