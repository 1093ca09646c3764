/- The document's disk: a name put in its place. -/
import Derived.Test.YtedpiikdlpehjaaDiskRf2
import Derived.Deep.RegionLaw
namespace Go.Proofs.Ytedpiikdlpehjaa.Dsk
open Go Go.RowKit Go.Maps
set_option linter.unusedSimpArgs false
set_option linter.unusedVariables false

/-- how many stand before it -/
def bef (n : Nm) (s : Tbl) : Nat := (s.takeWhile fun p => bytesBefore p.1 n).length
theorem ins_bef (x : Nm × Nat) : ∀ (s : Tbl), (∀ p ∈ s, p.1 ≠ x.1) → ins x s = s.take (bef x.1 s) ++ x :: s.drop (bef x.1 s)
  | [], _ => rfl
  | y :: r, h => by
    have hy := h y (List.mem_cons_self ..)
    unfold ins bef
    by_cases e : bytesBefore x.1 y.1 = true
    · have e2 : bytesBefore y.1 x.1 = false := by
        cases q : bytesBefore y.1 x.1 with
        | false => rfl
        | true => have := before_trans e q; rw [before_irr] at this; cases this
      rw [if_pos e, List.takeWhile_cons, e2]
      rfl
    · have e1 : bytesBefore x.1 y.1 = false := by simpa using e
      have e2 : bytesBefore y.1 x.1 = true := before_total _ _ e1 (fun q => hy q.symm)
      rw [if_neg e, List.takeWhile_cons, e2, ins_bef x r fun p hp => h p (List.mem_cons_of_mem _ hp)]
      rfl
theorem del_ne (t : Tbl) (n : Nm) : ∀ p ∈ del t n, p.1 ≠ n := by
  intro p hp
  have := (List.mem_filter.1 hp).2
  simpa using this
theorem put_bef (t : Tbl) (n : Nm) (i : Nat) : put t n i = (del t n).take (bef n (del t n)) ++ (n, i) :: (del t n).drop (bef n (del t n)) := ins_bef (n, i) (del t n) (del_ne t n)
theorem less_before : ∀ a b : List UInt8, Op.bytesLess a b = bytesBefore a b
  | [], [] => rfl
  | [], _ :: _ => rfl
  | _ :: _, [] => rfl
  | x :: a, y :: b => by
    unfold Op.bytesLess bytesBefore
    rw [less_before a b]
theorem bef_at {n : Nm} {s : Tbl} {j : Nat} {p : Nm × Nat} (h : ∀ q p, q < j → s[q]? = some p → bytesBefore p.1 n = true) (hp : s[j]? = some p) (hb : bytesBefore p.1 n = false) : bef n s = j := by
  induction s generalizing j with
  | nil => cases hp
  | cons y r ih =>
    unfold bef
    cases j with
    | zero =>
      cases hp
      rw [List.takeWhile_cons, hb]
      rfl
    | succ j =>
      have hy := h 0 y (by omega) rfl
      rw [List.takeWhile_cons, hy]
      have := ih (j := j) (fun q p hq hp => h (q + 1) p (by omega) (by simpa using hp)) (by simpa using hp)
      unfold bef at this
      simp [this]
theorem bef_all {n : Nm} {s : Tbl} {j : Nat} (h : ∀ q p, q < j → s[q]? = some p → bytesBefore p.1 n = true) (hj : s.length = j) : bef n s = j := by
  induction s generalizing j with
  | nil => cases hj; rfl
  | cons y r ih =>
    unfold bef
    cases j with
    | zero => cases hj
    | succ j =>
      have hy := h 0 y (by omega) rfl
      rw [List.takeWhile_cons, hy]
      have := ih (j := j) (fun q p hq hp => h (q + 1) p (by omega) (by simpa using hp)) (by simpa using hj)
      unfold bef at this
      simp [this]
theorem below_drewN {w w' : World} {B : Nat} (h : Below B w w') (k : Nat) : Below B w (w'.drewN k) := ⟨h.os, h.tape, h.output, h.size, h.block⟩
theorem own_weak {w : World} {B B' : Nat} {e : TypeId} {k n : Nat} {v : Value} {xs : List Value} (h : w.ownsRow B e k v n xs) (hb : B' ≤ B) : w.ownsRow B' e k v n xs := by
  refine ⟨h.1, ?_⟩
  rcases h.2 with q | ⟨g, cap, cur, q, h0, r⟩
  · exact .inl q
  · exact .inr ⟨g, cap, cur, q, Nat.le_trans hb h0, r⟩
theorem cellsE_one (t : Tbl) : ∀ u ∈ cellsE t, u.oneCell' = true := by
  intro u hu
  obtain ⟨p, _, hp⟩ := List.mem_flatMap.1 hu
  rcases List.mem_cons.1 hp with h | h
  · rw [h]; rfl
  · rw [List.mem_singleton.1 h]; rfl
theorem cellsE_idx (t : Tbl) (q : Nat) (u : Value) (h : (cellsE t)[q]? = some u) : ∃ i p, t[i]? = some p ∧ ((q = i * 2 ∧ u = .string (str p.1)) ∨ (q = i * 2 + 1 ∧ u = .int .i64 p.2)) := by
  have hq := (List.getElem?_eq_some_iff.1 h).1
  rw [cellsE_len] at hq
  have hi : q / 2 < t.length := by omega
  obtain ⟨e0, e1⟩ := cellsE_at t (q / 2) (t[q / 2]'hi) (List.getElem?_eq_getElem hi)
  refine ⟨q / 2, t[q / 2]'hi, List.getElem?_eq_getElem hi, ?_⟩
  rcases (by omega : q = q / 2 * 2 ∨ q = q / 2 * 2 + 1) with r | r
  · rw [← r, h] at e0
    exact .inl ⟨r, by injection e0⟩
  · rw [← r, h] at e1
    exact .inr ⟨r, by injection e1⟩
theorem add_at (b off q : Nat) : (⟨b, off, none⟩ : Addr).add q = ⟨b, off + q, none⟩ := by unfold Addr.add; split <;> simp_all
theorem src_take {w W : World} {P : Nat → Prop} {s : Tbl} {b off : Nat} (h : ∀ i p, s[i]? = some p → ∃ b' off', some (⟨b, off, none⟩ : Addr) = some ⟨b', off', none⟩ ∧ P b' ∧ b' < w.heap.size ∧ w.cell? ⟨b', off' + i * 2, none⟩ = some (.string (str p.1)) ∧ w.cell? ⟨b', off' + i * 2 + 1, none⟩ = some (.int .i64 p.2)) (hB : Below w.heap.size w W) (j z : Nat) (hz : z = 0) : ∀ q u, (cellsE (s.take j))[q]? = some u → W.cell? ((⟨b, off, none⟩ : Addr).add q) = some u := by
  intro q u hu
  obtain ⟨i, p, hp, r⟩ := cellsE_idx _ _ _ hu
  have hi := (List.getElem?_eq_some_iff.1 hp).1
  rw [List.length_take] at hi
  rw [List.getElem?_take, if_pos (by omega)] at hp
  obtain ⟨b', off', e, _, hl, c0, c1⟩ := h i p hp
  cases e
  rw [add_at]
  rcases r with ⟨rfl, rfl⟩ | ⟨rfl, rfl⟩
  · exact (hB.cell (p := ⟨b, off + i * 2, none⟩) hl).trans c0
  · exact (hB.cell (p := ⟨b, off + (i * 2 + 1), none⟩) hl).trans c1
theorem src_drop {w W : World} {P : Nat → Prop} {s : Tbl} {b off : Nat} (h : ∀ i p, s[i]? = some p → ∃ b' off', some (⟨b, off, none⟩ : Addr) = some ⟨b', off', none⟩ ∧ P b' ∧ b' < w.heap.size ∧ w.cell? ⟨b', off' + i * 2, none⟩ = some (.string (str p.1)) ∧ w.cell? ⟨b', off' + i * 2 + 1, none⟩ = some (.int .i64 p.2)) (hB : Below w.heap.size w W) (j : Nat) : ∀ q u, (cellsE (s.drop j))[q]? = some u → W.cell? ((⟨b, off + j * 2, none⟩ : Addr).add q) = some u := by
  intro q u hu
  obtain ⟨i, p, hp, r⟩ := cellsE_idx _ _ _ hu
  rw [List.getElem?_drop] at hp
  obtain ⟨b', off', e, _, hl, c0, c1⟩ := h (j + i) p hp
  cases e
  rw [add_at]
  rcases r with ⟨rfl, rfl⟩ | ⟨rfl, rfl⟩
  · rw [show off + j * 2 + i * 2 = off + (j + i) * 2 by omega]
    exact (hB.cell (p := ⟨b, off + (j + i) * 2, none⟩) hl).trans c0
  · rw [show off + j * 2 + (i * 2 + 1) = off + (j + i) * 2 + 1 by omega]
    exact (hB.cell (p := ⟨b, off + (j + i) * 2 + 1, none⟩) hl).trans c1
theorem step_append_none {P : Program} {ops : Array Oper} {o : Oper} {a : Go.Act} {w : World} {K : Go.Act → World → Prop} {Q : Exit → Go.Act → World → Prop} {E : Prop}
    (hg : o.guard = none) (s x : Operand) (t : TypeId) (hop : o.op = Op.call { callee := Callee.builtin Builtin.append, args := #[s, x], argTypes := #[t, t] }) (base : Nat)
    (e : TypeId) (i : TypeInfo) (size : Nat) (h1 : P.underlying t = some (.slice e)) (h2 : P.info? e = some i)
    (v : Value) (n : Nat) (xs : List Value) (hs : a.eval s = v) (hown : w.ownsRow base e size v n xs) (hx : a.eval x = .slice none 0 0) (hK : K (a.put o.dst v) w) :
    if Region.wanted o (yielded ops a.tmps) = true then Oper.wp P o a w K Q else E := by
  have hw : Region.wanted o (yielded ops a.tmps) = true := by simp [Region.wanted, hg]
  rw [if_pos hw]
  have hrun := run_append_owned_none (P := P) (w := w) base t o.type e i size h1 h2 v n xs hown
  unfold Oper.wp
  simp [execOp, hop, resolve, invoke, builtin, hs, hx, hrun, Result.andThen]
  exact hK
theorem grown_cells2 {w W w' : World} {x y : Value} {t : TypeId} {row : Option Nat} {g : Nat} (hg : W.grownBy w' row) (hW : W = w.alloc (.cells #[x, y] t)) (hr : row = none) (hgg : g = w.heap.size) : ∀ q u, ([x, y])[q]? = some u → w'.cell? ((⟨g, 0, none⟩ : Addr).add q) = some u := by
  subst hW hr hgg
  intro q u hu
  have h1 := cells2' w x y t q u hu
  rw [add_at] at h1 ⊢
  rw [World.cell?_of_block (w := w.alloc (.cells #[x, y] t)) (a := ⟨w.heap.size, 0 + q, none⟩) (hg.block w.heap.size (by simp) (by simp))]
  exact h1
set_option maxRecDepth 100000 in
set_option maxHeartbeats 4000000 in
theorem with_any {w : World} {X : Nat → Prop} {v : Value} {t : Tbl} (h : Ents w X v t) (n : Nm) (i : Nat) (hl : t.length ≤ 1000000) (hi : i ≤ 1000000) : Calls Try.prog 51 #[v, .agg #[.string (str n), .int .i64 i]] w fun e w' => ∃ v', e = .returned v' ∧ w'.ownsRow w.heap.size 71 2 v' (put t n i).length (cellsE (put t n i)) ∧ Below w.heap.size w w' := by
  have hm : maxLen = 9223372036854775807 := rfl
  obtain ⟨i0, hi0, hz0, hz1, hz2⟩ := info_parts infoEntry
  obtain ⟨V, HV⟩ : ∃ V, Hid (V = w.alloc (.cells #[.string (str n), .int .i64 i] 71)) := ⟨_, rfl⟩
  have HBV : Hid (Below w.heap.size w V) := by rw [HV.out]; exact (Below.refl _ w).alloc (Nat.le_refl _) _
  have hwo := without_any (h.later HBV.out) n hl
  go_enter Try.func51, Try.ntmps51
  go_wp2_with fail
  rw [← HV.out]
  refine hwo.mono ?_
  rintro e w1 ⟨v1, rfl, hO1, hB1⟩
  have HO1 : Hid (w1.ownsRow V.heap.size 71 2 v1 (del t n).length (cellsE (del t n))) := hO1
  have HB1 : Hid (Below V.heap.size V w1) := hB1
  have HBW : Hid (Below w.heap.size w w1) := HBV.out.trans (hB1.mono HBV.out.size)
  have HBX : Hid (w.heap.size < w1.heap.size) := by
    have q : V.heap.size = w.heap.size + 1 := by rw [HV.out]; simp
    have := hB1.size
    unfold Hid
    omega
  obtain ⟨bx, HX⟩ : ∃ x, Hid (x = w.heap.size) := ⟨_, rfl⟩
  have HRX : Hid (Row w1 bx 71 [.string (str n), .int .i64 i]) := by
    have q : Row V bx 71 [.string (str n), .int .i64 i] := by rw [HV.out, HX.out]; exact Row.mk w [.string (str n), .int .i64 i] _
    exact q.at_ (hB1.block _ q.lt)
  have HDN : Hid (∀ p ∈ del t n, p.1 ≠ n) := del_ne t n
  have HPB : Hid (put t n i = (del t n).take (bef n (del t n)) ++ (n, i) :: (del t n).drop (bef n (del t n))) := put_bef t n i
  have HSL : Hid ((del t n).length ≤ 1000000) := by
    have h1 : (del t n).length ≤ t.length := List.length_filter_le _ _
    unfold Hid
    omega
  have HE1 : Hid (Ents w1 (V.heap.size ≤ ·) v1 (del t n)) := ents_own HO1.out
  rw [← HX.out]
  clear hwo hO1 hB1 h HV
  generalize del t n = s at *
  obtain ⟨a, cap, hv1, hlc, hcm, hcell⟩ := HE1.out
  have HAD : Hid (∀ ad, a = some ad → ∃ b off, ad = ⟨b, off, none⟩) := by
    intro ad e
    rcases HO1.out.2 with ⟨q, _⟩ | ⟨g, c', cur, q, _⟩
    · rw [hv1] at q
      injection q with q1
      rw [e] at q1
      cases q1
    · rw [hv1] at q
      injection q with q1
      rw [e] at q1
      cases q1
      exact ⟨_, _, rfl⟩
  have HAN0 : Hid (a = none → s.length = 0 ∧ cap = 0) := by
    intro e
    rcases HO1.out.2 with ⟨q, _⟩ | ⟨g, c', cur, q, _⟩
    · rw [hv1] at q
      injection q with q1 q2 q3
      exact ⟨q2, q3⟩
    · rw [hv1] at q
      injection q with q1
      rw [e] at q1
      cases q1
  have HC : Hid (∀ i p, s[i]? = some p → ∃ b off, a = some ⟨b, off, none⟩ ∧ V.heap.size ≤ b ∧ b < w1.heap.size ∧ w1.cell? ⟨b, off + i * 2, none⟩ = some (.string (str p.1)) ∧ w1.cell? ⟨b, off + i * 2 + 1, none⟩ = some (.int .i64 p.2)) := hcell
  subst hv1
  obtain ⟨k, HK⟩ : ∃ k, Hid (k = s.length) := ⟨_, rfl⟩
  have hsl := HSL.out
  have HAN : Hid (a = none → k = 0 ∧ cap = 0) := by rw [HK.out]; exact HAN0.out
  rw [← HK.out] at hlc hsl ⊢
  clear hcell
  go_wp2_with fail
  go_loopw [5] (fun i wr => ∃ j : Nat, j ≤ k ∧ i = .int .i64 j ∧ (∀ q p, q < j → s[q]? = some p → bytesBefore p.1 n = true) ∧ Below w1.heap.size w1 wr) (fun i _ => k - (intOf i).toNat)
  case atStart => exact ⟨0, Nat.zero_le _, rfl, (fun q p h => absurd h (by omega)), Below.refl _ _⟩
  case round =>
    obtain ⟨j, hj, rfl, hbf, hB⟩ := hrel
    have HBF : Hid (∀ q p, q < j → s[q]? = some p → bytesBefore p.1 n = true) := hbf
    have HB : Hid (Below w1.heap.size w1 wr) := hB
    have hx0 : wr.cell? ⟨bx, 0, none⟩ = some (.string (str n)) := (HRX.out.at_ (hB.block _ HRX.out.lt)).cell 0
    clear hbf hB
    by_cases hlt : j < k
    · obtain ⟨p, hp⟩ : ∃ p, s[j]? = some p := ⟨_, List.getElem?_eq_getElem (by rw [← HK.out]; exact hlt)⟩
      obtain ⟨b, off, rfl, _, hbl, c0, c1⟩ := HC.out j p hp
      rw [← HB.out.cell (p := ⟨b, off + j * 2, none⟩) hbl] at c0
      have HPJ : Hid (s[j]? = some p) := hp
      cases hbb : bytesBefore p.1 n with
      | true =>
        have hq : Op.bytesLess (str p.1).toList (str n).toList = true := by rw [less_before, str_toList, str_toList, hbb]
        generalize str p.1 = S at *
        clear hp c1
        go_wp2_with fail
        go_quiet (fail)
        go_wp2
        go_roundw
        case rel =>
          refine ⟨j + 1, by omega, by go_num, fun q p' hq' hp' => ?_, below_drewN HB.out _⟩
          by_cases e : q = j
          · subst e
            rw [HPJ.out] at hp'
            cases hp'
            exact hbb
          · exact HBF.out q p' (by omega) hp'
        case measure => simp [intOf]; omega
      | false =>
        have hq : Op.bytesLess (str p.1).toList (str n).toList = false := by rw [less_before, str_toList, str_toList, hbb]
        have HBJ : Hid (bef n s = j) := bef_at HBF.out hp hbb
        have HS1 : Hid (∀ W, Below wr.heap.size wr W → ∀ q u, (cellsE (s.take j))[q]? = some u → W.cell? ((⟨b, off, none⟩ : Addr).add q) = some u) := fun W hW => src_take HC.out (HB.out.trans (hW.mono HB.out.size)) j 0 rfl
        have HL1 : Hid ((cellsE (s.take j)).length = j * 2) := by
          have q : (s.take j).length = j := by rw [List.length_take, ← HK.out]; omega
          have q2 := cellsE_len (s.take j)
          rw [q] at q2
          exact q2
        have HL3 : Hid ((cellsE (s.drop j)).length = (k - j) * 2) := by
          have q := cellsE_len (s.drop j)
          rw [List.length_drop, ← HK.out] at q
          exact q
        obtain ⟨SA, hSA, hS3⟩ : ∃ SA : Addr, (if cap = j then some (⟨b, off, none⟩ : Addr) else some ⟨b, off + j * 2, none⟩) = some SA ∧ ∀ W, Below wr.heap.size wr W → ∀ q u, (cellsE (s.drop j))[q]? = some u → W.cell? (SA.add q) = some u := by
          by_cases e : cap = j
          · refine ⟨_, if_pos e, fun W hW q u hu => ?_⟩
            rw [List.drop_of_length_le (by rw [← HK.out]; omega)] at hu
            cases hu
          · exact ⟨_, if_neg e, fun W hW => src_drop HC.out (HB.out.trans (hW.mono HB.out.size)) j⟩
        have HS3 : Hid (∀ W, Below wr.heap.size wr W → ∀ q u, (cellsE (s.drop j))[q]? = some u → W.cell? (SA.add q) = some u) := hS3
        have hjc : j ≤ cap := by omega
        have hbxl : bx < wr.heap.size := Nat.lt_of_lt_of_le HRX.out.lt HB.out.size
        have hx1 : wr.cell? ⟨bx, 1, none⟩ = some (.int .i64 i) := (HRX.out.at_ (HB.out.block _ HRX.out.lt)).cell 1
        clear hS3
        generalize str p.1 = S at *
        clear hp c1
        go_wp2_with fail
        go_quiet (fail)
        go_wp2_with fail
        go_region_law (first
          | (refine step_append_own rfl (.const (.slice none 0 0)) (.tmp 28) 30 rfl wr.heap.size 71 i0 (.agg #[.string ⟨#[]⟩, .int .i64 0]) 2 24 Try.underlying30 hi0 hz0 hz1 hz2 rfl (by decide) (.slice none 0 0) 0 [] (by first | rfl | simp [Act.eval, Act.put]) (World.ownsRow_nil _ _ _ _) ⟨b, off, none⟩ j cap (cellsE (s.take j)) (by simp [Act.eval, Act.put]) HL1.out (by first | exact HS1.out _ (below_drewN (Below.refl _ wr) _).drew | exact HS1.out _ ((below_drewN (Below.refl _ wr) _).drew.alloc (Nat.le_refl _) _)) (cellsE_one _) (by unfold maxLen; omega) (by omega) (by first | exact Nat.le_refl _ | (simp; done)) ?_; intro v3 w3 hown3 hgrow3; have hB3 : Below wr.heap.size wr w3 := (by first | exact (below_drewN (Below.refl _ wr) _).drew.grown hgrow3 (Nat.le_refl _) (fun k hk => by cases hk) | exact ((below_drewN (Below.refl _ wr) _).drew.alloc (Nat.le_refl _) _).grown hgrow3 (by simp) (fun k hk => by cases hk)); have hxa := (hB3.cell (p := ⟨bx, 0, none⟩) hbxl).trans hx0; have hxb := (hB3.cell (p := ⟨bx, 1, none⟩) hbxl).trans hx1)
          | (refine step_append_own rfl (.tmp 29) (.tmp 31) 30 rfl wr.heap.size 71 i0 (.agg #[.string ⟨#[]⟩, .int .i64 0]) 2 24 Try.underlying30 hi0 hz0 hz1 hz2 rfl (by decide) v3 (0 + j) ([] ++ cellsE (s.take j)) (by simp [Act.eval, Act.put]) (hown3.alloc _) ⟨w3.heap.size, 0, none⟩ 1 1 [.string (str n), .int .i64 i] (by simp [Act.eval, Act.put]) rfl (cells2' _ _ _ _) (by intro u hu; rcases List.mem_cons.1 hu with h | h; (rw [h]; rfl); (rw [List.mem_singleton.1 h]; rfl)) (by unfold maxLen; omega) (by omega) (by have := hB3.size; simp; omega) ?_; intro v4 w4 hown4 hgrow4; have hB4 : Below wr.heap.size wr w4 := (hB3.alloc hB3.size _).grown hgrow4 (by have := hB3.size; simp; omega) (fun k hk => own_block' hown3 k hk))
          | (refine step_append_own rfl (.tmp 29) (.tmp 31) 30 rfl wr.heap.size 71 i0 (.agg #[.string ⟨#[]⟩, .int .i64 0]) 2 24 Try.underlying30 hi0 hz0 hz1 hz2 rfl (by decide) v3 (0 + j) ([] ++ cellsE (s.take j)) (by simp [Act.eval, Act.put]) hown3 ⟨wr.heap.size, 0, none⟩ 1 1 [.string (str n), .int .i64 i] (by simp [Act.eval, Act.put]) rfl (by first | exact grown_cells2 hgrow3 rfl rfl rfl | exact grown_cells2 (w := (wr.drewN nq).drew) hgrow3 (by simp) rfl rfl) (by intro u hu; rcases List.mem_cons.1 hu with h | h; (rw [h]; rfl); (rw [List.mem_singleton.1 h]; rfl)) (by unfold maxLen; omega) (by omega) hB3.size ?_; intro v4 w4 hown4 hgrow4; have hB4 : Below wr.heap.size wr w4 := hB3.grown hgrow4 hB3.size (fun k hk => own_block' hown3 k hk))
          | (refine step_append_own rfl (.tmp 32) (.tmp 35) 30 rfl wr.heap.size 71 i0 (.agg #[.string ⟨#[]⟩, .int .i64 0]) 2 24 Try.underlying30 hi0 hz0 hz1 hz2 rfl (by decide) v4 (0 + j + 1) ([] ++ cellsE (s.take j) ++ [.string (str n), .int .i64 i]) (by simp [Act.eval, Act.put]) hown4 SA (k - j) (cap - j) (cellsE (s.drop j)) (by simp [Act.eval, Act.put]) HL3.out (HS3.out _ hB4) (cellsE_one _) (by unfold maxLen; omega) (by omega) hB4.size ?_; intro v5 w5 hown5 hgrow5; have hB5 : Below wr.heap.size wr w5 := hB4.grown hgrow5 hB4.size (fun k hk => own_block' hown4 k hk)))
        all_goals (
          have hown6 : w5.ownsRow w.heap.size 71 2 v5 (put t n i).length (cellsE (put t n i)) := (by
            have q := own_weak hown5 (Nat.le_trans HBW.out.size HB.out.size)
            rw [HPB.out, HBJ.out]
            have e1 : (s.take j ++ (n, i) :: s.drop j).length = 0 + j + 1 + (k - j) := by rw [List.length_append, List.length_take, List.length_cons, List.length_drop, ← HK.out]; omega
            rw [e1, cellsE_app, cellsE_cons]
            simpa using q)
          have hbf : Below w.heap.size w w5 := HBW.out.trans ((HB.out.trans (hB5.mono HB.out.size)).mono HBW.out.size)
          clear hown5 hgrow5 hown4 hgrow4 hown3 hgrow3
          go_wp2
          go_ret
          exact ⟨v5, rfl, hown6, hbf⟩)
    · have HBJ : Hid (bef n s = j) := bef_all HBF.out (by rw [← HK.out]; omega)
      have hd : decide ((j : Int) < (k : Int)) = false := decide_eq_false (by omega)
      cases a with
      | some ad =>
        obtain ⟨b, off, rfl⟩ := HAD.out ad rfl
        have HS1 : Hid (∀ W, Below wr.heap.size wr W → ∀ q u, (cellsE (s.take j))[q]? = some u → W.cell? ((⟨b, off, none⟩ : Addr).add q) = some u) := fun W hW => src_take HC.out (HB.out.trans (hW.mono HB.out.size)) j 0 rfl
        have HL1 : Hid ((cellsE (s.take j)).length = j * 2) := by
          have q : (s.take j).length = j := by rw [List.length_take, ← HK.out]; omega
          have q2 := cellsE_len (s.take j)
          rw [q] at q2
          exact q2
        have HL3 : Hid ((cellsE (s.drop j)).length = (k - j) * 2) := by
          have q := cellsE_len (s.drop j)
          rw [List.length_drop, ← HK.out] at q
          exact q
        obtain ⟨SA, hSA, hS3⟩ : ∃ SA : Addr, (if cap = j then some (⟨b, off, none⟩ : Addr) else some ⟨b, off + j * 2, none⟩) = some SA ∧ ∀ W, Below wr.heap.size wr W → ∀ q u, (cellsE (s.drop j))[q]? = some u → W.cell? (SA.add q) = some u := by
          by_cases e : cap = j
          · refine ⟨_, if_pos e, fun W hW q u hu => ?_⟩
            rw [List.drop_of_length_le (by rw [← HK.out]; omega)] at hu
            cases hu
          · exact ⟨_, if_neg e, fun W hW => src_drop HC.out (HB.out.trans (hW.mono HB.out.size)) j⟩
        have HS3 : Hid (∀ W, Below wr.heap.size wr W → ∀ q u, (cellsE (s.drop j))[q]? = some u → W.cell? (SA.add q) = some u) := hS3
        have hjc : j ≤ cap := by omega
        have hbxl : bx < wr.heap.size := Nat.lt_of_lt_of_le HRX.out.lt HB.out.size
        have hx1 : wr.cell? ⟨bx, 1, none⟩ = some (.int .i64 i) := (HRX.out.at_ (HB.out.block _ HRX.out.lt)).cell 1
        clear hS3
        go_wp2_with fail
        go_quiet (fail)
        go_wp2_with fail
        go_region_law (first
          | (refine step_append_own rfl (.const (.slice none 0 0)) (.tmp 28) 30 rfl wr.heap.size 71 i0 (.agg #[.string ⟨#[]⟩, .int .i64 0]) 2 24 Try.underlying30 hi0 hz0 hz1 hz2 rfl (by decide) (.slice none 0 0) 0 [] (by first | rfl | simp [Act.eval, Act.put]) (World.ownsRow_nil _ _ _ _) ⟨b, off, none⟩ j cap (cellsE (s.take j)) (by simp [Act.eval, Act.put]) HL1.out (by first | exact HS1.out _ (below_drewN (Below.refl _ wr) _).drew | exact HS1.out _ ((below_drewN (Below.refl _ wr) _).drew.alloc (Nat.le_refl _) _)) (cellsE_one _) (by unfold maxLen; omega) (by omega) (by first | exact Nat.le_refl _ | (simp; done)) ?_; intro v3 w3 hown3 hgrow3; have hB3 : Below wr.heap.size wr w3 := (by first | exact (below_drewN (Below.refl _ wr) _).drew.grown hgrow3 (Nat.le_refl _) (fun k hk => by cases hk) | exact ((below_drewN (Below.refl _ wr) _).drew.alloc (Nat.le_refl _) _).grown hgrow3 (by simp) (fun k hk => by cases hk)); have hxa := (hB3.cell (p := ⟨bx, 0, none⟩) hbxl).trans hx0; have hxb := (hB3.cell (p := ⟨bx, 1, none⟩) hbxl).trans hx1)
          | (refine step_append_own rfl (.tmp 29) (.tmp 31) 30 rfl wr.heap.size 71 i0 (.agg #[.string ⟨#[]⟩, .int .i64 0]) 2 24 Try.underlying30 hi0 hz0 hz1 hz2 rfl (by decide) v3 (0 + j) ([] ++ cellsE (s.take j)) (by simp [Act.eval, Act.put]) (hown3.alloc _) ⟨w3.heap.size, 0, none⟩ 1 1 [.string (str n), .int .i64 i] (by simp [Act.eval, Act.put]) rfl (cells2' _ _ _ _) (by intro u hu; rcases List.mem_cons.1 hu with h | h; (rw [h]; rfl); (rw [List.mem_singleton.1 h]; rfl)) (by unfold maxLen; omega) (by omega) (by have := hB3.size; simp; omega) ?_; intro v4 w4 hown4 hgrow4; have hB4 : Below wr.heap.size wr w4 := (hB3.alloc hB3.size _).grown hgrow4 (by have := hB3.size; simp; omega) (fun k hk => own_block' hown3 k hk))
          | (refine step_append_own rfl (.tmp 29) (.tmp 31) 30 rfl wr.heap.size 71 i0 (.agg #[.string ⟨#[]⟩, .int .i64 0]) 2 24 Try.underlying30 hi0 hz0 hz1 hz2 rfl (by decide) v3 (0 + j) ([] ++ cellsE (s.take j)) (by simp [Act.eval, Act.put]) hown3 ⟨wr.heap.size, 0, none⟩ 1 1 [.string (str n), .int .i64 i] (by simp [Act.eval, Act.put]) rfl (by first | exact grown_cells2 hgrow3 rfl rfl rfl | exact grown_cells2 (w := (wr.drewN nq).drew) hgrow3 (by simp) rfl rfl) (by intro u hu; rcases List.mem_cons.1 hu with h | h; (rw [h]; rfl); (rw [List.mem_singleton.1 h]; rfl)) (by unfold maxLen; omega) (by omega) hB3.size ?_; intro v4 w4 hown4 hgrow4; have hB4 : Below wr.heap.size wr w4 := hB3.grown hgrow4 hB3.size (fun k hk => own_block' hown3 k hk))
          | (refine step_append_own rfl (.tmp 32) (.tmp 35) 30 rfl wr.heap.size 71 i0 (.agg #[.string ⟨#[]⟩, .int .i64 0]) 2 24 Try.underlying30 hi0 hz0 hz1 hz2 rfl (by decide) v4 (0 + j + 1) ([] ++ cellsE (s.take j) ++ [.string (str n), .int .i64 i]) (by simp [Act.eval, Act.put]) hown4 SA (k - j) (cap - j) (cellsE (s.drop j)) (by simp [Act.eval, Act.put]) HL3.out (HS3.out _ hB4) (cellsE_one _) (by unfold maxLen; omega) (by omega) hB4.size ?_; intro v5 w5 hown5 hgrow5; have hB5 : Below wr.heap.size wr w5 := hB4.grown hgrow5 hB4.size (fun k hk => own_block' hown4 k hk)))
        all_goals (
          have hown6 : w5.ownsRow w.heap.size 71 2 v5 (put t n i).length (cellsE (put t n i)) := (by
            have q := own_weak hown5 (Nat.le_trans HBW.out.size HB.out.size)
            rw [HPB.out, HBJ.out]
            have e1 : (s.take j ++ (n, i) :: s.drop j).length = 0 + j + 1 + (k - j) := by rw [List.length_append, List.length_take, List.length_cons, List.length_drop, ← HK.out]; omega
            rw [e1, cellsE_app, cellsE_cons]
            simpa using q)
          have hbf : Below w.heap.size w w5 := HBW.out.trans ((HB.out.trans (hB5.mono HB.out.size)).mono HBW.out.size)
          clear hown5 hgrow5 hown4 hgrow4 hown3 hgrow3
          go_wp2
          go_ret
          exact ⟨v5, rfl, hown6, hbf⟩)
      | none =>
        obtain ⟨hk0, hc0⟩ := HAN.out rfl
        obtain rfl : j = 0 := by omega
        obtain rfl : k = 0 := hk0
        obtain rfl : cap = 0 := hc0
        have hbxl : bx < wr.heap.size := Nat.lt_of_lt_of_le HRX.out.lt HB.out.size
        have hx1 : wr.cell? ⟨bx, 1, none⟩ = some (.int .i64 i) := (HRX.out.at_ (HB.out.block _ HRX.out.lt)).cell 1
        have HPP : Hid (put t n i = [(n, i)]) := by
          have q : s = [] := List.eq_nil_of_length_eq_zero HK.out.symm
          rw [HPB.out, q]
          rfl
        go_wp2_with fail
        go_quiet (fail)
        go_wp2_with fail
        go_region_law (first
          | (refine step_append_none rfl (.const (.slice none 0 0)) (.tmp 28) 30 rfl wr.heap.size 71 i0 2 Try.underlying30 hi0 (.slice none 0 0) 0 [] (by first | rfl | simp [Act.eval, Act.put]) (World.ownsRow_nil _ _ _ _) (by simp [Act.eval, Act.put]) ?_)
          | (refine step_append_own rfl (.tmp 29) (.tmp 31) 30 rfl wr.heap.size 71 i0 (.agg #[.string ⟨#[]⟩, .int .i64 0]) 2 24 Try.underlying30 hi0 hz0 hz1 hz2 rfl (by decide) (.slice none 0 0) 0 [] (by simp [Act.eval, Act.put]) (World.ownsRow_nil _ _ _ _) ⟨wr.heap.size, 0, none⟩ 1 1 [.string (str n), .int .i64 i] (by simp [Act.eval, Act.put]) rfl (by exact cells2' (wr.drewN nq).drew _ _ _) (by intro u hu; rcases List.mem_cons.1 hu with h | h; (rw [h]; rfl); (rw [List.mem_singleton.1 h]; rfl)) (by unfold maxLen; omega) (by omega) (by first | exact Nat.le_refl _ | (simp; done)) ?_; intro v4 w4 hown4 hgrow4; have hB4 : Below wr.heap.size wr w4 := ((below_drewN (Below.refl _ wr) _).drew.alloc (Nat.le_refl _) _).grown hgrow4 (by simp) (fun k hk => by cases hk))
          | (refine step_append_none rfl (.tmp 32) (.tmp 35) 30 rfl wr.heap.size 71 i0 2 Try.underlying30 hi0 v4 (0 + 1) ([] ++ [.string (str n), .int .i64 i]) (by simp [Act.eval, Act.put]) hown4 (by simp [Act.eval, Act.put]) ?_))
        all_goals (
          have hown6 : w4.ownsRow w.heap.size 71 2 v4 (put t n i).length (cellsE (put t n i)) := (by
            have q := own_weak hown4 (Nat.le_trans HBW.out.size HB.out.size)
            rw [HPP.out]
            exact q)
          have hbf : Below w.heap.size w w4 := HBW.out.trans ((HB.out.trans (hB4.mono HB.out.size)).mono HBW.out.size)
          clear hown4 hgrow4
          go_wp2
          go_ret
          exact ⟨v4, rfl, hown6, hbf⟩)
end Go.Proofs.Ytedpiikdlpehjaa.Dsk
