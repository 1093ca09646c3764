/- The state of a scan: where it stands, and what has come. -/
import Derived.Test.YthmoapigjafijaaFrameRange
namespace Go.Proofs.Ythmoapigjafijaa.Frm
open Go.RowKit Crc
set_option linter.unusedSimpArgs false
set_option linter.unusedVariables false

/-- the frames from b's beginning on, by any number -/
def scz (b : List UInt8) (s : Int) : List (Nat × List UInt8) := if s < 1 then [] else scn b s.toNat
theorem scz_none (b : List UInt8) (s : Int) (h : nxtE b ≠ 0 ∨ (nxtS b : Int) ≠ s) : scz b s = [] := by
  unfold scz
  by_cases h1 : s < 1
  · rw [if_pos h1]
  · rw [if_neg h1]
    rcases h with h | h
    · exact scn_none _ _ (.inl h)
    · exact scn_none _ _ (.inr (by omega))
theorem scz_step (b : List UInt8) (s : Int) (h : nxtE b = 0) (hs : (nxtS b : Int) = s) : scz b s = (nxtS b, nxtD b) :: scz (b.drop (nxtN b)) (s + 1) := by
  obtain ⟨h1, h2, h3, h4, h5, h6⟩ := nxt_sound b h
  have e : s.toNat = nxtS b := by omega
  unfold scz
  rw [if_neg (by omega), if_neg (by omega), e, scn_step _ _ h1, if_pos ⟨h, rfl⟩, show (s + 1).toNat = nxtS b + 1 by omega]
  by_cases hm : nxtS b = maxSeq
  · rw [if_pos hm]
    congr 1
    refine (scn_none _ _ ?_).symm
    by_cases h0 : nxtE (b.drop (nxtN b)) = 0
    · have := (nxt_sound _ h0).2.1
      exact .inr (by omega)
    · exact .inl h0
  · rw [if_neg hm]

structure Fr where
  s : Nat
  g : Nat
  c : Nat
  d : List UInt8
def Fr.sd (x : Fr) : Nat × List UInt8 := (x.s, x.d)
def Fr.val (x : Fr) : Value := .slice (some ⟨x.g, 0, none⟩) x.d.length x.c
def encF (x : Fr) : Array Value := #[.agg #[.int .i64 x.s, .slice (some ⟨x.g, 0, none⟩) x.d.length x.c]]
def cellsF : List Fr → List Value
  | [] => []
  | x :: r => .int .i64 x.s :: .slice (some ⟨x.g, 0, none⟩) x.d.length x.c :: cellsF r
theorem cellsF_app (a b : List Fr) : cellsF (a ++ b) = cellsF a ++ cellsF b := by
  induction a with
  | nil => rfl
  | cons x r ih => rw [List.cons_append, cellsF, cellsF, ih]; rfl
theorem cellsF_len (a : List Fr) : (cellsF a).length = a.length * 2 := by
  induction a with
  | nil => rfl
  | cons x r ih => rw [cellsF, List.length_cons, List.length_cons, ih, List.length_cons]; omega
def wdF (l : List Fr) : Nat := wid (l.map Fr.sd)
theorem wid_app (a b : List (Nat × List UInt8)) : wid (a ++ b) = wid a + wid b := by
  induction a with
  | nil => simp [wid]
  | cons x r ih =>
    show 20 + x.2.length + wid (r ++ b) = 20 + x.2.length + wid r + wid b
    rw [ih]; omega
theorem wdF_snoc (l : List Fr) (x : Fr) : wdF (l ++ [x]) = wdF l + (20 + x.d.length) := by
  unfold wdF
  rw [List.map_append, wid_app]
  simp [wid, Fr.sd]

/-- cells stay, but those of one block -/
def Cks (r : Option Nat) (W W' : World) : Prop := ∀ k cs t, some k ≠ r → W.heap[k]? = some (.cells cs t (0, 0)) → W'.heap[k]? = some (.cells cs t (0, 0))
theorem Row.cks {W W' : World} {k : Nat} {t : TypeId} {cur : List Value} {r : Option Nat} (h : Row W k t cur) (hc : Cks r W W') (hk : some k ≠ r) : Row W' k t cur := hc k _ t hk h
theorem Row.ne {W : World} {k k' : Nat} {t t' : TypeId} {cur cur' : List Value} (h : Row W k t cur) (h' : Row W k' t' cur') (ht : t ≠ t') : some k ≠ some k' := by
  intro e
  cases e
  unfold Row at h h'
  rw [h] at h'
  cases h'
  exact ht rfl
theorem Cks.of_below {W W' : World} (h : Below W.heap.size W W') : Cks none W W' := fun k cs t _ hk => by
  rw [h.block k (Array.getElem?_eq_some_iff.1 hk).1]; exact hk
theorem Cks.of_grown {W W' : World} {row : Option Nat} (h : W.grownBy W' row) : Cks row W W' := fun k cs t hr hk => by
  rw [h.block k (Array.getElem?_eq_some_iff.1 hk).1 hr]; exact hk
theorem Cks.put {W : World} {l : Nat} {o o' : Obj} (h : W.heap[l]? = some o) (ho : o.isCells = false) : Cks none W (W.putObj l o') := fun k cs t _ hk => by
  rw [World.putObj_heap_other (by intro e; subst e; rw [h] at hk; cases hk; cases ho)]
  exact hk
theorem Cks.set (W : World) (p : Addr) (v : Value) : Cks (some p.block) W (W.setCell p v) := fun k cs t hk h => by
  rw [Below.heap_setCell _ _ _ _ (fun e => hk (by rw [e]))]; exact h
theorem Cks.trans {r : Option Nat} {A B C : World} (h : Cks r A B) (k : Cks r B C) : Cks r A C := fun i cs t hi hh => k i cs t hi (h i cs t hi hh)
theorem Cks.weak {r : Option Nat} {A B : World} (h : Cks none A B) : Cks r A B := fun i cs t _ hh => h i cs t (by simp) hh

/-- a frame's bytes, a row of their own from B on -/
def dat (B : Nat) (W : World) (x : Fr) : Prop := B ≤ x.g ∧ x.d.length ≤ x.c ∧ x.c ≤ maxLen ∧ ∃ cur, Row W x.g 5 cur ∧ cur.take x.d.length = byC x.d
/-- the frames that have come, in a variable of one's own -/
def ListAt (B Ln : Nat) (W : World) (pre : List Fr) : Prop := ∃ v, Row W Ln 38 [v] ∧ W.ownsRow B 28 2 v pre.length (cellsF pre) ∧ ∀ x ∈ pre, dat B W x
/-- where a scan stands -/
def RunAt (w : World) (l : List UInt8) (s0 : Int) (Rn : Nat) (W : World) (pre : List Fr) : Prop :=
  ∃ a len cap, Row W Rn 66 [.slice a len cap, .int .i64 (s0 + pre.length), .int .i64 (wdF pre)] ∧ Bys w a len (l.drop (wdF pre)) ∧ len ≤ cap ∧ cap ≤ maxLen ∧
    scz l s0 = pre.map Fr.sd ++ scz (l.drop (wdF pre)) (s0 + pre.length) ∧ wdF pre ≤ l.length ∧ (pre ≠ [] → 1 ≤ s0 ∧ s0 + pre.length ≤ 4611686018427387905)

theorem dat.cks {B : Nat} {W W' : World} {x : Fr} {r : Option Nat} (h : dat B W x) (hc : Cks r W W') (hr : ∀ k, r = some k → ∃ t cs, t ≠ 5 ∧ Row W k t cs) : dat B W' x := by
  obtain ⟨h1, h2, h3, cur, h4, h5⟩ := h
  refine ⟨h1, h2, h3, cur, h4.cks hc ?_, h5⟩
  intro e
  obtain ⟨t, cs, ht, hk⟩ := hr _ e.symm
  exact h4.ne hk (fun e => ht e.symm) rfl
theorem ListAt.cks {B Ln : Nat} {W W' : World} {pre : List Fr} {r : Option Nat} (h : ListAt B Ln W pre) (hc : Cks r W W') (hr : ∀ k, r = some k → ∃ t cs, t ≠ 5 ∧ t ≠ 28 ∧ t ≠ 38 ∧ Row W k t cs) : ListAt B Ln W' pre := by
  obtain ⟨v, h1, ⟨h2, h3⟩, h4⟩ := h
  refine ⟨v, h1.cks hc ?_, ⟨h2, ?_⟩, fun x hx => (h4 x hx).cks hc (fun k e => by obtain ⟨t, cs, a, _, _, b⟩ := hr k e; exact ⟨t, cs, a, b⟩)⟩
  · intro e
    obtain ⟨t, cs, _, _, ht, hk⟩ := hr _ e.symm
    exact h1.ne hk (fun e => ht e.symm) rfl
  · rcases h3 with h3 | ⟨g, cap, cur, hv, hB, hg, rest⟩
    · exact .inl h3
    · refine .inr ⟨g, cap, cur, hv, hB, hc g _ _ ?_ hg, rest⟩
      intro e
      obtain ⟨t, cs, _, ht, _, hk⟩ := hr _ e.symm
      have hg' : Row W g 28 cur.toList := by unfold Row; simpa using hg
      exact hg'.ne hk (fun e => ht e.symm) rfl
theorem RunAt.cks {w : World} {l : List UInt8} {s0 : Int} {Rn : Nat} {W W' : World} {pre : List Fr} {r : Option Nat} (h : RunAt w l s0 Rn W pre) (hc : Cks r W W') (hr : some Rn ≠ r) : RunAt w l s0 Rn W' pre := by
  obtain ⟨a, len, cap, h1, rest⟩ := h
  exact ⟨a, len, cap, h1.cks hc hr, rest⟩

end Go.Proofs.Ythmoapigjafijaa.Frm
