/- Several texts as one: IsoLst, IsoLst2, IsoLarge, IsoAlive. -/
import Derived.Test.YtaflbooofchimaaGreatDoorJ23IsoTop
import Derived.Test.YtaflbooofchimaaGreatDoorJGraphCan
import Derived.Deep.RegionLaw
import Derived.Laws.OwnMore
import Derived.BigRegion
import Derived.Test.YtaflbooofchimaaGreatDoorJ10GraphDif
section
/- The law's list, by its contract. -/
namespace Go.Proofs.YtaflbooofchimaaGreatDoor.Alk
open Utf Rws Pln Flw Grp
open Go.RowKit Go.Shelf
set_option linter.unusedSimpArgs false
set_option linter.unusedVariables false
set_option maxRecDepth 100000
set_option maxHeartbeats 4000000

def ncs (l : List (Nd × Value)) : List Value := l.flatMap fun p => [.int .i64 p.1.kind, .string (mk p.1.text), p.2]
theorem ncs_app (l m : List (Nd × Value)) : ncs (l ++ m) = ncs l ++ ncs m := by unfold ncs; rw [List.flatMap_append]
theorem ncs_len (l : List (Nd × Value)) : (ncs l).length = l.length * 3 := by
  induction l with
  | nil => rfl
  | cons p t ih =>
    have e : ncs (p :: t) = [.int .i64 p.1.kind, .string (mk p.1.text), p.2] ++ ncs t := rfl
    rw [e, List.length_append, ih, List.length_cons]
    simp only [List.length_cons, List.length_nil]
    omega
theorem ncs_get : ∀ (l : List (Nd × Value)) (i : Nat) (p : Nd × Value), l[i]? = some p → (ncs l)[i * 3]? = some (.int .i64 p.1.kind) ∧ (ncs l)[i * 3 + 1]? = some (.string (mk p.1.text)) ∧ (ncs l)[i * 3 + 2]? = some p.2
  | [], i, p, h => by cases h
  | q :: t, 0, p, h => by
    simp only [List.getElem?_cons_zero, Option.some.injEq] at h
    subst h
    exact ⟨rfl, rfl, rfl⟩
  | q :: t, i + 1, p, h => by
    have := ncs_get t i p (by simpa using h)
    have e : ncs (q :: t) = [.int .i64 q.1.kind, .string (mk q.1.text), q.2] ++ ncs t := rfl
    rw [e]
    refine ⟨?_, ?_, ?_⟩
    · rw [List.getElem?_append_right (by simp; omega)]
      simp only [List.length_cons, List.length_nil]
      rw [show (i + 1) * 3 - (0 + 1 + 1 + 1) = i * 3 by omega]; exact this.1
    · rw [List.getElem?_append_right (by simp; omega)]
      simp only [List.length_cons, List.length_nil]
      rw [show (i + 1) * 3 + 1 - (0 + 1 + 1 + 1) = i * 3 + 1 by omega]; exact this.2.1
    · rw [List.getElem?_append_right (by simp; omega)]
      simp only [List.length_cons, List.length_nil]
      rw [show (i + 1) * 3 + 2 - (0 + 1 + 1 + 1) = i * 3 + 2 by omega]; exact this.2.2
theorem own_keep {base : Nat} {e : TypeId} {size : Nat} {v : Value} {n : Nat} {xs : List Value} {w w' : World} (h : w.ownsRow base e size v n xs) (hk : ∀ g, v.ownBlock = some g → w'.heap[g]? = w.heap[g]?) : w'.ownsRow base e size v n xs := by
  refine ⟨h.1, ?_⟩
  rcases h.2 with h2 | ⟨g, cap, cur, rfl, hb, hg, h3⟩
  · exact .inl h2
  · exact .inr ⟨g, cap, cur, rfl, hb, (hk g rfl).trans hg, h3⟩
theorem own_block {base : Nat} {e : TypeId} {size : Nat} {v : Value} {n : Nat} {xs : List Value} {w : World} (h : w.ownsRow base e size v n xs) {g : Nat} (hg : v.ownBlock = some g) : base ≤ g ∧ g < w.heap.size := by
  rcases h.2 with ⟨rfl, _⟩ | ⟨g', cap, cur, rfl, hb, hh, _⟩
  · cases hg
  · cases hg
    exact ⟨hb, (Array.getElem?_eq_some_iff.1 hh).1⟩
theorem own_shapeN {base : Nat} {e : TypeId} {size : Nat} {v : Value} {n : Nat} {xs : List Value} {w : World} (h : w.ownsRow base e size v n xs) : ∃ ad cap, v = .slice ad n cap ∧ n ≤ cap ∧ cap ≤ maxLen := by
  rcases h.2 with ⟨rfl, rfl⟩ | ⟨g', cap, cur, rfl, hb, hh, h3, h4, _⟩
  · exact ⟨none, 0, rfl, Nat.le_refl _, Nat.zero_le _⟩
  · exact ⟨_, cap, rfl, h3, h4⟩
theorem step_append_at {P : Program} {ops : Array Oper} {o : Oper} {a : Act} {w : World} {K : Act → World → Prop} {Q : Exit → Act → World → Prop} {E : Prop}
    (hg : o.guard = none) (s x : Operand) (t : TypeId) (hop : o.op = Op.call { callee := Callee.builtin Builtin.append, args := #[s, x], argTypes := #[t, t] }) (base : Nat)
    (e : TypeId) (i : TypeInfo) (z : Value) (size bytes : Nat) (h1 : P.underlying t = some (.slice e)) (h2 : P.info? e = some i) (h3 : i.zero = some z) (h4 : i.size = size) (h5 : i.bytes = bytes) (h6 : z.cells.size = size) (h7 : 0 < size)
    (v : Value) (n : Nat) (xs : List Value) (hs : a.eval s = v) (hown : w.ownsRow base e size v n xs)
    (ad : Addr) (m c : Nat) (news : List Value) (hx : a.eval x = .slice (some ad) m c) (hn : news.length = m * size) (hc : ∀ j u, news[j]? = some u → w.cell? (ad.add j) = some u) (h1c : ∀ u ∈ news, u.oneCell' = true)
    (b1 : n + m ≤ maxLen) (b2 : (n + m) * bytes ≤ 140737488355328) (hbase : base ≤ w.heap.size)
    (hK : ∀ v' w', w'.ownsRow base e size v' (n + m) (xs ++ news) → w.grownBy w' v.ownBlock → (v'.ownBlock = v.ownBlock ∨ v'.ownBlock = some w.heap.size) → K (a.put o.dst v') w') :
    if Region.wanted o (yielded ops a.tmps) = true then Oper.wp P o a w K Q else E := by
  have hw : Region.wanted o (yielded ops a.tmps) = true := by simp [Region.wanted, hg]
  rw [if_pos hw]
  obtain ⟨v', w', hrun, r1, r2, _, r4⟩ := run_append_own_at (P := P) w base t o.type e i z size bytes h1 h2 h3 h4 h5 h6 h7 v n xs hown ad m c news hn hc h1c b1 b2 hbase
  unfold Oper.wp
  simp [execOp, hop, resolve, invoke, builtin, hs, hx, hrun, Result.andThen]
  exact hK v' w' r1 r2 r4
theorem cell_three {w : World} {S : Nat} (hS : w.heap.size = S) (a b c : Value) (t : TypeId) : ∀ j u, [a, b, c][j]? = some u → (w.alloc (.cells #[a, b, c] t)).cell? ((⟨S, 0, none⟩ : Addr).add j) = some u := by
  intro j u hj
  subst hS
  have e : (⟨w.heap.size, 0, none⟩ : Addr).add j = ⟨w.heap.size, j, none⟩ := by simp [Addr.add]; intro h; exact h.symm
  rw [e, World.cell?_alloc_new]
  match j, hj with
  | 0, h => exact h
  | 1, h => exact h
  | 2, h => exact h
  | (_ + 3), h => simp at h
/-- a graph's nodes under way -/
structure LsS (w W : World) (K2 K3 : Nat) (nv : Value) (l : List (Nd × Value)) : Prop where
  r : Bx W K2 #[.slice none 0 0, .int .i64 0] 24
  g : Bx W K3 #[nv, .int .i64 0] 24
  ow : W.ownsRow (K3 + 1) 35 3 nv l.length (ncs l)
  kk : ∀ p ∈ l, ∃ b q, p = (⟨5, [], [q]⟩, .slice (some ⟨b, 0, none⟩) 1 1) ∧ i64 q ∧ Bx W b #[.int .i64 q] 3
  bl : Below w.heap.size w W
  h2 : w.heap.size ≤ K2
  h3 : K2 < K3
theorem ob_ne {W : World} {base n b : Nat} {nv : Value} {xs : List Value} {cs : Array Value} (h : W.ownsRow base 35 3 nv n xs) (hb : Bx W b cs 3) : some b ≠ nv.ownBlock := by
  rcases h.2 with ⟨rfl, _⟩ | ⟨g', cap, cur, rfl, h1, hg, _⟩
  · intro e; cases e
  · intro e
    have e : b = g' := by simpa [Value.ownBlock] using e
    subst e
    have h9 := hg.symm.trans hb
    injection h9 with h9
    injection h9 with _ h9
    exact absurd h9 (by decide)
/-- two new blocks -/
theorem two_al (wr : World) (q : Int) (o : Obj) : ((wr.alloc (.cells #[.int .i64 q] 3)).alloc o).drew.heap.size = wr.heap.size + 1 + 1 ∧ Below wr.heap.size wr ((wr.alloc (.cells #[.int .i64 q] 3)).alloc o).drew ∧ Bx ((wr.alloc (.cells #[.int .i64 q] 3)).alloc o).drew wr.heap.size #[.int .i64 q] 3 := by
  have s1 : (wr.alloc (.cells #[.int .i64 q] 3)).heap.size = wr.heap.size + 1 := World.size_alloc _ _
  have x1 : Below wr.heap.size wr (wr.alloc (.cells #[.int .i64 q] 3)) := below_alloc wr _
  have n1 : Bx (wr.alloc (.cells #[.int .i64 q] 3)) wr.heap.size #[.int .i64 q] 3 := Bx.new wr _ _
  generalize wr.alloc (.cells #[.int .i64 q] 3) = A1 at *
  have x2 := below_alloc A1 o
  have s2 : (A1.alloc o).heap.size = wr.heap.size + 1 + 1 := by rw [World.size_alloc, s1]
  have n2 := n1.later x2
  have y2 := x1.trans (x2.mono x1.size)
  exact ⟨s2, y2.drew, n2.later (Below.refl _ _).drew⟩
theorem LsS.step {w wr A2 eW : World} {K2 K3 : Nat} {nv ev : Value} {l : List (Nd × Value)} {q : Int} (h : LsS w wr K2 K3 nv l) (hq : i64 q) (hA : A2.heap.size = wr.heap.size + 1 + 1 ∧ Below wr.heap.size wr A2 ∧ Bx A2 wr.heap.size #[.int .i64 q] 3)
    (r1 : eW.ownsRow (K3 + 1) 35 3 ev (l.length + 1) (ncs l ++ [.int .i64 5, .string ⟨#[]⟩, .slice (some ⟨wr.heap.size, 0, none⟩) 1 1]))
    (r2 : A2.grownBy eW nv.ownBlock) :
    LsS w (eW.setCell ⟨K3, 0, none⟩ ev) K2 K3 ev (l ++ [(⟨5, [], [q]⟩, .slice (some ⟨wr.heap.size, 0, none⟩) 1 1)]) := by
  obtain ⟨s2, y2, n2⟩ := hA
  have hob : ∀ k, k < K3 + 1 → some k ≠ nv.ownBlock := fun k hk e => by have := (own_block h.ow e.symm).1; omega
  have hkp : ∀ k, k < wr.heap.size → some k ≠ nv.ownBlock → eW.heap[k]? = wr.heap[k]? := fun k h1 h2 => (r2.block k (by omega) h2).trans (y2.block k h1)
  have g3 := h.g.lt
  have h3 := h.h3
  have h2 := h.h2
  have bb : Below w.heap.size w eW := by
    have z1 := h.bl.trans (y2.mono h.bl.size)
    exact z1.grown r2 z1.size (fun k e => by have := (own_block h.ow e).1; omega)
  have hbx : ∀ {k : Nat} {cs : Array Value} {t : TypeId}, Bx wr k cs t → some k ≠ nv.ownBlock → Bx eW k cs t := fun hb hk => (hkp _ hb.lt hk).trans hb
  have r3 := own_keep (w' := eW.setCell ⟨K3, 0, none⟩ ev) r1 (fun g hg => Below.heap_setCell _ _ _ _ (by show g ≠ K3; have := (own_block r1 hg).1; omega))
  refine ⟨(hbx h.r (hob _ (by omega))).other (by omega) _ _, (hbx h.g (hob _ (by omega))).set 0 _, ?_, ?_, bb.setCell (p := ⟨K3, 0, none⟩) (by show w.heap.size ≤ K3; omega) _, h2, h3⟩
  · rw [List.length_append, List.length_singleton, ncs_app]
    exact r3
  · intro p hp
    rcases List.mem_append.1 hp with hp | hp
    · obtain ⟨b, q', e1, e2, e3⟩ := h.kk p hp
      have e4 := hbx e3 (ob_ne h.ow e3)
      refine ⟨b, q', e1, e2, e4.other (fun e => ?_) _ _⟩
      subst e
      have h9 := h.g.symm.trans e3
      injection h9 with h9
      injection h9 with _ h9
      exact absurd h9 (by decide)
    · simp only [List.mem_singleton] at hp
      refine ⟨_, q, hp, hq, ?_⟩
      have e4 : Bx eW wr.heap.size #[.int .i64 q] 3 := (r2.block _ (by omega) (fun e => by have := (own_block h.ow e.symm).2; omega)).trans n2
      exact e4.other (by omega) _ _
end Go.Proofs.YtaflbooofchimaaGreatDoor.Alk
end

section
/- The law's list at 1 and at 2, by its contract. -/
namespace Go.Proofs.YtaflbooofchimaaGreatDoor.Alk
open Utf Rws Pln Flw Grp
open Go.RowKit Go.Shelf
set_option linter.unusedSimpArgs false
set_option linter.unusedVariables false
set_option maxRecDepth 100000
set_option maxHeartbeats 4000000
attribute [local go_sem ↓] Go.wp_at_zero Go.wp_at_succ


theorem LsS.fin {w W : World} {K2 K3 : Nat} {nv a b : Value} {l : List (Nd × Value)} (h : LsS w W K2 K3 nv l) : Bx ((W.setCell ⟨K2, 0, none⟩ a).setCell ⟨K2, 1, none⟩ b) K2 #[a, b] 24 ∧ ((W.setCell ⟨K2, 0, none⟩ a).setCell ⟨K2, 1, none⟩ b).ownsRow (K3 + 1) 35 3 nv l.length (ncs l) ∧ (∀ p ∈ l, ∃ b' q, p = (⟨5, [], [q]⟩, .slice (some ⟨b', 0, none⟩) 1 1) ∧ i64 q ∧ Bx ((W.setCell ⟨K2, 0, none⟩ a).setCell ⟨K2, 1, none⟩ b) b' #[.int .i64 q] 3) ∧ Below w.heap.size w ((W.setCell ⟨K2, 0, none⟩ a).setCell ⟨K2, 1, none⟩ b) := by
  have h3 := h.h3
  refine ⟨(h.r.set 0 a).set 1 b, ?_, ?_, (h.bl.setCell (p := ⟨K2, 0, none⟩) h.h2 _).setCell (p := ⟨K2, 1, none⟩) h.h2 _⟩
  · exact own_keep h.ow (fun g hg => by
      have := (own_block h.ow hg).1
      rw [Below.heap_setCell _ _ _ _ (by show g ≠ K2; omega), Below.heap_setCell _ _ _ _ (by show g ≠ K2; omega)])
  · intro p hp
    obtain ⟨b', q, e1, e2, e3⟩ := h.kk p hp
    have hne : b' ≠ K2 := fun e => by
      subst e
      have h9 := h.r.symm.trans e3
      injection h9 with h9
      injection h9 with _ h9
      exact absurd h9 (by decide)
    exact ⟨b', q, e1, e2, (e3.other hne _ _).other hne _ _⟩
theorem own_nat {W : World} {base n cap : Nat} {ad : Option Addr} {l : List (Nd × Value)} (hn : n = l.length) (h : W.ownsRow base 35 3 (.slice ad n cap) l.length (ncs l)) (hk : ∀ p ∈ l, ∃ b' q, p = (⟨5, [], [q]⟩, .slice (some ⟨b', 0, none⟩) 1 1) ∧ i64 q ∧ Bx W b' #[.int .i64 q] 3) : NAt W ad n (l.map Prod.fst) := by
  refine ⟨by rw [List.length_map]; exact hn, fun hp => ?_⟩
  rcases h.2 with ⟨h1, h2⟩ | ⟨g, cp, cur, h1, hbg, hg, hnc, hcm, hcs, htk⟩
  · cases h1; omega
  · cases h1
    refine ⟨g, 0, rfl, (Array.getElem?_eq_some_iff.1 hg).1, fun i hi => ?_⟩
    have hil : i < l.length := by omega
    obtain ⟨b', q, e1, e2, e3⟩ := hk _ (List.getElem_mem hil)
    have ge : l[i]? = some l[i] := List.getElem?_eq_getElem hil
    obtain ⟨c0, c1, c2⟩ := ncs_get l i _ ge
    have gd : (l.map Prod.fst).getD i nd0 = ⟨5, [], [q]⟩ := by rw [List.getD_eq_getElem?_getD, List.getElem?_map, ge, e1]; rfl
    rw [e1] at c0 c1 c2
    have ea : ∀ k, ((⟨g, 0, none⟩ : Addr).add k) = ⟨g, 0 + k, none⟩ := fun k => by simp [Addr.add]; intro h; exact h.symm
    have d0 := h.cells (g := g) rfl _ _ c0
    have d1 := h.cells (g := g) rfl _ _ c1
    have d2 := h.cells (g := g) rfl _ _ c2
    rw [ea] at d0 d1 d2
    rw [gd]
    refine ⟨some ⟨b', 0, none⟩, 1, 1, Nat.le_refl _, by unfold maxLen; omega, show i64 5 from ⟨by decide, by decide⟩, by simp, ⟨rfl, fun _ => ⟨b', 0, rfl, e3.lt, fun i hi => ?_⟩⟩, d0, d1, d2⟩
    obtain rfl : i = 0 := by omega
    exact ⟨e2, e3.cell 0⟩
/-- a list that holds its next one, and the last one the first -/
def lsN (n : Nat) : List Nd := (List.range n).map fun i => ⟨5, [], [(((i + 1) % n : Nat) : Int)]⟩
theorem LsS.new (w : World) : LsS w ((w.alloc (.cells #[.slice none 0 0, .int .i64 0] 24)).alloc (.cells #[.slice none 0 0, .int .i64 0] 24)) w.heap.size (w.heap.size + 1) (.slice none 0 0) [] := by
  have h1 := TwS.new w (.slice none 0 0) (.int .i64 0) (.slice none 0 0) (.int .i64 0)
  exact ⟨h1.a, h1.b, ⟨rfl, .inl ⟨rfl, rfl⟩⟩, (fun p hp => by cases hp), h1.bl, Nat.le_refl _, by omega⟩
theorem keep3b {w wr A2 eW : World} {K2 K3 : Nat} {nv : Value} {l : List (Nd × Value)} (h : LsS w wr K2 K3 nv l) (hA : Below wr.heap.size wr A2) (r2 : A2.grownBy eW nv.ownBlock) : Bx eW K3 #[nv, .int .i64 0] 24 := by
  have := h.g.lt
  have := hA.size
  exact (r2.block K3 (by omega) (fun e => by have := (own_block h.ow e.symm).1; omega)).trans ((hA.block K3 h.g.lt).trans h.g)
theorem list_1 {w : World} : Calls Tryz.prog 21 #[.int .i64 1] w fun e W' => ∃ ad len cap, e = .returned (gv ad len cap 0) ∧ Hid (GrV W' (gv ad len cap 0) ⟨lsN 1, 0⟩) ∧ Hid (Below w.heap.size w W') := by
  have h0 : Hid (LsS w _ w.heap.size (w.heap.size + 1) (.slice none 0 0) []) := LsS.new w
  obtain ⟨i0, hi, hz0, hz1, hz2⟩ := info_parts Tryz.infoNode
  go_enter Tryz.func21, Tryz.ntmps21
  go_wp2_with fail
  generalize (w.alloc (.cells #[.slice none 0 0, .int .i64 0] 24)).alloc (.cells #[.slice none 0 0, .int .i64 0] 24) = W0 at h0 ⊢
  obtain ⟨K3, HK3⟩ : ∃ K3, Hid (K3 = w.heap.size + 1) := ⟨_, rfl⟩
  obtain ⟨K2, HK2⟩ : ∃ K2, Hid (K2 = w.heap.size) := ⟨_, rfl⟩
  rw [← HK3.out, ← HK2.out]
  rw [← HK3.out, ← HK2.out] at h0
  clear HK2 HK3
  go_loopw [6] (fun i wr => ∃ (j : Nat) (nv : Value) (l : List (Nd × Value)), j ≤ 1 ∧ i = .int .i64 (j : Int) ∧ l.map Prod.fst = (lsN 1).take j ∧ Hid (LsS w wr K2 K3 nv l)) (fun i _ => 1 - (intOf i).toNat)
  case atStart => exact ⟨0, _, [], by omega, rfl, rfl, h0⟩
  case round =>
    obtain ⟨j, nv, l, hj, rfl, HL, HS⟩ := hrel
    have HL : Hid (l.map Prod.fst = (lsN 1).take j) := HL
    clear h0
    by_cases hlt : j < 1
    ·
      obtain rfl : j = 0 := by omega
      have hll : Hid (l.length = 0) := by show _ = _; have := congrArg List.length HL.out; rw [List.length_map] at this; exact this
      have hi64 : i64 (0 : Int) := ⟨by decide, by decide⟩
      go_upto_region 5 with fail
      obtain ⟨na, nc, rfl, _, _⟩ := own_shapeN HS.out.ow
      have g0 : wr.cell? ⟨K3, 0, none⟩ = some (.slice na l.length nc) := HS.out.g.cell 0
      have hlm : l.length ≤ 2 := by have := hll.out; omega
      have HO : Hid (wr.ownsRow (K3 + 1) 35 3 (.slice na l.length nc) l.length (ncs l)) := HS.out.ow
      have hk3 : K3 < wr.heap.size := HS.out.g.lt
      go_region_law (refine step_append_at rfl (.tmp 10) (.tmp 17) 22 rfl (K3 + 1) 35 i0 (.agg #[.int .i64 0, .string ⟨#[]⟩, .slice none 0 0]) 3 48 Tryz.underNodes hi hz0 hz1 hz2 rfl (by decide) (.slice na l.length nc) l.length (ncs l) (by simp [Act.eval, Act.put]) (show World.ownsRow _ _ _ _ _ _ _ from (HO.out.alloc (.cells #[.int .i64 0] 3)).alloc (.cells #[.int .i64 5, .string ⟨#[]⟩, .slice (some ⟨wr.heap.size, 0, none⟩) 1 1] 35)) ⟨wr.heap.size + 1, 0, none⟩ 1 1 [.int .i64 5, .string ⟨#[]⟩, .slice (some ⟨wr.heap.size, 0, none⟩) 1 1] (by simp [Act.eval, Act.put]) rfl (fun j u hj => cell_three (w := wr.alloc (.cells #[.int .i64 0] 3)) (World.size_alloc _ _) _ _ _ _ j u hj) (fun u hu => by simp only [List.mem_cons, List.not_mem_nil, or_false] at hu; rcases hu with rfl | rfl | rfl <;> rfl) (by unfold maxLen; omega) (by omega) (Nat.le_trans (by omega : K3 + 1 ≤ wr.heap.size + 1 + 1) (Nat.le_of_eq (two_al wr 0 _).1.symm)) ?_; intro ev eW r1 r2 r3; have HX := HS.out.step (q := 0) hi64 (two_al wr 0 _) r1 r2; obtain ⟨va, vc, rfl, _, _⟩ := own_shapeN r1; have e0 : eW.cell? ⟨K3, 0, none⟩ = some (.slice na l.length nc) := (keep3b HS.out (two_al wr 0 _).2.1 r2).cell 0; have z3 : eW.frozen? ⟨K3, 0, none⟩ = false := (keep3b HS.out (two_al wr 0 _).2.1 r2).fz 0)
      all_goals
        have HY : Hid (LsS w (eW.setCell ⟨K3, 0, none⟩ (.slice va (l.length + 1) vc)) K2 K3 (.slice va (l.length + 1) vc) (l ++ [(⟨5, [], [0]⟩, .slice (some ⟨wr.heap.size, 0, none⟩) 1 1)])) := HX
        clear HX r1 r2 r3 HS HO g0 e0 z3
        generalize eW.setCell ⟨K3, 0, none⟩ (.slice va (l.length + 1) vc) = W8 at HY ⊢
        go_wp2
        go_roundw
        case rel => exact ⟨1, _, _, by omega, by go_num, by rw [List.map_append, HL.out]; rfl, HY⟩
        case measure => simp [intOf]

    · obtain rfl : j = 1 := by omega
      have hll : Hid (l.length = 1) := by show _ = _; have := congrArg List.length HL.out; rw [List.length_map] at this; exact this
      obtain ⟨na, nc, rfl, hc1, hc2⟩ := own_shapeN HS.out.ow
      have HZ : Hid (_ ∧ _ ∧ _ ∧ _) := HS.out.fin (a := .slice na l.length nc) (b := .int .i64 0)
      have HN : Hid (NAt _ _ _ _) := own_nat rfl HZ.out.2.1 HZ.out.2.2.1
      have g0 : wr.cell? ⟨K3, 0, none⟩ = some (.slice na l.length nc) := HS.out.g.cell 0
      have g1 : wr.cell? ⟨K3, 1, none⟩ = some (.int .i64 0) := HS.out.g.cell 1
      have r0 : wr.cell? ⟨K2, 0, none⟩ = some (.slice none 0 0) := HS.out.r.cell 0
      have r1 : wr.cell? ⟨K2, 1, none⟩ = some (.int .i64 0) := HS.out.r.cell 1
      have z0 := HS.out.r.fz 0
      have z1 := HS.out.r.fz 1
      clear HS
      go_wp2
      generalize (wr.setCell ⟨K2, 0, none⟩ (.slice na l.length nc)).setCell ⟨K2, 1, none⟩ (.int .i64 0) = W9 at HZ HN ⊢
      have c0 : W9.cell? ⟨K2, 0, none⟩ = some (.slice na l.length nc) := HZ.out.1.cell 0
      have c1 : W9.cell? ⟨K2, 1, none⟩ = some (.int .i64 0) := HZ.out.1.cell 1
      refine bodyPost_ret (v := gv na l.length nc 0) (by simp [results, Tryz.results21, go_sem, c0, c1]) rfl ?_
      refine ⟨na, l.length, nc, rfl, ⟨_, _, _, rfl, hc1, hc2, ⟨by decide, by decide⟩, ?_⟩, HZ.out.2.2.2⟩
      have h9 := HN.out
      rw [HL.out] at h9
      exact h9
theorem list_2 {w : World} : Calls Tryz.prog 21 #[.int .i64 2] w fun e W' => ∃ ad len cap, e = .returned (gv ad len cap 0) ∧ Hid (GrV W' (gv ad len cap 0) ⟨lsN 2, 0⟩) ∧ Hid (Below w.heap.size w W') := by
  have h0 : Hid (LsS w _ w.heap.size (w.heap.size + 1) (.slice none 0 0) []) := LsS.new w
  obtain ⟨i0, hi, hz0, hz1, hz2⟩ := info_parts Tryz.infoNode
  go_enter Tryz.func21, Tryz.ntmps21
  go_wp2_with fail
  generalize (w.alloc (.cells #[.slice none 0 0, .int .i64 0] 24)).alloc (.cells #[.slice none 0 0, .int .i64 0] 24) = W0 at h0 ⊢
  obtain ⟨K3, HK3⟩ : ∃ K3, Hid (K3 = w.heap.size + 1) := ⟨_, rfl⟩
  obtain ⟨K2, HK2⟩ : ∃ K2, Hid (K2 = w.heap.size) := ⟨_, rfl⟩
  rw [← HK3.out, ← HK2.out]
  rw [← HK3.out, ← HK2.out] at h0
  clear HK2 HK3
  go_loopw [6] (fun i wr => ∃ (j : Nat) (nv : Value) (l : List (Nd × Value)), j ≤ 2 ∧ i = .int .i64 (j : Int) ∧ l.map Prod.fst = (lsN 2).take j ∧ Hid (LsS w wr K2 K3 nv l)) (fun i _ => 2 - (intOf i).toNat)
  case atStart => exact ⟨0, _, [], by omega, rfl, rfl, h0⟩
  case round =>
    obtain ⟨j, nv, l, hj, rfl, HL, HS⟩ := hrel
    have HL : Hid (l.map Prod.fst = (lsN 2).take j) := HL
    clear h0
    by_cases hlt : j < 2
    ·
      rcases (by omega : j = 0 ∨ j = 1) with rfl | rfl
      · have hll : Hid (l.length = 0) := by show _ = _; have := congrArg List.length HL.out; rw [List.length_map] at this; exact this
        have hi64 : i64 (1 : Int) := ⟨by decide, by decide⟩
        go_upto_region 5 with fail
        obtain ⟨na, nc, rfl, _, _⟩ := own_shapeN HS.out.ow
        have g0 : wr.cell? ⟨K3, 0, none⟩ = some (.slice na l.length nc) := HS.out.g.cell 0
        have hlm : l.length ≤ 2 := by have := hll.out; omega
        have HO : Hid (wr.ownsRow (K3 + 1) 35 3 (.slice na l.length nc) l.length (ncs l)) := HS.out.ow
        have hk3 : K3 < wr.heap.size := HS.out.g.lt
        go_region_law (refine step_append_at rfl (.tmp 10) (.tmp 17) 22 rfl (K3 + 1) 35 i0 (.agg #[.int .i64 0, .string ⟨#[]⟩, .slice none 0 0]) 3 48 Tryz.underNodes hi hz0 hz1 hz2 rfl (by decide) (.slice na l.length nc) l.length (ncs l) (by simp [Act.eval, Act.put]) (show World.ownsRow _ _ _ _ _ _ _ from (HO.out.alloc (.cells #[.int .i64 1] 3)).alloc (.cells #[.int .i64 5, .string ⟨#[]⟩, .slice (some ⟨wr.heap.size, 0, none⟩) 1 1] 35)) ⟨wr.heap.size + 1, 0, none⟩ 1 1 [.int .i64 5, .string ⟨#[]⟩, .slice (some ⟨wr.heap.size, 0, none⟩) 1 1] (by simp [Act.eval, Act.put]) rfl (fun j u hj => cell_three (w := wr.alloc (.cells #[.int .i64 1] 3)) (World.size_alloc _ _) _ _ _ _ j u hj) (fun u hu => by simp only [List.mem_cons, List.not_mem_nil, or_false] at hu; rcases hu with rfl | rfl | rfl <;> rfl) (by unfold maxLen; omega) (by omega) (Nat.le_trans (by omega : K3 + 1 ≤ wr.heap.size + 1 + 1) (Nat.le_of_eq (two_al wr 1 _).1.symm)) ?_; intro ev eW r1 r2 r3; have HX := HS.out.step (q := 1) hi64 (two_al wr 1 _) r1 r2; obtain ⟨va, vc, rfl, _, _⟩ := own_shapeN r1; have e0 : eW.cell? ⟨K3, 0, none⟩ = some (.slice na l.length nc) := (keep3b HS.out (two_al wr 1 _).2.1 r2).cell 0; have z3 : eW.frozen? ⟨K3, 0, none⟩ = false := (keep3b HS.out (two_al wr 1 _).2.1 r2).fz 0)
        all_goals
          have HY : Hid (LsS w (eW.setCell ⟨K3, 0, none⟩ (.slice va (l.length + 1) vc)) K2 K3 (.slice va (l.length + 1) vc) (l ++ [(⟨5, [], [1]⟩, .slice (some ⟨wr.heap.size, 0, none⟩) 1 1)])) := HX
          clear HX r1 r2 r3 HS HO g0 e0 z3
          generalize eW.setCell ⟨K3, 0, none⟩ (.slice va (l.length + 1) vc) = W8 at HY ⊢
          go_wp2
          go_roundw
          case rel => exact ⟨1, _, _, by omega, by go_num, by rw [List.map_append, HL.out]; rfl, HY⟩
          case measure => simp [intOf]
      · have hll : Hid (l.length = 1) := by show _ = _; have := congrArg List.length HL.out; rw [List.length_map] at this; exact this
        have hi64 : i64 (0 : Int) := ⟨by decide, by decide⟩
        go_upto_region 5 with fail
        obtain ⟨na, nc, rfl, _, _⟩ := own_shapeN HS.out.ow
        have g0 : wr.cell? ⟨K3, 0, none⟩ = some (.slice na l.length nc) := HS.out.g.cell 0
        have hlm : l.length ≤ 2 := by have := hll.out; omega
        have HO : Hid (wr.ownsRow (K3 + 1) 35 3 (.slice na l.length nc) l.length (ncs l)) := HS.out.ow
        have hk3 : K3 < wr.heap.size := HS.out.g.lt
        go_region_law (refine step_append_at rfl (.tmp 10) (.tmp 17) 22 rfl (K3 + 1) 35 i0 (.agg #[.int .i64 0, .string ⟨#[]⟩, .slice none 0 0]) 3 48 Tryz.underNodes hi hz0 hz1 hz2 rfl (by decide) (.slice na l.length nc) l.length (ncs l) (by simp [Act.eval, Act.put]) (show World.ownsRow _ _ _ _ _ _ _ from (HO.out.alloc (.cells #[.int .i64 0] 3)).alloc (.cells #[.int .i64 5, .string ⟨#[]⟩, .slice (some ⟨wr.heap.size, 0, none⟩) 1 1] 35)) ⟨wr.heap.size + 1, 0, none⟩ 1 1 [.int .i64 5, .string ⟨#[]⟩, .slice (some ⟨wr.heap.size, 0, none⟩) 1 1] (by simp [Act.eval, Act.put]) rfl (fun j u hj => cell_three (w := wr.alloc (.cells #[.int .i64 0] 3)) (World.size_alloc _ _) _ _ _ _ j u hj) (fun u hu => by simp only [List.mem_cons, List.not_mem_nil, or_false] at hu; rcases hu with rfl | rfl | rfl <;> rfl) (by unfold maxLen; omega) (by omega) (Nat.le_trans (by omega : K3 + 1 ≤ wr.heap.size + 1 + 1) (Nat.le_of_eq (two_al wr 0 _).1.symm)) ?_; intro ev eW r1 r2 r3; have HX := HS.out.step (q := 0) hi64 (two_al wr 0 _) r1 r2; obtain ⟨va, vc, rfl, _, _⟩ := own_shapeN r1; have e0 : eW.cell? ⟨K3, 0, none⟩ = some (.slice na l.length nc) := (keep3b HS.out (two_al wr 0 _).2.1 r2).cell 0; have z3 : eW.frozen? ⟨K3, 0, none⟩ = false := (keep3b HS.out (two_al wr 0 _).2.1 r2).fz 0)
        all_goals
          have HY : Hid (LsS w (eW.setCell ⟨K3, 0, none⟩ (.slice va (l.length + 1) vc)) K2 K3 (.slice va (l.length + 1) vc) (l ++ [(⟨5, [], [0]⟩, .slice (some ⟨wr.heap.size, 0, none⟩) 1 1)])) := HX
          clear HX r1 r2 r3 HS HO g0 e0 z3
          generalize eW.setCell ⟨K3, 0, none⟩ (.slice va (l.length + 1) vc) = W8 at HY ⊢
          go_wp2
          go_roundw
          case rel => exact ⟨2, _, _, by omega, by go_num, by rw [List.map_append, HL.out]; rfl, HY⟩
          case measure => simp [intOf]

    · obtain rfl : j = 2 := by omega
      have hll : Hid (l.length = 2) := by show _ = _; have := congrArg List.length HL.out; rw [List.length_map] at this; exact this
      obtain ⟨na, nc, rfl, hc1, hc2⟩ := own_shapeN HS.out.ow
      have HZ : Hid (_ ∧ _ ∧ _ ∧ _) := HS.out.fin (a := .slice na l.length nc) (b := .int .i64 0)
      have HN : Hid (NAt _ _ _ _) := own_nat rfl HZ.out.2.1 HZ.out.2.2.1
      have g0 : wr.cell? ⟨K3, 0, none⟩ = some (.slice na l.length nc) := HS.out.g.cell 0
      have g1 : wr.cell? ⟨K3, 1, none⟩ = some (.int .i64 0) := HS.out.g.cell 1
      have r0 : wr.cell? ⟨K2, 0, none⟩ = some (.slice none 0 0) := HS.out.r.cell 0
      have r1 : wr.cell? ⟨K2, 1, none⟩ = some (.int .i64 0) := HS.out.r.cell 1
      have z0 := HS.out.r.fz 0
      have z1 := HS.out.r.fz 1
      clear HS
      go_wp2
      generalize (wr.setCell ⟨K2, 0, none⟩ (.slice na l.length nc)).setCell ⟨K2, 1, none⟩ (.int .i64 0) = W9 at HZ HN ⊢
      have c0 : W9.cell? ⟨K2, 0, none⟩ = some (.slice na l.length nc) := HZ.out.1.cell 0
      have c1 : W9.cell? ⟨K2, 1, none⟩ = some (.int .i64 0) := HZ.out.1.cell 1
      refine bodyPost_ret (v := gv na l.length nc 0) (by simp [results, Tryz.results21, go_sem, c0, c1]) rfl ?_
      refine ⟨na, l.length, nc, rfl, ⟨_, _, _, rfl, hc1, hc2, ⟨by decide, by decide⟩, ?_⟩, HZ.out.2.2.2⟩
      have h9 := HN.out
      rw [HL.out] at h9
      exact h9
end Go.Proofs.YtaflbooofchimaaGreatDoor.Alk
end

section
/- The law's large, by its contract. -/
namespace Go.Proofs.YtaflbooofchimaaGreatDoor.Grp
open Utf Rws Pln Flw
open Go.RowKit
set_option linter.unusedSimpArgs false
set_option linter.unusedVariables false
set_option maxRecDepth 100000
set_option maxHeartbeats 4000000

def szN (n : Nd) : Nat := min n.kids.length 500 + min n.text.length 2000
def sm (ns : List Nd) : Nat := (ns.map szN).sum
def lgB (ns : List Nd) : Bool := (decide (60 < ns.length) && decide (ns.length ≤ 4096)) || decide (400 < sm (ns.take 60))
theorem sm_snoc (ns : List Nd) (j : Nat) (h : j < ns.length) : sm (ns.take (j + 1)) = sm (ns.take j) + szN (ns.getD j nd0) := by
  rw [List.take_succ_eq_append_getElem h, List.getD_eq_getElem?_getD, List.getElem?_eq_getElem h, sm, List.map_append, List.sum_append]
  show _ + (szN ns[j] + 0) = _
  rfl
theorem sm_le (ns : List Nd) : sm ns ≤ ns.length * 2500 := by
  induction ns with
  | nil => simp [sm]
  | cons n t ih =>
    have e : sm (n :: t) = szN n + sm t := by simp [sm]
    have : szN n ≤ 2500 := by unfold szN; omega
    rw [e, List.length_cons]
    omega
theorem sm_mem {ns : List Nd} {n : Nd} (h : n ∈ ns) : szN n ≤ sm ns := by
  induction ns with
  | nil => cases h
  | cons m t ih =>
    have e : sm (m :: t) = szN m + sm t := by simp [sm]
    rcases List.mem_cons.1 h with rfl | h
    · omega
    · have := ih h; omega
theorem sumK_sm {ns : List Nd} (h : ∀ n ∈ ns, n.kids.length < 500) : sumK ns ≤ sm ns := by
  induction ns with
  | nil => simp [sumK, sm]
  | cons m t ih =>
    have e : sm (m :: t) = szN m + sm t := by simp [sm]
    have e2 : sumK (m :: t) = m.kids.length + sumK t := by simp [sumK]
    have h1 := ih (fun n hn => h n (List.mem_cons_of_mem _ hn))
    have h2 := h m (by simp)
    have h3 : m.kids.length ≤ szN m := by unfold szN; omega
    omega
/-- what is not large is small -/
theorem lgB_sml {ns : List Nd} (h : lgB ns = false) : Sml ns := by
  intro hl
  unfold lgB at h
  rw [Bool.or_eq_false_iff, Bool.and_eq_false_iff, decide_eq_false_iff_not, decide_eq_false_iff_not, decide_eq_false_iff_not] at h
  have h3 : ns.length ≤ 60 := by omega
  rw [List.take_of_length_le h3] at h
  have hb : ∀ n ∈ ns, n.text.length ≤ 400 ∧ n.kids.length ≤ 400 := fun n hn => by
    have := sm_mem hn
    unfold szN at this
    omega
  refine ⟨fun n hn => by have := (hb n hn).1; omega, ?_⟩
  have := sumK_sm (fun n hn => by have := (hb n hn).2; omega : ∀ n ∈ ns, n.kids.length < 500)
  omega
theorem large_core {w : World} {ad : Option Addr} {len cap : Nat} {r : Int} {ns : List Nd} (hN : NAt w ad len ns) (hc : len ≤ cap) (hm : cap ≤ maxLen) :
    Calls Tryz.prog 5 #[gv ad len cap r] w fun e w' => e = .returned (.bool (lgB ns)) ∧ Below w.heap.size w w' := by
  have HLn : Hid (len = ns.length) := hN.1
  have HN : Hid (NAt w ad len ns) := hN
  have hcm : cap ≤ 9223372036854775807 := hm
  have h0 : RS w (w.alloc (.cells #[.slice ad len cap, .int .i64 r] 24)) w.heap.size (.slice ad len cap) (.int .i64 r) := ⟨Bx.new _ _ _, below_alloc _ _⟩
  obtain ⟨q, HQ⟩ : ∃ q, Hid (q = lgB ns) := ⟨_, rfl⟩
  rw [← HQ.out]
  clear hN hm
  go_enter Tryz.func5, Tryz.ntmps5
  go_upto_region 2 with fail
  generalize w.alloc (.cells #[.slice ad len cap, .int .i64 r] 24) = W0 at h0 ⊢
  generalize w.heap.size = K0 at h0 ⊢
  obtain ⟨c0, c1⟩ := h0.g.c2
  go_wp2_with fail
  obtain ⟨M, HM⟩ : ∃ M : Nat, Hid (M = min len 60) := ⟨_, rfl⟩
  rw [show max (min (len : Int) 60) 0 = (M : Int) by have := HM.out; omega, show (min (len : Int) 60).toNat = M by have := HM.out; omega, show min (len : Int) 60 = (M : Int) by have := HM.out; omega]
  clear c0 c1
  have hM3 : M ≤ 60 := by have := HM.out; omega
  have hMl : M ≤ len := by have := HM.out; omega
  go_loopw [3, 14] (fun n i wr => ∃ j : Nat, j ≤ M ∧ i = .int .i64 j ∧ n = .int .i64 (sm (ns.take j) : Int) ∧ Hid (RS w wr K0 (.slice ad len cap) (.int .i64 r))) (fun _ i _ => M - (intOf i).toNat)
  case atStart => exact ⟨0, Nat.zero_le _, rfl, rfl, h0⟩
  case round =>
    obtain ⟨j, hj, rfl, rfl, HS⟩ := hrel
    clear h0
    have hsm : sm (ns.take j) ≤ 150000 := by
      have h1 := sm_le (ns.take j)
      have h2 : (ns.take j).length ≤ j := List.length_take_le _ _
      omega
    by_cases hlt : j < M
    · have hjl : j < ns.length := by have := HLn.out; omega
      obtain ⟨b, off, rfl, hb, hcc⟩ := HN.out.2 (by omega)
      obtain ⟨kad, klen, kcap, hk1, hk2, _, hx, hI, y0, y1, y2⟩ := hcc j (by omega)
      have HSM := sm_snoc ns j hjl
      generalize ns.getD j nd0 = nd at *
      obtain ⟨nk, nx, nl⟩ := nd
      simp only at y0 y1 y2 hI hx
      have HSM2 : Hid (((sm (ns.take (j + 1)) : Nat) : Int) = (sm (ns.take j) : Int) + (min (klen : Int) 500 + min (nx.length : Int) 2000)) := by
        show _ = _
        rw [HSM]
        unfold szN
        simp only
        rw [← hI.1]
        omega
      have x0 := (HS.out.bl.cell (p := ⟨b, off + j * 3, none⟩) hb).trans y0
      have x1 := (HS.out.bl.cell (p := ⟨b, off + j * 3 + 1, none⟩) hb).trans y1
      have x2 := (HS.out.bl.cell (p := ⟨b, off + j * 3 + 2, none⟩) hb).trans y2
      have hmk : (mk nx).size = nx.length := mk_size nx
      have HNN : Hid (RN w (wr.alloc (.cells #[.int .i64 nk, .string (mk nx), .slice kad klen kcap] 35)) K0 wr.heap.size (.slice (some ⟨b, off, none⟩) len cap) (.int .i64 r) (.int .i64 nk) (.string (mk nx)) (.slice kad klen kcap)) := ⟨HS.out.later (below_alloc _ _), Bx.new _ _ _⟩
      clear hcc y0 y1 y2 hI HSM HS hk1 hk2
      generalize sm (ns.take j) = S at *
      go_upto_region 5 with fail
      generalize wr.alloc (.cells #[.int .i64 nk, .string (mk nx), .slice kad klen kcap] 35) = W1 at HNN ⊢
      generalize wr.heap.size = KK at HNN ⊢
      obtain ⟨d0, d1, d2⟩ := HNN.out.n.c3
      clear x0 x1 x2
      go_wp2
      go_roundw
      case rel => exact ⟨j + 1, by omega, by go_num, by rw [HSM2.out], HNN.out.s⟩
      case measure => simp [intOf]; omega
    · obtain rfl : j = M := by omega
      have HT : Hid (ns.take j = ns.take 60) := by
        show _ = _
        rcases Nat.lt_or_ge len 60 with h | h
        · have e : j = len := by have := HM.out; omega
          rw [List.take_of_length_le (by have := HLn.out; omega), List.take_of_length_le (by have := HLn.out; omega)]
        · have e : j = 60 := by have := HM.out; omega
          rw [e]
      have HQ2 : Hid (q = ((decide (60 < len) && decide (len ≤ 4096)) || decide (400 < sm (ns.take j)))) := by
        show _ = _
        rw [HQ.out, HT.out, HLn.out]; rfl
      obtain ⟨c0, c1⟩ := HS.out.g.c2
      clear HQ HT
      generalize sm (ns.take j) = S at *
      by_cases h1 : 60 < len
      · have h1' : (60 : Int) < (len : Int) := by omega
        by_cases h2 : len ≤ 4096
        · have h2' : (len : Int) ≤ 4096 := by omega
          go_wp2
          go_ret
          exact ⟨by rw [HQ2.out, decide_eq_true h1, decide_eq_true h2]; rfl, HS.out.bl⟩
        · have h2' : ¬ (len : Int) ≤ 4096 := by omega
          by_cases h3 : 400 < S
          · have h3' : (400 : Int) < (S : Int) := by omega
            go_wp2
            go_ret
            exact ⟨by rw [HQ2.out, decide_eq_true h3, Bool.or_true]; rfl, HS.out.bl⟩
          · have h3' : ¬ (400 : Int) < (S : Int) := by omega
            go_wp2
            go_ret
            exact ⟨by rw [HQ2.out, decide_eq_false h2, decide_eq_false h3, Bool.and_false]; rfl, HS.out.bl⟩
      · have h1' : ¬ (60 : Int) < (len : Int) := by omega
        by_cases h3 : 400 < S
        · have h3' : (400 : Int) < (S : Int) := by omega
          go_wp2
          go_ret
          exact ⟨by rw [HQ2.out, decide_eq_true h3, Bool.or_true]; rfl, HS.out.bl⟩
        · have h3' : ¬ (400 : Int) < (S : Int) := by omega
          go_wp2
          go_ret
          exact ⟨by rw [HQ2.out, decide_eq_false h1, decide_eq_false h3]; rfl, HS.out.bl⟩
theorem large_any {w : World} {v : Value} {g : Gr} (h : GrV w v g) : Calls Tryz.prog 5 #[v] w fun e w' => e = .returned (.bool (lgB g.nodes)) ∧ Below w.heap.size w w' := by
  obtain ⟨ad, len, cap, rfl, h1, h2, h3, h4⟩ := h
  exact large_core h4 h1 h2
end Go.Proofs.YtaflbooofchimaaGreatDoor.Grp
end

section
/- The law's alive, by its contract. -/
namespace Go.Proofs.YtaflbooofchimaaGreatDoor.Alk
open Utf Rws Pln Flw Grp
open Go.RowKit Go.Shelf
set_option linter.unusedSimpArgs false
set_option linter.unusedVariables false
set_option maxRecDepth 100000
set_option maxHeartbeats 4000000
attribute [local go_sem ↓] Go.wp_at_zero Go.wp_at_succ


theorem ris_1 : ris (lsN 1) = lsN 1 := by rfl
theorem ris_2 : ris (lsN 2) = lsN 2 := by rfl
theorem rg_1 : rgG ⟨lsN 1, 0⟩ = true := by decide +kernel
theorem rg_2 : rgG ⟨lsN 2, 0⟩ = true := by decide +kernel
theorem sml_1 : Sml (lsN 1) := fun _ => ⟨by decide, by decide⟩
theorem sml_2 : Sml (lsN 2) := fun _ => ⟨by decide, by decide⟩
theorem eq_12 : EqP (lab (ris (lsN 1))) (lab (ris (lsN 2))) (kd (ris (lsN 1))) (kd (ris (lsN 2))) (0 : Int).toNat (0 : Int).toNat := by
  rw [ris_1, ris_2]
  refine ⟨fun x y => x = 0 ∧ y < 2, ?_, rfl, by decide⟩
  rintro x y ⟨rfl, hy⟩
  rcases (by omega : y = 0 ∨ y = 1) with rfl | rfl
  · refine ⟨by decide, by decide, fun i hi => ?_⟩
    have : (kd (lsN 1) 0).length = 1 := by decide
    obtain rfl : i = 0 := by omega
    exact ⟨by decide, by decide⟩
  · refine ⟨by decide, by decide, fun i hi => ?_⟩
    have : (kd (lsN 1) 0).length = 1 := by decide
    obtain rfl : i = 0 := by omega
    exact ⟨by decide, by decide⟩
theorem lk_12 : ¬ LkP (lab (ris (lsN 1))) (lab (ris (lsN 2))) (kd (ris (lsN 1))) (kd (ris (lsN 2))) (0 : Int).toNat (0 : Int).toNat := by
  rw [ris_1, ris_2]
  rintro ⟨R, hB, hO, hR⟩
  have h1 := (hB 0 0 hR).2.2 0 (by decide)
  have e1 : (kd (lsN 1) 0).getD 0 0 = 0 := by decide
  have e2 : (kd (lsN 2) 0).getD 0 0 = 1 := by decide
  rw [e1, e2] at h1
  exact absurd (hO.1 0 0 1 hR h1) (by decide)
theorem lk_22 : LkP (lab (lsN 2)) (lab (lsN 2)) (kd (lsN 2)) (kd (lsN 2)) (0 : Int).toNat (0 : Int).toNat := ⟨_, bis_eq _ _, one_eq, rfl⟩
theorem bres_is {W W' : World} {ok : Bool} {p : Prop} {e : Ending} (h : BRes W ok p e W') (hok : ok = true) (b : Bool) (hb : b = true ↔ p) : e = .returned (.tuple #[.bool b, .int .i64 0]) ∧ Hid (Below W.heap.size W W') := by
  obtain ⟨q, h1, h2, h3⟩ := h
  subst hok
  have : q = b := by
    cases q <;> cases b <;> simp_all
  subst this
  exact ⟨by simpa using h1, h3⟩
theorem alive_any {w : World} (hT : Tb w) : Calls Tryz.prog 6 #[] w fun e w' => e = .returned (.bool true) ∧ Below w.heap.size w w' := by
  have HE : Hid (∀ W a1 l1 c1 a2 l2 c2, GrV W (gv a1 l1 c1 0) ⟨lsN 1, 0⟩ → GrV W (gv a2 l2 c2 0) ⟨lsN 2, 0⟩ → Tb W → Calls Tryz.prog 7 #[gv a1 l1 c1 0, gv a2 l2 c2 0] W fun e W' => e = .returned (.tuple #[.bool true, .int .i64 0]) ∧ Hid (Below W.heap.size W W')) := fun W a1 l1 c1 a2 l2 c2 h1 h2 h3 =>
    (equal_any h1 h2 sml_1 sml_2 h3).mono (fun e W' q => bres_is q (by rw [rg_1, rg_2]; rfl) true ⟨fun _ => eq_12, fun _ => rfl⟩)
  have HL : Hid (∀ W a1 l1 c1 a2 l2 c2, GrV W (gv a1 l1 c1 0) ⟨lsN 1, 0⟩ → GrV W (gv a2 l2 c2 0) ⟨lsN 2, 0⟩ → Tb W → Calls Tryz.prog 9 #[gv a1 l1 c1 0, gv a2 l2 c2 0] W fun e W' => e = .returned (.tuple #[.bool false, .int .i64 0]) ∧ Hid (Below W.heap.size W W')) := fun W a1 l1 c1 a2 l2 c2 h1 h2 h3 =>
    (liked_any h1 h2 sml_1 sml_2 h3).mono (fun e W' q => bres_is q (by rw [rg_1, rg_2]; rfl) false ⟨fun h => absurd h (by decide), fun h => absurd h lk_12⟩)
  have HI : Hid (∀ W a1 l1 c1 a2 l2 c2, GrV W (gv a1 l1 c1 0) ⟨lsN 2, 0⟩ → GrV W (gv a2 l2 c2 0) ⟨lsN 2, 0⟩ → Tb W → Calls Tryz.prog 11 #[gv a1 l1 c1 0, gv a2 l2 c2 0] W fun e W' => e = .returned (.tuple #[.bool true, .int .i64 0]) ∧ Hid (Below W.heap.size W W')) := fun W a1 l1 c1 a2 l2 c2 h1 h2 h3 =>
    (iso_any h1 h2 sml_2 sml_2 h3).mono (fun e W' q => bres_is q (by rw [rg_2]; rfl) true ⟨fun _ => lk_22, fun _ => rfl⟩)
  have HT : Hid (Tb w) := hT
  clear hT
  go_enter Tryz.func6, Tryz.ntmps6
  go_wp2_with fail
  refine list_1.mono ?_
  rintro e w1 ⟨a1, l1, c1, rfl, G1, B1⟩
  go_wp2_with fail
  refine list_2.mono ?_
  rintro e w2 ⟨a2, l2, c2, rfl, G2, B2⟩
  have S2 : Hid (Below w.heap.size w w2) := B1.out.trans (B2.out.mono B1.out.size)
  go_wp2_with fail
  refine (HE.out _ _ _ _ _ _ _ (G1.out.later B2.out (Nat.le_refl _)) G2.out (HT.out.later S2.out)).mono ?_
  rintro e w3 ⟨rfl, B3⟩
  have T1 : Hid (Below w.heap.size w w3) := S2.out.trans (B3.out.mono S2.out.size)
  clear G1 G2 B1 B2 B3 S2
  go_wp2_with fail
  refine list_1.mono ?_
  rintro e w4 ⟨a4, l4, c4, rfl, G4, B4⟩
  go_wp2_with fail
  refine list_2.mono ?_
  rintro e w5 ⟨a5, l5, c5, rfl, G5, B5⟩
  have S5 : Hid (Below w.heap.size w w5) := (T1.out.trans (B4.out.mono T1.out.size)).trans (B5.out.mono (T1.out.trans (B4.out.mono T1.out.size)).size)
  go_wp2_with fail
  refine (HL.out _ _ _ _ _ _ _ (G4.out.later B5.out (Nat.le_refl _)) G5.out (HT.out.later S5.out)).mono ?_
  rintro e w6 ⟨rfl, B6⟩
  have T2 : Hid (Below w.heap.size w w6) := S5.out.trans (B6.out.mono S5.out.size)
  clear G4 G5 B4 B5 B6 S5
  go_wp2_with fail
  refine list_2.mono ?_
  rintro e w7 ⟨a7, l7, c7, rfl, G7, B7⟩
  go_wp2_with fail
  refine list_2.mono ?_
  rintro e w8 ⟨a8, l8, c8, rfl, G8, B8⟩
  have S8 : Hid (Below w.heap.size w w8) := (T2.out.trans (B7.out.mono T2.out.size)).trans (B8.out.mono (T2.out.trans (B7.out.mono T2.out.size)).size)
  go_wp2_with fail
  refine (HI.out _ _ _ _ _ _ _ (G7.out.later B8.out (Nat.le_refl _)) G8.out (HT.out.later S8.out)).mono ?_
  rintro e w9 ⟨rfl, B9⟩
  have T3 : Hid (Below w.heap.size w w9) := S8.out.trans (B9.out.mono S8.out.size)
  clear G7 G8 B7 B8 B9 S8
  go_wp2
  go_ret
  exact ⟨rfl, T3.out⟩
end Go.Proofs.YtaflbooofchimaaGreatDoor.Alk
end
