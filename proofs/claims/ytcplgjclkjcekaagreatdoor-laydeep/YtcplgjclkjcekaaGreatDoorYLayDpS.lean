/- Several texts as one: LayDpS. -/
import Derived.Test.YtcplgjclkjcekaaGreatDoorYLayBkS
import Derived.Test.YtcplgjclkjcekaaGreatDoorYLayChn
import Derived.Test.YtcplgjclkjcekaaGreatDoorY16GraphAnc
import Derived.Test.YtcplgjclkjcekaaGreatDoorYGraphCan
section
/- The lists of LayDeep, as they are made. -/
namespace Go.Proofs.YtcplgjclkjcekaaGreatDoor.Grp
open Utf Rws Pln Flw
open Go.RowKit Go.Shelf
set_option linter.unusedSimpArgs false
set_option linter.unusedVariables false
set_option maxRecDepth 100000
set_option maxHeartbeats 4000000

theorem ob_neN {W : World} {base n b : Nat} {nv : Value} {xs : List Value} {cs : Array Value} (h : W.ownsRow base 52 3 nv n xs) (hb : Bx W b cs 3) : some b ≠ nv.ownBlock := by
  rcases h.2 with ⟨rfl, _⟩ | ⟨g', cap, cur, rfl, h1, hg, _⟩
  · intro e; cases e
  · intro e
    have e : b = g' := by simpa [Value.ownBlock] using e
    subst e
    have h9 := hg.symm.trans hb
    injection h9 with h9
    injection h9 with _ h9
    exact absurd h9 (by decide)
/-- a list's Kids in memory -/
def KI (W : World) (p : Nd × Value) : Prop := (∃ b q, p = (⟨5, [], [q]⟩, .slice (some ⟨b, 0, none⟩) 1 1) ∧ i64 q ∧ Bx W b #[.int .i64 q] 3) ∨ p = (⟨5, [], []⟩, .slice none 0 0)
theorem KI.keep {W W' : World} {p : Nd × Value} (h : KI W p) (hk : ∀ b q, Bx W b #[.int .i64 q] 3 → Bx W' b #[.int .i64 q] 3) : KI W' p := by
  rcases h with ⟨b, q, h1, h2, h3⟩ | h
  · exact .inl ⟨b, q, h1, h2, hk b q h3⟩
  · exact .inr h
theorem KI.later {W W' : World} {p : Nd × Value} (h : KI W p) (hb : Below W.heap.size W W') : KI W' p := h.keep fun b q h => h.later hb
theorem KI.cells {W : World} {p : Nd × Value} (h : KI W p) : ncs [p] = [.int .i64 5, .string ⟨#[]⟩, p.2] := by
  rcases h with ⟨b, q, rfl, _⟩ | rfl <;> rfl
/-- lists under way -/
structure DpS (w W : World) (Kg : Nat) (nv : Value) (l : List (Nd × Value)) : Prop where
  g : Bx W Kg #[nv, .int .i64 0] 24
  ow : W.ownsRow (Kg + 1) 52 3 nv l.length (ncs l)
  kk : ∀ p ∈ l, KI W p
  bl : Below w.heap.size w W
  hk : w.heap.size ≤ Kg
theorem DpS.later {w W W' : World} {Kg : Nat} {nv : Value} {l : List (Nd × Value)} (h : DpS w W Kg nv l) (hb : Below W.heap.size W W') : DpS w W' Kg nv l :=
  ⟨h.g.later hb, own_keep h.ow (fun g hg => hb.block g (own_block h.ow hg).2), fun p hp => (h.kk p hp).later hb, h.bl.trans (hb.mono h.bl.size), h.hk⟩
theorem DpS.new (w : World) : DpS w (w.alloc (.cells #[.slice none 0 0, .int .i64 0] 24)) w.heap.size (.slice none 0 0) [] :=
  ⟨Bx.new _ _ _, ⟨rfl, .inl ⟨rfl, rfl⟩⟩, fun p hp => (by cases hp), below_alloc _ _, Nat.le_refl _⟩
theorem DpS.step {w W A eW : World} {Kg : Nat} {nv ev : Value} {l : List (Nd × Value)} {p : Nd × Value} (h : DpS w W Kg nv l) (hA : Below W.heap.size W A) (hp : KI W p)
    (r1 : eW.ownsRow (Kg + 1) 52 3 ev (l.length + 1) (ncs l ++ [.int .i64 5, .string ⟨#[]⟩, p.2])) (r2 : A.grownBy eW nv.ownBlock) : DpS w (eW.setCell ⟨Kg, 0, none⟩ ev) Kg ev (l ++ [p]) := by
  have hlt := h.g.lt
  have hsz := hA.size
  have g1 : Bx eW Kg #[nv, .int .i64 0] 24 := (r2.block Kg (by omega) (fun e => by have := (own_block h.ow e.symm).1; omega)).trans (h.g.later hA)
  have hb : ∀ b q, Bx W b #[.int .i64 q] 3 → Bx (eW.setCell ⟨Kg, 0, none⟩ ev) b #[.int .i64 q] 3 := fun b q hb => by
    have h1 : Bx eW b #[.int .i64 q] 3 := (r2.block b (by have := hb.lt; omega) (ob_neN h.ow hb)).trans (hb.later hA)
    refine h1.other (fun e => ?_) _ _
    subst e
    have h9 := h.g.symm.trans hb
    injection h9 with h9
    injection h9 with _ h9
    exact absurd h9 (by decide)
  refine ⟨g1.set 0 ev, ?_, fun q hq => ?_, ?_, h.hk⟩
  · rw [List.length_append, List.length_singleton, ncs_app, hp.cells]
    exact own_keep r1 (fun g hg => Below.heap_setCell _ _ _ _ (by have := (own_block r1 hg).1; show g ≠ Kg; omega))
  · rcases List.mem_append.1 hq with hq | hq
    · exact (h.kk q hq).keep hb
    · rw [List.mem_singleton.1 hq]; exact hp.keep hb
  · exact (((h.bl.trans (hA.mono h.bl.size)).grown r2 (Nat.le_trans h.bl.size hsz) (fun k e => by have := (own_block h.ow e).1; have := h.hk; omega)).setCell (p := ⟨Kg, 0, none⟩) h.hk _)
/-- a store into a node's box -/
theorem DpS.other {w W : World} {Kg X i : Nat} {nv v : Value} {cs : Array Value} {l : List (Nd × Value)} (h : DpS w W Kg nv l) (hX : Bx W X cs 52) (hk : Kg < X) (hw : w.heap.size ≤ X) (hob : some X ≠ nv.ownBlock) : DpS w (W.setCell ⟨X, i, none⟩ v) Kg nv l := by
  refine ⟨h.g.other (by omega) _ _, own_keep h.ow (fun g hg => Below.heap_setCell _ _ _ _ (fun e => hob (by rw [hg]; simp only at e; rw [e]))), fun p hp => (h.kk p hp).keep (fun b q hb => hb.other (fun e => ?_) _ _), h.bl.setCell (p := ⟨X, i, none⟩) hw _, h.hk⟩
  subst e
  have h9 := hX.symm.trans hb
  injection h9 with h9
  injection h9 with _ h9
  exact absurd h9 (by decide)
theorem cell_threeL (w : World) (a b c : Value) (t : TypeId) : ∀ j u, [a, b, c][j]? = some u → (w.alloc (.cells #[a, b, c] t)).cell? ((⟨w.heap.size, 0, none⟩ : Addr).add j) = some u := by
  intro j u hj
  have e : (⟨w.heap.size, 0, none⟩ : Addr).add j = ⟨w.heap.size, j, none⟩ := by simp [Addr.add]; intro h; exact h.symm
  rw [e, World.cell?_alloc_new]
  match j, hj with
  | 0, h => exact h
  | 1, h => exact h
  | 2, h => exact h
  | (_ + 3), h => simp at h
theorem DpS.nat {w W : World} {Kg n cap : Nat} {ad : Option Addr} {l : List (Nd × Value)} (h : DpS w W Kg (.slice ad n cap) l) (hn : n = l.length) : NAt W ad n (l.map Prod.fst) := by
  refine ⟨by rw [List.length_map]; exact hn, fun hp => ?_⟩
  rcases h.ow.2 with ⟨h1, h2⟩ | ⟨g, cp, cur, h1, hbg, hg, hnc, hcm, hcs, htk⟩
  · cases h1; omega
  · cases h1
    refine ⟨g, 0, rfl, (Array.getElem?_eq_some_iff.1 hg).1, fun i hi => ?_⟩
    have hil : i < l.length := by omega
    have ge : l[i]? = some l[i] := List.getElem?_eq_getElem hil
    obtain ⟨c0, c1, c2⟩ := ncs_get l i _ ge
    have gd : (l.map Prod.fst).getD i nd0 = l[i].1 := by rw [List.getD_eq_getElem?_getD, List.getElem?_map, ge]; rfl
    have ea : ∀ k, ((⟨g, 0, none⟩ : Addr).add k) = ⟨g, 0 + k, none⟩ := fun k => by simp [Addr.add]; intro h; exact h.symm
    have d0 := h.ow.cells (g := g) rfl _ _ c0
    have d1 := h.ow.cells (g := g) rfl _ _ c1
    have d2 := h.ow.cells (g := g) rfl _ _ c2
    rw [ea] at d0 d1 d2
    rw [gd]
    rcases h.kk _ (List.getElem_mem hil) with ⟨b, q, e1, e2, e3⟩ | e1
    · rw [e1] at d0 d1 d2 ⊢
      exact ⟨some ⟨b, 0, none⟩, 1, 1, Nat.le_refl _, by unfold maxLen; omega, show i64 5 from ⟨by decide, by decide⟩, by simp, ⟨rfl, fun _ => ⟨b, 0, rfl, e3.lt, fun i hi => by
        obtain rfl : i = 0 := by omega
        exact ⟨e2, e3.cell 0⟩⟩⟩, d0, d1, d2⟩
    · rw [e1] at d0 d1 d2 ⊢
      exact ⟨none, 0, 0, Nat.le_refl _, Nat.zero_le _, show i64 5 from ⟨by decide, by decide⟩, by simp, ⟨rfl, fun h => absurd h (by omega)⟩, d0, d1, d2⟩
end Go.Proofs.YtcplgjclkjcekaaGreatDoor.Grp
end
