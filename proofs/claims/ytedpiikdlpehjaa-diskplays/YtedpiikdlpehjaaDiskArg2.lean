/- Arguments that came in: two numbers, and scripts. -/
import Derived.Test.YtedpiikdlpehjaaDiskArg
namespace Go.Proofs.Ytedpiikdlpehjaa.Dsk
open Go Go.ChangeShapes Go.WideShapes Go.ChangeAt Go.RowKit
set_option linter.unusedSimpArgs false
set_option linter.unusedVariables false
set_option maxRecDepth 100000

def raw0 : Raw := ⟨⟨0, [], [], [], 0, []⟩, none, 0, 0, none, 0, 0⟩
/-- a script as it lies in memory -/
structure ActsAt (w : World) (a : Option Addr) (len cap : Nat) (rs : List Raw) : Prop where
  ln : len = rs.length
  lc : len ≤ cap
  cm : cap ≤ maxLen
  mem : 0 < len → ∃ b off, a = some ⟨b, off, none⟩ ∧ b < w.heap.size ∧ ∀ i, i < len → ∀ j, j < 6 → w.cell? ⟨b, off + i * 6 + j, none⟩ = (rs.getD i raw0).cells[j]?
  ok : ∀ i, i < len → RawOk w (rs.getD i raw0)
theorem ActsAt.later {w w' : World} {a : Option Addr} {len cap : Nat} {rs : List Raw} (h : ActsAt w a len cap rs) (hb : Below w.heap.size w w') : ActsAt w' a len cap rs where
  ln := h.ln
  lc := h.lc
  cm := h.cm
  mem := fun hp => by
    obtain ⟨b, off, ha, hlt, hc⟩ := h.mem hp
    exact ⟨b, off, ha, Nat.lt_of_lt_of_le hlt hb.size, fun i hi j hj => by rw [hb.cell (p := ⟨b, off + i * 6 + j, none⟩) hlt]; exact hc i hi j hj⟩
  ok := fun i hi => (h.ok i hi).later hb
theorem ActsAt.cut {w : World} {a : Option Addr} {len cap : Nat} {rs : List Raw} (h : ActsAt w a len cap rs) (n : Nat) (hn : n ≤ len) : ActsAt w a n cap (rs.take n) where
  ln := by rw [List.length_take, ← h.ln]; omega
  lc := Nat.le_trans hn h.lc
  cm := h.cm
  mem := fun hp => by
    obtain ⟨b, off, ha, hlt, hc⟩ := h.mem (by omega)
    refine ⟨b, off, ha, hlt, fun i hi j hj => ?_⟩
    rw [hc i (by omega) j hj, List.getD_eq_getElem?_getD, List.getD_eq_getElem?_getD, List.getElem?_take, if_pos hi]
  ok := fun i hi => by
    have := h.ok i (by omega)
    rw [List.getD_eq_getElem?_getD] at this ⊢
    rwa [List.getElem?_take, if_pos hi]
section
variable {H : Type} {enc : TypeId × Value → H} {W : World} {base : Nat} {held : Bool} {fuel : Nat}
theorem i64_bounds {z : Int} (w : (Lit.int .i64 z).wf = true) : -9223372036854775808 ≤ z ∧ z ≤ 9223372036854775807 := by
  simp only [Lit.wf, Bool.and_eq_true, decide_eq_true_eq] at w
  simp [IntKind.min, IntKind.max, IntKind.bits, IntKind.signed] at w
  omega
theorem came_acts {a : Option Addr} {len cap : Nat} {x : DataW H × List MemPlace} (hf : DataW.trod enc Try.prog W base (fun _ => true) held fuel 22 [.slice a len cap] = some x) :
    ∃ rs, ActsAt W a len cap rs := by
  have ce : Try.prog.cellsOf 40 = 6 := by kernel_rfl
  rcases Deep.open_slice Try.underlying22 hf with ⟨h0, _⟩ | ⟨a', len', cap', m, n, D, Pl, hcs, hb, hl, hm, hmm, _, hx⟩
  · simp at h0
    obtain ⟨rfl, rfl, rfl⟩ := h0
    exact ⟨[], rfl, Nat.le_refl _, Nat.zero_le _, (fun h => absurd h (by decide)), fun i h => absurd h (by omega)⟩
  · simp at hcs
    obtain ⟨rfl, rfl, rfl⟩ := hcs
    have hlm : len ≤ m := by rw [hmm]; split <;> omega
    have each : ∀ i, i < m → ∃ q : Raw, (∀ j, j < 6 → W.cell? (a'.add (i * 6 + j)) = q.cells[j]?) ∧ RawOk W q := by
      intro i hi
      obtain ⟨cs', h1, h2⟩ := hx i hi
      rw [ce] at h1
      obtain ⟨_, hlen, hcell⟩ := World.cells?_some h1
      obtain ⟨q, rfl, hq⟩ := came_act h2
      refine ⟨q, fun j hj => ?_, hq⟩
      have := hcell j hj
      rw [Deep.add_add] at this
      exact this
    have inh : Inhabited Raw := ⟨raw0⟩
    obtain ⟨q, hq⟩ := Deep.choose_lt each
    have eg : ∀ i, i < len → ((List.range len).map q).getD i raw0 = q i := fun i hi => by
      rw [List.getD_eq_getElem?_getD, List.getElem?_map, List.getElem?_range hi]; rfl
    refine ⟨(List.range len).map q, by simp, hl, hm, fun hp => ?_, fun i hi => ?_⟩
    · obtain ⟨b, off, spot⟩ := a'
      have h00 := (hq 0 (by omega)).1 0 (by decide)
      have hs : spot = none := by
        have h1 : W.cell? ((⟨b, off, spot⟩ : Addr).add (0 * 6 + 0)) = some (.int .u8 (q 0).act.kind) := h00
        simpa [Addr.add] using World.cell?_spot h1
      subst hs
      have ap : ∀ i, (⟨b, off, none⟩ : Addr).add i = ⟨b, off + i, none⟩ := fun i => by unfold Addr.add; split <;> simp_all
      refine ⟨b, off, rfl, World.block_lt_of_cell? W ⟨b, off + (0 * 6 + 0), none⟩ (u := .int .u8 (q 0).act.kind) (by rw [← ap]; exact h00), fun i hi j hj => ?_⟩
      rw [eg i hi, Nat.add_assoc, ← ap]
      exact (hq i (by omega)).1 j hj
    · rw [eg i hi]
      exact (hq i (by omega)).2
end
end Go.Proofs.Ytedpiikdlpehjaa.Dsk
