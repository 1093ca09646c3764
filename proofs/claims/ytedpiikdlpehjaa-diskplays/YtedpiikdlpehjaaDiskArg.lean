/- Arguments that came in: a call of a script, and scripts. -/
import Derived.Test.YtedpiikdlpehjaaDiskDoes
import Derived.ProofKit
import Derived.OpenShut
import Derived.Deep.Slices
import Derived.Lib.SmallJoins
namespace Go.Proofs.Ytedpiikdlpehjaa.Dsk
open Go Go.ChangeShapes Go.WideShapes Go.ChangeAt Go.RowKit
set_option linter.unusedSimpArgs false
set_option linter.unusedVariables false
set_option maxRecDepth 100000

section
variable {H : Type} {enc : TypeId × Value → H} {W : World} {base : Nat} {held : Bool} {fuel : Nat}
theorem byte_of {n : Int} (h : (Lit.int .u8 n).wf = true) : n = ((UInt8.ofNat n.toNat).toNat : Int) := by
  have hb := bounds_u8 h
  rw [UInt8.toNat_ofNat']
  omega
def toBys (zs : List Int) : List UInt8 := zs.map fun n => UInt8.ofNat n.toNat
theorem came_bytes {a : Option Addr} {len cap : Nat} {x : DataW H × List MemPlace} (hf : DataW.trod enc Try.prog W base (fun _ => true) held fuel 37 [.slice a len cap] = some x) :
    ∃ l, Bys W a len l ∧ len ≤ cap ∧ cap ≤ maxLen ∧ ((a = none ∧ len = 0) ∨ ∃ zs : List Int, zs.length = cap ∧ x.1 = .slice (lits .u8 (zs.take len)) (lits .u8 (zs.drop len))) := by
  rcases open_ints Try.underlying37 Try.underlying5 (by kernel_rfl) hf with ⟨hcs, _⟩ | ⟨x', l, c, zs, hcs, _, hl, hm, hz, hx, hcell, hwz⟩
  · simp at hcs
    obtain ⟨rfl, rfl, rfl⟩ := hcs
    exact ⟨[], ⟨rfl, fun h => absurd h (by decide)⟩, Nat.le_refl _, Nat.zero_le _, .inl ⟨rfl, rfl⟩⟩
  · simp at hcs
    obtain ⟨rfl, rfl, rfl⟩ := hcs
    simp only [if_true] at hz
    subst hx
    refine ⟨toBys (zs.take len), ⟨by rw [toBys, List.length_map, List.length_take]; omega, fun hp => ?_⟩, hl, hm, .inr ⟨zs, hz, rfl⟩⟩
    obtain ⟨b, off, spot⟩ := x'
    have hc0 := hcell 0 (by omega)
    have hspot : spot = none := by simpa [Addr.add] using World.cell?_spot hc0
    subst hspot
    refine ⟨b, off, rfl, World.block_lt_of_cell? W _ hc0, fun i hi => ?_⟩
    have h := hcell i (by omega)
    have e : (⟨b, off, none⟩ : Addr).add i = ⟨b, off + i, none⟩ := by unfold Addr.add; split <;> simp_all
    rw [e] at h
    have hzi : zs[i]? = some zs[i] := List.getElem?_eq_getElem (by omega)
    have hb := byte_of (hwz zs[i] (List.getElem_mem _))
    have e1 : zs.getD i 0 = zs[i] := by rw [List.getD_eq_getElem?_getD, hzi]; rfl
    have e2 : (toBys (zs.take len)).getD i 0 = UInt8.ofNat zs[i].toNat := by
      rw [toBys, List.getD_eq_getElem?_getD, List.getElem?_map, List.getElem?_take, if_pos hi, hzi]; rfl
    rw [h, e1, e2, ← hb]
theorem came_ints {a : Option Addr} {len cap : Nat} {x : DataW H × List MemPlace} (hf : DataW.trod enc Try.prog W base (fun _ => true) held fuel 38 [.slice a len cap] = some x) :
    ∃ l, Ints W a len l ∧ len ≤ cap ∧ cap ≤ maxLen := by
  rcases open_ints Try.underlying38 Try.underlying3 (by kernel_rfl) hf with ⟨hcs, _⟩ | ⟨x', l, c, zs, hcs, _, hl, hm, hz, hx, hcell, hwz⟩
  · simp at hcs
    obtain ⟨rfl, rfl, rfl⟩ := hcs
    exact ⟨[], ⟨rfl, fun h => absurd h (by decide)⟩, Nat.le_refl _, Nat.zero_le _⟩
  · simp at hcs
    obtain ⟨rfl, rfl, rfl⟩ := hcs
    simp only [if_true] at hz
    refine ⟨zs.take len, ⟨by rw [List.length_take]; omega, fun hp => ?_⟩, hl, hm⟩
    obtain ⟨b, off, spot⟩ := x'
    have hc0 := hcell 0 (by omega)
    have hspot : spot = none := by simpa [Addr.add] using World.cell?_spot hc0
    subst hspot
    refine ⟨b, off, rfl, World.block_lt_of_cell? W _ hc0, fun i hi => ?_⟩
    have h := hcell i (by omega)
    have e : (⟨b, off, none⟩ : Addr).add i = ⟨b, off + i, none⟩ := by unfold Addr.add; split <;> simp_all
    rw [e] at h
    rw [h, List.getD_eq_getElem?_getD, List.getD_eq_getElem?_getD, List.getElem?_take, if_pos hi]
theorem slice_of {t e : TypeId} {v : Value} {x : DataW H × List MemPlace} (ht : Try.prog.underlying t = some (.slice e)) (h : DataW.trod enc Try.prog W base (fun _ => true) held fuel t [v] = some x) : ∃ a l c, v = .slice a l c := by
  rcases DataW.trod_slice ht h with ⟨q, _⟩ | ⟨a, len, cap, _, _, _, _, q, _⟩
  · simp at q; exact ⟨_, _, _, q⟩
  · simp at q; exact ⟨_, _, _, q⟩
theorem trod_struct6 {P : Program} {spare : Nat → Bool} {t : TypeId} {f0 f1 f2 f3 f4 f5 : Field} {cs : List Value} {x : DataW H × List MemPlace} (ht : P.underlying t = some (.struct #[f0, f1, f2, f3, f4, f5])) (h : DataW.trod enc P W base spare held fuel t cs = some x) :
    ∃ y0 y1 y2 y3 y4 y5 n, cs.length = P.cellsOf t ∧ DataW.trod enc P W base spare held n f0.type ((cs.drop f0.offset).take (P.cellsOf f0.type)) = some y0 ∧ DataW.trod enc P W base spare held n f1.type ((cs.drop f1.offset).take (P.cellsOf f1.type)) = some y1 ∧ DataW.trod enc P W base spare held n f2.type ((cs.drop f2.offset).take (P.cellsOf f2.type)) = some y2 ∧
      DataW.trod enc P W base spare held n f3.type ((cs.drop f3.offset).take (P.cellsOf f3.type)) = some y3 ∧ DataW.trod enc P W base spare held n f4.type ((cs.drop f4.offset).take (P.cellsOf f4.type)) = some y4 ∧ DataW.trod enc P W base spare held n f5.type ((cs.drop f5.offset).take (P.cellsOf f5.type)) = some y5 := by
  obtain ⟨xs, n, _, rfl, hl, hlen, hf⟩ := DataW.trod_struct ht h
  match xs, hlen with
  | [y0, y1, y2, y3, y4, y5], _ => exact ⟨y0, y1, y2, y3, y4, y5, n, hl, by simpa using hf 0 f0 rfl, by simpa using hf 1 f1 rfl, by simpa using hf 2 f2 rfl, by simpa using hf 3 f3 rfl, by simpa using hf 4 f4 rfl, by simpa using hf 5 f5 rfl⟩
/-- a call of a script, read -/
theorem came_act {cs : List Value} {x : DataW H × List MemPlace} (h : DataW.trod enc Try.prog W base (fun _ => true) held fuel 40 cs = some x) : ∃ r : Raw, cs = r.cells ∧ RawOk W r := by
  have hC : Try.prog.cellsOf 40 = 6 := by kernel_rfl
  have c0 : Try.prog.cellsOf 5 = 1 := by kernel_rfl
  have c1 : Try.prog.cellsOf 9 = 1 := by kernel_rfl
  have c3 : Try.prog.cellsOf 37 = 1 := by kernel_rfl
  have c4 : Try.prog.cellsOf 3 = 1 := by kernel_rfl
  have c5 : Try.prog.cellsOf 38 = 1 := by kernel_rfl
  obtain ⟨y0, y1, y2, y3, y4, y5, n, hl, g0, g1, g2, g3, g4, g5⟩ := trod_struct6 Try.underlying40 h
  rw [hC] at hl
  simp only [c0, c1, c3, c4, c5] at g0 g1 g2 g3 g4 g5
  match cs, hl with
  | [v0, v1, v2, v3, v4, v5], _ =>
    simp at g0 g1 g2 g3 g4 g5
    obtain ⟨z0, e0, _, w0⟩ := DataW.trod_int Try.underlying5 g0
    obtain ⟨z1, e1, _, s1⟩ := DataW.trod_string Try.underlying9 g1
    obtain ⟨z2, e2, _, s2⟩ := DataW.trod_string Try.underlying9 g2
    obtain ⟨a3, l3, k3, e3⟩ := slice_of Try.underlying37 g3
    obtain ⟨z4, e4, _, w4⟩ := DataW.trod_int Try.underlying3 g4
    obtain ⟨a5, l5, k5, e5⟩ := slice_of Try.underlying38 g5
    subst e3 e5
    cases e0
    cases e1
    cases e2
    cases e4
    obtain ⟨D, hD, hd1, hd2, _⟩ := came_bytes g3
    obtain ⟨K, hK, hk1, hk2⟩ := came_ints g5
    have hb := bounds_u8 w0
    have hb4 : -9223372036854775808 ≤ z4 ∧ z4 ≤ 9223372036854775807 := by
      simp only [Lit.wf, Bool.and_eq_true, decide_eq_true_eq] at w4
      simp [IntKind.min, IntKind.max, IntKind.bits, IntKind.signed] at w4
      omega
    refine ⟨⟨⟨z0.toNat, z1.data.toList, z2.data.toList, D, z4, K⟩, a3, l3, k3, a5, l5, k5⟩, ?_, ⟨by show z0.toNat < 256; omega, ?_, ?_, hD, hb4, hK, hk1, hk2, hd1, hd2⟩⟩
    · simp only [Raw.cells, ← str_of]
      congr 2
      omega
    · have e : z1.data.toList.length = z1.size := by rw [Array.length_toList]; rfl
      show z1.data.toList.length ≤ maxLen
      rw [e]; exact s1
    · have e : z2.data.toList.length = z2.size := by rw [Array.length_toList]; rfl
      show z2.data.toList.length ≤ maxLen
      rw [e]; exact s2
theorem came_actv {r : Reach} {b0 : Nat} {v : Value} {d : DataW H} {p : List MemPlace} (hv : Value.okWide Try.prog W r b0 40 v) (h : DataW.Trod enc Try.prog W base (fun _ => true) held 40 v d p) :
    ∃ r : Raw, v = .agg #[.int .u8 r.act.kind, .string (str r.act.nA), .string (str r.act.nB), .slice r.da r.dl r.dc, .int .i64 r.act.num, .slice r.ka r.kl r.kc] ∧ RawOk W r := by
  obtain ⟨cs, rfl, hsz⟩ := okWide_struct Try.underlying40 hv
  obtain ⟨fuel, hf⟩ := h
  obtain ⟨r, hr, hok⟩ := came_act hf
  refine ⟨r, ?_, hok⟩
  have e : cs.toList = r.cells := by simpa [Value.cells] using hr
  congr 1
  apply Array.ext'
  rw [e]
  rfl
end
end Go.Proofs.Ytedpiikdlpehjaa.Dsk
