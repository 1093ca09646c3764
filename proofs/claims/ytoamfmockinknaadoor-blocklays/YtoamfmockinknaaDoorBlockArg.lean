/- Slices of texts, and of rows, that came in. -/
import Derived.Test.YtoamfmockinknaaDoorBlockMem
import Derived.ProofKit
import Derived.OpenShut
import Derived.SliceStrings
import Derived.SizedLaws
import Derived.Deep.SlicePairs
import Derived.Deep.Strs
import Derived.Lib.SmallJoins
namespace Go.Proofs.YtoamfmockinknaaDoor.Blk
open Go.ChangeShapes Go.WideShapes Go.ChangeAt Go.RowKit
open Rws (mk mk_data mk_size mk_of mk_ext mk_get mk_inj)
set_option linter.unusedSimpArgs false
set_option linter.unusedVariables false
set_option maxRecDepth 100000

theorem weights_all {H : Type} {P : Program} {e : TypeId} : ∀ {ds : List (DataW H)} {d : DataW H}, d ∈ ds → ∀ n ∈ d.weights P e, n ∈ DataW.weightsAll P e ds
  | [], d, h, _, _ => by cases h
  | x :: r, d, h, n, hn => by
    simp only [DataW.weightsAll, List.mem_append]
    rcases List.mem_cons.1 h with rfl | h
    · exact .inl hn
    · exact .inr (weights_all h n hn)
theorem sized_in {H : Type} {P : Program} {ts : List TypeId} {ds : List (DataW H)} (h : (DataW.weightsEach P ts ds).all (· ≤ reachBytes) = true) {j : Nat} {t e : TypeId} {elems spare : List (DataW H)} (ht : ts[j]? = some t) (hd : ds[j]? = some (.slice elems spare)) (hu : P.underlying t = some (.slice e)) :
    ∀ d ∈ elems, ∀ n ∈ d.weights P e, n ≤ reachBytes := by
  intro d hd' n hn
  have := List.all_eq_true.1 h _ (DataW.weights_mem_each ht hd n (by
    simp only [DataW.weights, hu, List.mem_cons, List.mem_append]
    exact .inr (.inl (weights_all hd' n hn))))
  simpa using this

/-- texts that came in -/
def SArg (W : World) (a : Option Addr) (len cap : Nat) (xs : List Ln) : Prop := StrsAt W a len xs ∧ len ≤ cap ∧ cap ≤ maxLen ∧ ∀ x ∈ xs, x.length ≤ 140737488351232
theorem came_strs {H : Type} {enc : TypeId × Value → H} {W : World} {fuel : Nat} {a : Option Addr} {len cap : Nat} {x : DataW H × List MemPlace}
    (hf : DataW.trod enc Tryd.prog W 0 (fun _ => true) true fuel 25 [.slice a len cap] = some x)
    (hs : ∀ elems spare, x.1 = .slice elems spare → ∀ d ∈ elems, ∀ n ∈ d.weights Tryd.prog 9, n ≤ reachBytes) : ∃ xs, SArg W a len cap xs := by
  rcases open_strings Tryd.underlying25 Tryd.underlying9 (by kernel_rfl) hf with ⟨hcs, _⟩ | ⟨ad, len', cap', ss, hcs, _, hl, hm, hz, hx, hcell, hsz⟩
  · simp at hcs
    obtain ⟨rfl, rfl, rfl⟩ := hcs
    exact ⟨[], ⟨rfl, fun h => absurd h (by decide)⟩, Nat.le_refl _, Nat.zero_le _, fun x h => by cases h⟩
  · simp at hcs
    obtain ⟨rfl, rfl, rfl⟩ := hcs
    simp only [if_true] at hz
    refine ⟨(ss.take len).map (·.data.toList), ⟨by rw [List.length_map, List.length_take]; omega, fun hp => ?_⟩, hl, hm, ?_⟩
    · obtain ⟨b, off, spot⟩ := ad
      have hc0 := hcell 0 (by omega)
      have hspot : spot = none := by simpa [Addr.add] using World.cell?_spot hc0
      subst hspot
      refine ⟨b, off, rfl, World.block_lt_of_cell? W _ hc0, fun i hi => ?_⟩
      have h := hcell i (by omega)
      rw [add_plain] at h
      have hi' : ss[i]? = some (ss[i]'(by omega)) := List.getElem?_eq_getElem (by omega)
      rw [h, List.getD_eq_getElem?_getD, List.getD_eq_getElem?_getD, List.getElem?_map, List.getElem?_take, if_pos hi, hi']
      simp only [Option.map_some, Option.getD_some]
      rw [mk_of]
    · intro y hy
      obtain ⟨s, hs', rfl⟩ := List.mem_map.1 hy
      have := hs _ _ (congrArg Prod.fst hx) (.lit (.string s.data.toList)) (List.mem_map.2 ⟨s, hs', rfl⟩) s.data.toList.length (by simp [DataW.weights])
      simp only [reachBytes] at this
      omega

/-- rows that came in -/
def RArg (W : World) (a : Option Addr) (len cap : Nat) (rs : List Rw) : Prop := RwAt W a len rs ∧ len ≤ cap ∧ cap ≤ maxLen ∧ ∀ r ∈ rs, r.1 ≤ 9223372036854775807 ∧ r.2.1.length ≤ 140737488351232
def dat {H : Type} (r : Rw) : DataW H := .agg [.lit (.int .i64 r.1), .lit (.string r.2.1), .lit (.int .i64 r.2.2)]
theorem came_rows {H : Type} {enc : TypeId × Value → H} {W : World} {fuel : Nat} {a : Option Addr} {len cap : Nat} {x : DataW H × List MemPlace}
    (hf : DataW.trod enc Tryd.prog W 0 (fun _ => true) true fuel 35 [.slice a len cap] = some x)
    (hs : ∀ elems spare, x.1 = .slice elems spare → ∀ d ∈ elems, ∀ n ∈ d.weights Tryd.prog 44, n ≤ reachBytes) : ∃ rs, RArg W a len cap rs := by
  have ce : Tryd.prog.cellsOf 44 = 3 := by kernel_rfl
  have ci : Tryd.prog.cellsOf 3 = 1 := by kernel_rfl
  have cst : Tryd.prog.cellsOf 9 = 1 := by kernel_rfl
  rcases Deep.open_slice Tryd.underlying35 hf with ⟨hcs, _⟩ | ⟨ad, len', cap', m, n, D, Pl, hcs, hb, hl, hm, hmm, rfl, hx⟩
  · simp at hcs
    obtain ⟨rfl, rfl, rfl⟩ := hcs
    exact ⟨[], ⟨rfl, fun h => absurd h (by decide)⟩, Nat.le_refl _, Nat.zero_le _, fun x h => by cases h⟩
  simp at hcs
  obtain ⟨rfl, rfl, rfl⟩ := hcs
  have hlm : len ≤ m := by rw [hmm]; split <;> omega
  have each : ∀ i, i < m → ∃ q : Rw, W.cell? (ad.add (i * 3)) = some (.int .i64 q.1) ∧ W.cell? (ad.add (i * 3 + 1)) = some (.string (mk q.2.1)) ∧ W.cell? (ad.add (i * 3 + 2)) = some (.int .i64 q.2.2) ∧ D i = dat q ∧ q.1 ≤ 9223372036854775807 := by
    intro i hi
    obtain ⟨cs', h1, h2⟩ := hx i hi
    rw [ce] at h1
    obtain ⟨_, hlen, hcell⟩ := World.cells?_some h1
    obtain ⟨y0, y1, y2, k, hxy, _, g0, g1, g2⟩ := Deep.trod_struct3 Tryd.underlying44 h2
    simp only [ci, cst] at g0 g1 g2
    match cs', hlen with
    | [v0, v1, v2], _ =>
      simp at g0 g1 g2
      obtain ⟨z0, e0, d0, w0⟩ := DataW.trod_int Tryd.underlying3 g0
      obtain ⟨z1, e1, d1, _⟩ := DataW.trod_string Tryd.underlying9 g1
      obtain ⟨z2, e2, d2, _⟩ := DataW.trod_int Tryd.underlying3 g2
      cases e0
      cases e1
      cases e2
      have c0 := hcell 0 (by omega)
      have c1 := hcell 1 (by omega)
      have c2 := hcell 2 (by omega)
      rw [Deep.add_add] at c0 c1 c2
      simp only [Prod.mk.injEq] at hxy
      refine ⟨(z0, z1.data.toList, z2), by simpa using c0, by rw [mk_of]; simpa using c1, by simpa using c2, ?_, (bounds_i64 w0).2⟩
      rw [hxy.1, d0, d1, d2]
      rfl
  have inh : Inhabited Rw := ⟨z3⟩
  obtain ⟨q, hq⟩ := Deep.choose_lt each
  refine ⟨(List.range len).map q, ⟨by simp, fun hp => ?_⟩, hl, hm, ?_⟩
  · obtain ⟨b, off, spot⟩ := ad
    have hspot : spot = none := by simpa [Addr.add] using World.cell?_spot (hq 0 (by omega)).1
    subst hspot
    refine ⟨b, off, rfl, World.block_lt_of_cell? W ⟨b, off + 0 * 3, none⟩ (by have := (hq 0 (by omega)).1; rwa [add_plain] at this), fun i hi => ?_⟩
    obtain ⟨c0, c1, c2, _⟩ := hq i (by omega)
    rw [add_plain] at c0 c1 c2
    have e : ((List.range len).map q).getD i z3 = q i := by
      rw [List.getD_eq_getElem?_getD, List.getElem?_map, List.getElem?_range hi]; rfl
    rw [e]
    exact ⟨c0, c1, c2⟩
  · intro r hr
    obtain ⟨i, hi, rfl⟩ := List.mem_map.1 hr
    have hi' := List.mem_range.1 hi
    obtain ⟨_, _, _, hd, hle⟩ := hq i (by omega)
    refine ⟨hle, ?_⟩
    have := hs _ _ rfl (D i) (List.mem_map.2 ⟨i, hi, rfl⟩) (q i).2.1.length (by
      rw [hd]
      unfold dat
      simp [DataW.weights, Tryd.underlying44, DataW.weightsEach])
    simp only [reachBytes] at this
    omega

end Go.Proofs.YtoamfmockinknaaDoor.Blk
