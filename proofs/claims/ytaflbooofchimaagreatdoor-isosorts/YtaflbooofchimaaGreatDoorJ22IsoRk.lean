/- Several texts as one: IsoRk, IsoRk2, IsoRk3, IsoCl, IsoRi, IsoRi2. -/
import Derived.Test.YtaflbooofchimaaGreatDoorJ21IsoShelf
import Derived.Lib.SliceRun
section
/- slices.SortFunc over a Map's entries: what the row holds. -/
namespace Go.Proofs.YtaflbooofchimaaGreatDoor.Alk
open Utf Rws Pln Flw Grp
open Go.RowKit Go.Shelf Go.Sort
set_option linter.unusedSimpArgs false
set_option linter.unusedVariables false
set_option maxRecDepth 100000
set_option maxHeartbeats 4000000

/-- an entry as the sort has it: a place and a value -/
def encE (N : Nat) (x : Nat × Int) : List Value := [.int .i64 ((x.1 % N : Nat) : Int), .int .i64 x.2]
def cfE (ns : List Nd) (N : Nat) (x y : Nat × Int) : Int := cmpK (lab ns (x.1 % N)) (lab ns (y.1 % N))
def toE (p : Int × Int) : Nat × Int := (p.1.toNat, p.2)
def ofE (x : Nat × Int) : Int × Int := ((x.1 : Int), x.2)
theorem lt_cfE (ns : List Nd) (N : Nat) (x y : Nat × Int) : ltOf (cfE ns N) x y = ltK (lab ns (x.1 % N)) (lab ns (y.1 % N)) := rfl
theorem swoE (ns : List Nd) (N : Nat) : SWO (ltOf (cfE ns N)) where
  irrefl x := ltK_irr _
  trans x y z h1 h2 := ltK_trans (by rw [lt_cfE] at h1; exact h1) (by rw [lt_cfE] at h2; exact h2)
  ntrans x y z h1 h2 := ltK_ntrans (by rw [lt_cfE] at h1; exact h1) (by rw [lt_cfE] at h2; exact h2)
theorem sort_bridge {ns : List Nd} {N : Nat} {E : List (Int × Int)} {d' : Array (Nat × Int)} (hpl : ∀ p ∈ E, isP N p.1 = true) (hnd : (E.map fun p => kp ns p.1).Nodup)
    (hp : PermIn 0 (E.map toE).toArray.size (E.map toE).toArray d') (hs : SortedIn (ltOf (cfE ns N)) 0 (E.map toE).toArray.size d') : d'.size = E.length ∧ d'.toList.map ofE = srt (fun p => kp ns p.1) E ∧ ∀ x ∈ d'.toList, x.1 < N := by
  obtain ⟨h1, _, h3⟩ := hp
  have e1 : (E.map toE).toArray.size = E.length := by simp
  have e2 : d'.size = E.length := h1.trans e1
  rw [e1] at h3 hs
  have e3 : (d'.extract 0 E.length).toList = d'.toList := by rw [← e2]; simp
  have e4 : ((E.map toE).toArray.extract 0 E.length).toList = E.map toE := by
    simp
    exact List.take_of_length_le (by simp)
  rw [e3, e4] at h3
  have hbk : ∀ p ∈ E, ofE (toE p) = p ∧ (toE p).1 < N := fun p hp => by
    obtain ⟨m, e, hm⟩ := isP_nat (hpl p hp)
    unfold ofE toE
    simp only
    rw [e, Int.toNat_natCast]
    refine ⟨Prod.ext ?_ rfl, hm⟩
    exact e.symm
  have hlt : ∀ x ∈ d'.toList, x.1 < N := fun x hx => by
    obtain ⟨p, hp, rfl⟩ := List.mem_map.1 (h3.mem_iff.1 hx)
    exact (hbk p hp).2
  refine ⟨e2, ?_, hlt⟩
  refine srt_of ?_ ?_ hnd
  · have h := h3.map ofE
    rw [List.map_map] at h
    have e5 : E.map (ofE ∘ toE) = E := by
      conv => rhs; rw [← List.map_id E]
      exact List.map_congr_left fun p hp => (hbk p hp).1
    rw [e5] at h
    exact h
  · unfold Srd
    rw [List.pairwise_iff_getElem]
    intro i j hi hj hij
    have hi' : i < d'.size := by simpa using hi
    have hj' : j < d'.size := by simpa using hj
    have := hs i j (Nat.zero_le _) hij (by omega)
    rw [lt_cfE, getElem!_pos d' i hi', getElem!_pos d' j hj'] at this
    rw [List.getElem_map, List.getElem_map]
    have k1 := hlt d'[i] (by simp)
    have k2 := hlt d'[j] (by simp)
    rw [Nat.mod_eq_of_lt k1, Nat.mod_eq_of_lt k2] at this
    have f1 : kp ns (ofE (d'.toList[i]'(by simpa using hi))).1 = lab ns d'[i].1 := by
      unfold kp lab ofE
      simp
    have f2 : kp ns (ofE (d'.toList[j]'(by simpa using hj))).1 = lab ns d'[j].1 := by
      unfold kp lab ofE
      simp
    show ltK (kp ns (ofE d'.toList[j]).1) (kp ns (ofE d'.toList[i]).1) = false
    rw [f1, f2]
    exact this
/-- what the entries' row holds -/
theorem holds_of {W : World} {E N : Nat} {l : List Int} (hl : l.length % 2 = 0) (hpl : ∀ p ∈ ens l, isP N p.1 = true) (hB : Bx W E (iA (eF l (l.length / 2)) (2 * (l.length / 2))) 63) : HoldsK (encE N) 2 W E 0 ((ens l).map toE).toArray := by
  intro t ht
  have hs : (flatK (encE N) 2 ((ens l).map toE).toArray).size = 2 * (l.length / 2) := by simp [flatK, ens_len]; omega
  rw [hs] at ht
  refine ⟨?_, hB.fz _⟩
  rw [Nat.zero_add, hB.cell t, iA_get _ ht, getElem!_pos (flatK (encE N) 2 ((ens l).map toE).toArray) t (by rw [hs]; exact ht)]
  have ht2 : t / 2 < (ens l).length := by rw [ens_len]; omega
  have hx : (flatK (encE N) 2 ((ens l).map toE).toArray)[t]'(by rw [hs]; exact ht) = (encE N (toE ((ens l)[t / 2]'ht2)))[t % 2]! := by
    unfold flatK
    rw [Array.getElem_map, Array.getElem_range]
    congr 2
    rw [getElem!_pos _ _ (by simpa using ht2)]
    simp
  rw [hx]
  have g := ens_at (0 : Int) l (t / 2) (by omega)
  rw [List.getD_eq_getElem?_getD, List.getElem?_eq_getElem ht2] at g
  simp only [Option.getD_some] at g
  have hm : (ens l)[t / 2] ∈ ens l := List.getElem_mem ht2
  obtain ⟨m, e, hmN⟩ := isP_nat (hpl _ hm)
  rw [g] at e ⊢
  simp only at e
  unfold eF encE toE
  rw [if_pos ht]
  simp only
  rcases Nat.mod_two_eq_zero_or_one t with h0 | h0
  · rw [h0]
    have et : 2 * (t / 2) = t := by omega
    rw [et] at e ⊢
    rw [e, Int.toNat_natCast, Nat.mod_eq_of_lt hmN]
    rfl
  · rw [h0]
    have et : 2 * (t / 2) + 1 = t := by omega
    rw [et]
    rfl
/-- cells of the row behind the sort -/
theorem cells_of {W : World} {E N i : Nat} {d' : Array (Nat × Int)} (hH : HoldsK (encE N) 2 W E 0 d') (hi : i < d'.size) (hlt : d'[i].1 < N) : W.cell? ⟨E, i * 2, none⟩ = some (.int .i64 (d'[i].1 : Int)) ∧ W.cell? ⟨E, i * 2 + 1, none⟩ = some (.int .i64 d'[i].2) := by
  have hs : (flatK (encE N) 2 d').size = d'.size * 2 := by simp [flatK]
  have key : ∀ c, c < 2 → W.cell? ⟨E, i * 2 + c, none⟩ = some ((encE N d'[i])[c]!) := fun c hc => by
    have h := (hH (i * 2 + c) (by rw [hs]; omega)).1
    rw [Nat.zero_add] at h
    rw [h, getElem!_pos (flatK (encE N) 2 d') _ (by rw [hs]; omega)]
    show some (id _) = _
    unfold flatK
    rw [Array.getElem_map, Array.getElem_range, show (i * 2 + c) / 2 = i by omega, show (i * 2 + c) % 2 = c by omega, getElem!_pos d' i hi]
    rfl
  have k0 := key 0 (by omega)
  have k1 := key 1 (by omega)
  unfold encE at k0 k1
  rw [Nat.mod_eq_of_lt hlt] at k0
  exact ⟨k0, k1⟩
/-- the world behind the sort -/
theorem sw_below {α : Type} [Inhabited α] (enc : α → List Value) (k : Nat) (w : World) (blk off m : Nat) (dk : Array α) (os : Array Obj) {B : Nat} (hB : B ≤ blk) (hb : B ≤ w.heap.size) : Below B w (sortWorldK enc k w blk off m dk os) := by
  have hsz : (putRowK enc k (Sort.ahead w m) blk off dk).heap.size = w.heap.size := by simp [putRowK, putRow, mapBlock]
  refine ⟨rfl, rfl, rfl, ?_, fun j hj => ?_⟩
  · unfold sortWorldK grow
    simp [hsz]
  · unfold sortWorldK
    rw [heap_grow_old _ _ (by rw [hsz]; omega)]
    unfold putRowK putRow mapBlock
    simp only [heap_ahead, Array.getElem?_modify]
    rw [if_neg (by omega)]
end Go.Proofs.YtaflbooofchimaaGreatDoor.Alk
end

section
/- risingKids, by its contract. -/
namespace Go.Proofs.YtaflbooofchimaaGreatDoor.Alk
open Utf Rws Pln Flw Grp
open Go.RowKit Go.Shelf Go.Sort
set_option linter.unusedSimpArgs false
set_option linter.unusedVariables false
set_option maxRecDepth 100000
set_option maxHeartbeats 4000000
attribute [local go_sem ↓] Go.wp_at_zero Go.wp_at_succ

theorem two_cells (w : World) (a b : Value) (t : TypeId) : ∀ j u, ([a, b] : List Value)[j]? = some u → (w.alloc (.cells #[a, b] t)).cell? ((⟨w.heap.size, 0, none⟩ : Addr).add j) = some u := by
  intro j u h
  have e : ((⟨w.heap.size, 0, none⟩ : Addr).add j) = ⟨w.heap.size, j, none⟩ := by simp [Addr.add]; intro h; exact h.symm
  rw [e, (Bx.new w #[a, b] t).cell j]
  simpa using h
/-- the sort of a row of entries -/
theorem sort_any {w : World} {E Kn b off N cap H : Nat} {ns : List Nd} {l : List Int} (hn : N ≤ 4096) (hN : 0 < N) (hl : l.length % 2 = 0) (hH : H = l.length / 2) (hlen : l.length ≤ 1000000000) (hpl : ∀ p ∈ ens l, isP N p.1 = true) (hnd : ((ens l).map fun p => kp ns p.1).Nodup)
    (hB : Bx w E (iA (eF l (l.length / 2)) (2 * (l.length / 2))) 63) (hS : NdS w Kn b off N cap ns) (hKE : Kn ≠ E) (hbE : b ≠ E) :
    Calls Tryz.prog 57 #[.slice (some ⟨E, 0, none⟩) H H, .func (.func 58) #[] #[.pointer (some ⟨Kn, 0, none⟩)]] w fun e w' => e = .returned (.tuple #[]) ∧ Hid ((∀ B, B ≤ E → B ≤ w.heap.size → Below B w w') ∧ E < w'.heap.size ∧ ∃ S : List (Int × Int), S = srt (fun p => kp ns p.1) (ens l) ∧ S.length = H ∧ ∀ i, i < H → w'.cell? ⟨E, i * 2, none⟩ = some (.int .i64 (S.getD i (0, 0)).1) ∧ w'.cell? ⟨E, i * 2 + 1, none⟩ = some (.int .i64 (S.getD i (0, 0)).2)) := by
  have eg : ∀ args w, (callFunc 58 args).run Tryz.prog w = .ok (.enter 58 args) w := enters_of Tryz.func58 (by kernel_rfl) rfl
  have hsz : ((ens l).map toE).toArray.size = H := by simp [ens_len, hH]
  have hHo := holds_of hl hpl hB
  have hcmp : CmpLays Tryz.prog 58 #[.pointer (some ⟨Kn, 0, none⟩)] (encE N) 2 (cfE ns N) E 0 ((ens l).map toE).toArray.size w := fun m os dk hdk x y => by
    have hX : NdS (sortWorldK (encE N) 2 w E 0 m dk os) Kn b off N cap ns := by
      have hs := size_sortWorldK_c (encE N) 2 w E 0 m dk os
      have hc : ∀ a : Addr, a.block ≠ E → a.block < w.heap.size → (sortWorldK (encE N) 2 w E 0 m dk os).cell? a = w.cell? a := fun a h1 h2 => cell?_sortWorldK_other (encE N) 2 w E 0 m dk os a h1 h2
      refine ⟨(hc ⟨Kn, 0, none⟩ hKE hS.kl).trans hS.v, Nat.lt_of_lt_of_le hS.kl hs, Nat.lt_of_lt_of_le hS.bl hs, fun i hi => ?_⟩
      obtain ⟨ka, kl, kc, y0, y1, y2⟩ := hS.c i hi
      exact ⟨ka, kl, kc, (hc ⟨b, off + i * 3, none⟩ hbE hS.bl).trans y0, (hc ⟨b, off + i * 3 + 1, none⟩ hbE hS.bl).trans y1, (hc ⟨b, off + i * 3 + 2, none⟩ hbE hS.bl).trans y2⟩
    exact closure_any hX hn (Nat.mod_lt _ hN) (Nat.mod_lt _ hN) x.2 y.2
  have h := AnyQ.slices_SortFunc sortE 2 Tryz.isAgg63 Tryz.sizeOf63 (encE N) (fun _ => rfl) (fun x v hv => by simp [encE] at hv; rcases hv with rfl | rfl <;> rfl) (cfE ns N) (swoE ns N) 58 #[.pointer (some ⟨Kn, 0, none⟩)] E 0 H ((ens l).map toE).toArray w eg hcmp hHo hB.lt (by rw [hsz]; omega)
  rw [hsz] at h
  refine Calls.mono h ?_
  rintro e w' ⟨rfl, d', m, os, hp, hs, rfl⟩
  rw [← hsz] at hp hs
  obtain ⟨q1, q2, q3⟩ := sort_bridge hpl hnd hp hs
  have hH2 : HoldsK (encE N) 2 (sortWorldK (encE N) 2 w E 0 m d' os) E 0 d' := holdsK_sortWorldK (encE N) 2 w E 0 m _ d' os hB.lt hHo (by rw [q1, hsz, hH, ens_len])
  refine ⟨rfl, fun B h1 h2 => sw_below _ _ _ _ _ _ _ _ h1 h2, lt_sortWorldK _ _ _ _ _ _ _ _ hB.lt, _, q2, by rw [List.length_map, Array.length_toList, q1, ens_len, hH], fun i hi => ?_⟩
  have hi' : i < d'.size := by rw [q1, ens_len, ← hH]; exact hi
  have := cells_of hH2 hi' (q3 _ (by simp))
  rw [List.getD_eq_getElem?_getD, List.getElem?_map, Array.getElem?_toList, Array.getElem?_eq_getElem hi']
  exact this
end Go.Proofs.YtaflbooofchimaaGreatDoor.Alk
end

section
/- risingKids, by its contract. -/
namespace Go.Proofs.YtaflbooofchimaaGreatDoor.Alk
open Utf Rws Pln Flw Grp
open Go.RowKit Go.Shelf
set_option linter.unusedSimpArgs false
set_option linter.unusedVariables false
set_option maxRecDepth 100000
set_option maxHeartbeats 4000000
attribute [local go_sem ↓] Go.wp_at_zero Go.wp_at_succ

/-- the boxes of a row of nodes and of a node -/
structure RkS (w W : World) (K0 K1 : Nat) (sv n0 n1 n2 : Value) : Prop where
  v : Bx W K0 #[sv] 22
  n : Bx W K1 #[n0, n1, n2] 35
  bl : Below w.heap.size w W
  h0 : w.heap.size ≤ K0
theorem RkS.new (w : World) (sv n0 n1 n2 : Value) : RkS w ((w.alloc (.cells #[sv] 22)).alloc (.cells #[n0, n1, n2] 35)) w.heap.size (w.heap.size + 1) sv n0 n1 n2 := by
  have b1 := below_alloc w (.cells #[sv] 22)
  have s1 : (w.alloc (.cells #[sv] 22)).heap.size = w.heap.size + 1 := World.size_alloc _ _
  have b2 := below_alloc (w.alloc (.cells #[sv] 22)) (.cells #[n0, n1, n2] 35)
  have n2' := Bx.new (w.alloc (.cells #[sv] 22)) #[n0, n1, n2] 35
  rw [s1] at n2'
  exact ⟨(Bx.new w _ _).later b2, n2', b1.trans (b2.mono b1.size), Nat.le_refl _⟩
theorem RkS.later {w W W' : World} {K0 K1 : Nat} {sv n0 n1 n2 : Value} (h : RkS w W K0 K1 sv n0 n1 n2) (hb : Below W.heap.size W W') : RkS w W' K0 K1 sv n0 n1 n2 := ⟨h.v.later hb, h.n.later hb, h.bl.trans (hb.mono h.bl.size), h.h0⟩
def mkI (S : List (Int × Int)) : List Value := (fla S).map fun a => Value.int .i64 a
theorem mkI_snoc (S : List (Int × Int)) (j : Nat) (h : j < S.length) : mkI (S.take (j + 1)) = mkI (S.take j) ++ [.int .i64 (S.getD j (0, 0)).1, .int .i64 (S.getD j (0, 0)).2] := by
  unfold mkI
  rw [List.take_succ_eq_append_getElem h, fla_app, List.map_append, List.getD_eq_getElem?_getD, List.getElem?_eq_getElem h]
  rfl
theorem risingKids_any {w : World} {b off N capN : Nat} {ns : List Nd} {k : Int} {x : Ln} {ad : Option Addr} {len cap : Nat} {l : List Int} (hNA : NAt w (some ⟨b, off, none⟩) N ns) (hn : N ≤ 4096) (hN : 0 < N) (hI : IAt w ad len l) (hlen : len ≤ 1000000000) (hev : len % 2 = 0)
    (hpl : ∀ p ∈ ens l, isP N p.1 = true) (hnd : ((ens l).map fun p => kp ns p.1).Nodup) (h64 : ∀ a ∈ l, i64 a) :
    Calls Tryz.prog 43 #[.slice (some ⟨b, off, none⟩) N capN, nv k x ad len cap] w fun e W' => ∃ ad' c', e = .returned (.slice ad' len c') ∧ Hid (IAtB w.heap.size W' ad' len (fla (srt (fun p => kp ns p.1) (ens l))) ∧ len ≤ c' ∧ c' ≤ maxLen ∧ Below w.heap.size w W') := by
  obtain ⟨H, HH⟩ : ∃ H : Nat, Hid (H = len / 2) := ⟨_, rfl⟩
  have HL : Hid (len = l.length) := hI.1
  have HL2 : Hid (len = 2 * H) := by have := HH.out; show _ = _; omega
  have hH9 : H ≤ 1000000000 := by have := HH.out; omega
  have hbw : b < w.heap.size := by
    obtain ⟨b', off', e, h1, _⟩ := hNA.2 hN
    cases e
    exact h1
  have h0 : Hid (RkS w _ w.heap.size (w.heap.size + 1) (.slice (some ⟨b, off, none⟩) N capN) (.int .i64 k) (.string (mk x)) (.slice ad len cap)) := RkS.new w (.slice (some ⟨b, off, none⟩) N capN) (.int .i64 k) (.string (mk x)) (.slice ad len cap)
  have HNA : Hid (NAt w (some ⟨b, off, none⟩) N ns) := hNA
  have HEn : Hid (∀ W, Below w.heap.size w W → Calls Tryz.prog 34 #[nv k x ad len cap] W fun e W' => ∃ E, e = .returned (.slice (some ⟨E, 0, none⟩) H H) ∧ Hid (Bx W' E (iA (eF l (l.length / 2)) (2 * (l.length / 2))) 63 ∧ W.heap.size ≤ E ∧ Below W.heap.size W W')) := fun W hb => (entriesOf_any (hI.later hb (Nat.le_refl _)) hlen).mono (fun e W' q => by
    obtain ⟨E, q1, q2⟩ := q
    refine ⟨E, by rw [HH.out]; exact q1, ?_⟩
    rw [← HL.out]
    exact q2)
  have HSo : Hid (∀ (W : World) (E Kn : Nat), Bx W E (iA (eF l (l.length / 2)) (2 * (l.length / 2))) 63 → NdS W Kn b off N capN ns → Kn ≠ E → b ≠ E → Calls Tryz.prog 57 #[.slice (some ⟨E, 0, none⟩) H H, .func (.func 58) #[] #[.pointer (some ⟨Kn, 0, none⟩)]] W fun e w' => e = .returned (.tuple #[]) ∧ Hid ((∀ B, B ≤ E → B ≤ W.heap.size → Below B W w') ∧ E < w'.heap.size ∧ ∃ S : List (Int × Int), S = srt (fun p => kp ns p.1) (ens l) ∧ S.length = H ∧ ∀ i, i < H → w'.cell? ⟨E, i * 2, none⟩ = some (.int .i64 (S.getD i (0, 0)).1) ∧ w'.cell? ⟨E, i * 2 + 1, none⟩ = some (.int .i64 (S.getD i (0, 0)).2))) := fun W E Kn h1 h2 h3 h4 => sort_any hn hN (by rw [← HL.out]; exact hev) (by rw [← HL.out]; exact HH.out) (by rw [← HL.out]; exact hlen) hpl hnd h1 h2 h3 h4
  have HFin : Hid ((fla (srt (fun p => kp ns p.1) (ens l))).length = len ∧ ∀ a ∈ fla (srt (fun p => kp ns p.1) (ens l)), i64 a) := by
    have hp := fla_perm (srt_perm (fun p => kp ns p.1) (ens l))
    rw [fla_ens l (by rw [← HL.out]; exact hev)] at hp
    exact ⟨by rw [hp.length_eq]; exact HL.out.symm, fun a ha => h64 a (hp.mem_iff.1 ha)⟩
  obtain ⟨i0, hi, hz0, hz1, hz2⟩ := info_parts Tryz.infoInt
  have hmk := fun w' : World => run_make (P := Tryz.prog) w' 33 3 i0 _ Tryz.underInts hi hz0 .i64 .i64 (0 : Int) (len : Int) (by omega) (by omega) (by rw [hz2]; omega) (by omega)
  rw [hz1] at hmk
  obtain ⟨R, HR⟩ : ∃ R, Hid (R = srt (fun p => kp ns p.1) (ens l)) := ⟨_, rfl⟩
  rw [← HR.out] at HFin ⊢
  clear hNA hI hpl hnd h64
  go_enter Tryz.func43, Tryz.ntmps43
  go_wp2_with fail
  generalize (w.alloc (.cells #[.slice (some ⟨b, off, none⟩) N capN] 22)).alloc (.cells #[.int .i64 k, .string (mk x), .slice ad len cap] 35) = W0 at h0 ⊢
  generalize w.heap.size + 1 = K1 at h0 ⊢
  obtain ⟨K0, HK0⟩ : ∃ K0, Hid (K0 = w.heap.size) := ⟨_, rfl⟩
  rw [← HK0.out]
  have h1 : Hid (RkS w W0 K0 K1 (.slice (some ⟨b, off, none⟩) N capN) (.int .i64 k) (.string (mk x)) (.slice ad len cap)) := by rw [HK0.out]; exact h0
  clear h0
  refine (HEn.out _ h1.out.bl).mono ?_
  rintro e W1 ⟨E, rfl, H1⟩
  have H2 : Hid (RkS w W1 K0 K1 (.slice (some ⟨b, off, none⟩) N capN) (.int .i64 k) (.string (mk x)) (.slice ad len cap)) := h1.out.later H1.out.2.2
  have HE : Hid (K0 < E ∧ K1 < E ∧ w.heap.size ≤ E ∧ b ≠ E) := by
    have a1 := h1.out.v.lt
    have a2 := h1.out.n.lt
    have a3 := H1.out.2.1
    have a4 := h1.out.bl.size
    refine ⟨?_, ?_, ?_, ?_⟩ <;> omega
  have HS1 : Hid (Calls Tryz.prog 57 #[.slice (some ⟨E, 0, none⟩) H H, .func (.func 58) #[] #[.pointer (some ⟨K0, 0, none⟩)]] W1 _) := HSo.out W1 E K0 H1.out.1 ⟨H2.out.v.cell 0, H2.out.v.lt, Nat.lt_of_lt_of_le hbw H2.out.bl.size, fun i hi => by
      obtain ⟨b', off', e, hb', hc⟩ := HNA.out.2 hN
      cases e
      obtain ⟨ka, kl, kc, _, _, _, _, _, y0, y1, y2⟩ := hc i hi
      exact ⟨ka, kl, kc, (H2.out.bl.cell (p := ⟨b, off + i * 3, none⟩) hb').trans y0, (H2.out.bl.cell (p := ⟨b, off + i * 3 + 1, none⟩) hb').trans y1, (H2.out.bl.cell (p := ⟨b, off + i * 3 + 2, none⟩) hb').trans y2⟩⟩ (by have := HE.out; omega) HE.out.2.2.2
  clear HEn HSo h1
  go_upto_region 3 with (go_at_call 57; refine HS1.out.mono ?_; rintro e W2 ⟨rfl, H3⟩)
  have HB2 : Hid (Below w.heap.size w W2) := by
    have a := HE.out
    have a1 := H3.out.1 w.heap.size a.2.2.1 H2.out.bl.size
    exact H2.out.bl.trans a1
  have c2 : W2.cell? ⟨K1, 2, none⟩ = some (.slice ad len cap) := by
    have a := HE.out
    have a1 := H3.out.1 (K1 + 1) (by omega) H2.out.n.lt
    exact (a1.cell (p := ⟨K1, 2, none⟩) (Nat.lt_succ_self _)).trans (H2.out.n.cell 2)
  obtain ⟨S, hSe, hSl, hSc⟩ := H3.out.2.2
  have HSc : Hid (∀ i, i < H → W2.cell? ⟨E, i * 2, none⟩ = some (.int .i64 (S.getD i (0, 0)).1) ∧ W2.cell? ⟨E, i * 2 + 1, none⟩ = some (.int .i64 (S.getD i (0, 0)).2)) := hSc
  have HEl : Hid (E < W2.heap.size) := H3.out.2.1
  have HSl : Hid (S.length = H) := hSl
  have HSR : Hid (S = R) := hSe.trans HR.out.symm
  clear hSe hSl hSc H3 HS1 H1 H2 HR
  obtain ⟨BB, HBB⟩ : ∃ BB, Hid (BB = W2.heap.size) := ⟨_, rfl⟩
  have h3 : Hid ((W2.alloc (.cells (madeCells #[Value.int .i64 0] len) 3)).ownsRow BB 3 1 (.slice (some ⟨BB, 0, none⟩) 0 len) 0 (mkI (S.take 0)) ∧ Below BB W2 (W2.alloc (.cells (madeCells #[Value.int .i64 0] len) 3))) := by
    rw [HBB.out]
    refine ⟨⟨rfl, .inr ⟨W2.heap.size, len, _, rfl, Nat.le_refl _, Bx.new _ _ _, Nat.zero_le _, by have : maxLen = 9223372036854775807 := rfl; omega, by rw [size_madeCells, Nat.mul_one], rfl⟩⟩, below_alloc _ _⟩
  go_wp2_with fail
  clear c2
  rw [← HBB.out]
  generalize W2.alloc (.cells (madeCells #[Value.int .i64 0] len) 3) = W3 at h3 ⊢
  clear hmk
  go_loopw [6, 20] (fun kv i wr => ∃ (j : Nat) (ka : Option Addr) (kc : Nat), j ≤ H ∧ i = .int .i64 (j : Int) ∧ kv = .slice ka (2 * j) kc ∧ Hid (wr.ownsRow BB 3 1 (.slice ka (2 * j) kc) (2 * j) (mkI (S.take j)) ∧ Below BB W2 wr)) (fun _ i _ => H - (intOf i).toNat)
  case atStart => exact ⟨0, some ⟨BB, 0, none⟩, len, Nat.zero_le _, rfl, rfl, h3⟩
  case round =>
    obtain ⟨j, ka, kc, hj, rfl, rfl, HS⟩ := hrel
    clear h3
    by_cases hlt : j < H
    · obtain ⟨p, q, hpq⟩ : ∃ p q, S.getD j (0, 0) = (p, q) := ⟨_, _, rfl⟩
      obtain ⟨y0, y1⟩ := HSc.out j hlt
      rw [hpq] at y0 y1
      have z0 := (HS.out.2.cell (p := ⟨E, j * 2, none⟩) (by rw [HBB.out]; exact HEl.out)).trans y0
      have z1 := (HS.out.2.cell (p := ⟨E, j * 2 + 1, none⟩) (by rw [HBB.out]; exact HEl.out)).trans y1
      have HM : Hid (mkI (S.take (j + 1)) = mkI (S.take j) ++ [.int .i64 p, .int .i64 q]) := by
        have := mkI_snoc S j (by rw [HSl.out]; exact hlt)
        rw [hpq] at this
        exact this
      have hsz : BB ≤ wr.heap.size := by have := HS.out.2.size; rw [← HBB.out] at this; exact this
      have b1 := below_alloc wr (.cells #[.int .i64 p, .int .i64 q] 63)
      have n1 := Bx.new wr #[.int .i64 p, .int .i64 q] 63
      have HX : Hid ((wr.alloc (.cells #[.int .i64 p, .int .i64 q] 63)).ownsRow BB 3 1 (.slice ka (2 * j) kc) (2 * j) (mkI (S.take j)) ∧ Below BB W2 (wr.alloc (.cells #[.int .i64 p, .int .i64 q] 63)) ∧ Bx (wr.alloc (.cells #[.int .i64 p, .int .i64 q] 63)) wr.heap.size #[.int .i64 p, .int .i64 q] 63 ∧ BB ≤ (wr.alloc (.cells #[.int .i64 p, .int .i64 q] 63)).heap.size) := ⟨HS.out.1.alloc _, HS.out.2.trans (b1.mono hsz), n1, by rw [World.size_alloc]; omega⟩
      clear y0 y1 hpq b1 n1
      go_upto_region 7 with fail
      clear z0 z1
      generalize wr.alloc (.cells #[.int .i64 p, .int .i64 q] 63) = w1 at HX ⊢
      generalize wr.heap.size = T at HX ⊢
      have e0 : w1.cell? ⟨T, 0, none⟩ = some (.int .i64 p) := HX.out.2.2.1.cell 0
      have e1 : w1.cell? ⟨T, 1, none⟩ = some (.int .i64 q) := HX.out.2.2.1.cell 1
      go_wp2_with (at_builtin; refine wpList_append_own_at _ rfl _ _ 33 rfl BB 3 i0 (.int .i64 0) 1 8 Tryz.underInts hi hz0 hz1 hz2 rfl (by decide) _ _ _ rfl (HX.out.1.alloc _) ⟨w1.heap.size, 0, none⟩ 2 2 [Value.int .i64 p, Value.int .i64 q] rfl rfl (two_cells _ _ _ _) (fun u hu => by simp at hu; rcases hu with rfl | rfl <;> rfl) (by have : maxLen = 9223372036854775807 := rfl; omega) (by omega) (by rw [World.size_alloc]; have := HX.out.2.2.2; omega) ?_; intro ov W4 hown hgr hnil hat; obtain ⟨oad2, ocap2, rfl⟩ := own_shape hown)
      have HY : Hid (W4.ownsRow BB 3 1 (.slice oad2 (2 * (j + 1)) ocap2) (2 * (j + 1)) (mkI (S.take (j + 1))) ∧ Below BB W2 W4) := by
        refine ⟨?_, ?_⟩
        · rw [HM.out]
          exact hown
        · have b2 : Below BB W2 (w1.alloc (.cells #[.int .i64 p, .int .i64 q] 3)) := HX.out.2.1.trans ((below_alloc w1 _).mono HX.out.2.2.2)
          refine b2.grown hgr (by rw [HBB.out]; exact b2.size) (fun g e => ?_)
          rcases HX.out.1.2 with ⟨h1, _⟩ | ⟨g', cp, cur, h1, h2, _⟩
          · rw [h1] at e; cases e
          · rw [h1] at e
            have e' : some g' = some g := e
            injection e' with e'
            omega
      go_roundw
      case rel => exact ⟨j + 1, oad2, ocap2, by omega, by go_num, rfl, HY⟩
      case measure => simp [intOf]; omega
    · have hje : j = H := by omega
      have HF : Hid (IAtB w.heap.size wr ka len (fla R) ∧ len ≤ kc ∧ kc ≤ maxLen ∧ Below w.heap.size w wr) := by
        have hk := HS.out.1
        rw [hje, List.take_of_length_le (by rw [HSl.out]; exact Nat.le_refl _), HSR.out, ← HL2.out] at hk
        have a := iat_own hk HFin.out.2
        have hwB : w.heap.size ≤ BB := by rw [HBB.out]; exact HB2.out.size
        exact ⟨⟨a.1.1, fun b' off' h1 h2 => Nat.le_trans hwB (a.1.2 b' off' h1 h2)⟩, a.2.1, a.2.2, HB2.out.trans (HS.out.2.mono hwB)⟩
      have HL3 : Hid (2 * j = len) := by rw [hje]; exact HL2.out.symm
      rw [HL3.out]
      clear hje
      go_wp2
      go_ret
      exact ⟨ka, kc, rfl, HF⟩
end Go.Proofs.YtaflbooofchimaaGreatDoor.Alk
end

section
/- slices.Clone of nodes, by its contract. -/
namespace Go.Proofs.YtaflbooofchimaaGreatDoor.Alk
open Utf Rws Pln Flw Grp
open Go.RowKit Go.Shelf
set_option linter.unusedSimpArgs false
set_option linter.unusedVariables false
set_option maxRecDepth 100000
set_option maxHeartbeats 4000000
attribute [local go_sem ↓] Go.wp_at_zero Go.wp_at_succ

abbrev Sl := Option Addr × Nat × Nat
def slV (t : Sl) : Value := .slice t.1 t.2.1 t.2.2
/-- a cell of a row of nodes -/
def ndC (ns : List Nd) (kv : Nat → Sl) (t : Nat) : Value := if t % 3 = 0 then .int .i64 (ns.getD (t / 3) nd0).kind else if t % 3 = 1 then .string (mk (ns.getD (t / 3) nd0).text) else slV (kv (t / 3))
theorem ndC0 (ns : List Nd) (kv : Nat → Sl) (i : Nat) : ndC ns kv (i * 3) = .int .i64 (ns.getD i nd0).kind := by
  unfold ndC
  rw [if_pos (by omega), show i * 3 / 3 = i by omega]
theorem ndC1 (ns : List Nd) (kv : Nat → Sl) (i : Nat) : ndC ns kv (i * 3 + 1) = .string (mk (ns.getD i nd0).text) := by
  unfold ndC
  rw [if_neg (by omega), if_pos (by omega), show (i * 3 + 1) / 3 = i by omega]
theorem ndC2 (ns : List Nd) (kv : Nat → Sl) (i : Nat) : ndC ns kv (i * 3 + 2) = slV (kv i) := by
  unfold ndC
  rw [if_neg (by omega), if_neg (by omega), show (i * 3 + 2) / 3 = i by omega]
/-- a row of nodes of one's own, with room behind it -/
def CRow (W : World) (Nb n : Nat) (ns : List Nd) (kv : Nat → Sl) : Prop := ∃ cs, Bx W Nb cs 35 ∧ ∀ t, t < n * 3 → cs[t]? = some (ndC ns kv t)
theorem CRow.later {W W' : World} {Nb n : Nat} {ns : List Nd} {kv : Nat → Sl} (h : CRow W Nb n ns kv) (hb : Below W.heap.size W W') : CRow W' Nb n ns kv := by
  obtain ⟨cs, h1, h2⟩ := h
  exact ⟨cs, h1.later hb, h2⟩
theorem CRow.lt {W : World} {Nb n : Nat} {ns : List Nd} {kv : Nat → Sl} (h : CRow W Nb n ns kv) : Nb < W.heap.size := by obtain ⟨cs, h1, _⟩ := h; exact h1.lt
theorem CRow.fz {W : World} {Nb n : Nat} {ns : List Nd} {kv : Nat → Sl} (h : CRow W Nb n ns kv) (i : Nat) : W.frozen? ⟨Nb, i, none⟩ = false := by obtain ⟨cs, h1, _⟩ := h; exact h1.fz i
theorem CRow.cells {W : World} {Nb n : Nat} {ns : List Nd} {kv : Nat → Sl} (h : CRow W Nb n ns kv) {i : Nat} (hi : i < n) : W.cell? ⟨Nb, i * 3, none⟩ = some (.int .i64 (ns.getD i nd0).kind) ∧ W.cell? ⟨Nb, i * 3 + 1, none⟩ = some (.string (mk (ns.getD i nd0).text)) ∧ W.cell? ⟨Nb, i * 3 + 2, none⟩ = some (slV (kv i)) := by
  obtain ⟨cs, h1, h2⟩ := h
  refine ⟨(h1.cell _).trans ((h2 (i * 3) (by omega)).trans (by rw [ndC0])), (h1.cell _).trans ((h2 (i * 3 + 1) (by omega)).trans (by rw [ndC1])), (h1.cell _).trans ((h2 (i * 3 + 2) (by omega)).trans (by rw [ndC2]))⟩
theorem CRow.put {W : World} {Nb n : Nat} {ns : List Nd} {kv : Nat → Sl} (h : CRow W Nb n ns kv) {j : Nat} (hj : j < n) (s : Sl) : CRow (W.setCell ⟨Nb, j * 3 + 2, none⟩ (slV s)) Nb n ns (fun i => if i = j then s else kv i) := by
  obtain ⟨cs, h1, h2⟩ := h
  refine ⟨_, h1.set _ _, fun t ht => ?_⟩
  have hs : j * 3 + 2 < cs.size := (Array.getElem?_eq_some_iff.1 (h2 (j * 3 + 2) (by omega))).1
  rw [Array.getElem?_setIfInBounds]
  by_cases e : j * 3 + 2 = t
  · subst e
    rw [if_pos rfl, if_pos hs, ndC2, if_pos rfl]
  · rw [if_neg e, h2 t ht]
    congr 1
    unfold ndC
    by_cases e1 : t % 3 = 0
    · rw [if_pos e1, if_pos e1]
    · by_cases e2 : t % 3 = 1
      · rw [if_neg e1, if_pos e2, if_neg e1, if_pos e2]
      · rw [if_neg e1, if_neg e2, if_neg e1, if_neg e2]
        show slV (kv (t / 3)) = slV (if t / 3 = j then s else kv (t / 3))
        rw [if_neg (by omega)]
theorem clone_any {w : World} {b off n cap : Nat} {ns : List Nd} {kv : Nat → Sl} (hn : n ≤ 4096) (hn0 : 0 < n) (hb : b < w.heap.size)
    (hc : ∀ i, i < n → w.cell? ⟨b, off + i * 3, none⟩ = some (.int .i64 (ns.getD i nd0).kind) ∧ w.cell? ⟨b, off + i * 3 + 1, none⟩ = some (.string (mk (ns.getD i nd0).text)) ∧ w.cell? ⟨b, off + i * 3 + 2, none⟩ = some (slV (kv i))) :
    Calls Tryz.prog 42 #[.slice (some ⟨b, off, none⟩) n cap] w fun e W' => ∃ Nb c, e = .returned (.slice (some ⟨Nb, 0, none⟩) n c) ∧ Hid (CRow W' Nb n ns kv ∧ n ≤ c ∧ c ≤ maxLen ∧ w.heap.size ≤ Nb ∧ Below w.heap.size w W') := by
  obtain ⟨i0, hi, hz0, hz1, hz2⟩ := info_parts Tryz.infoNode
  obtain ⟨news, Hnews⟩ : ∃ news : List Value, Hid (news = (List.range (n * 3)).map (ndC ns kv)) := ⟨_, rfl⟩
  have Hlen : Hid (news.length = n * 3) := by rw [Hnews.out]; simp [Hid]
  have Hone : Hid (∀ u ∈ news, u.oneCell' = true) := by
    intro u hu
    rw [Hnews.out] at hu
    obtain ⟨t, ht, rfl⟩ := List.mem_map.1 hu
    unfold ndC
    split
    · rfl
    · split
      · rfl
      · rfl
  have Hcel : Hid (∀ X : World, Below w.heap.size w X → ∀ j u, news[j]? = some u → X.cell? ((⟨b, off, none⟩ : Addr).add j) = some u) := fun X hX j u hu => by
    have e : ((⟨b, off, none⟩ : Addr).add j) = ⟨b, off + j, none⟩ := by simp [Addr.add]
    rw [e, hX.cell (p := ⟨b, off + j, none⟩) hb]
    rw [Hnews.out, List.getElem?_map] at hu
    have hj : j < n * 3 := by
      refine Nat.lt_of_not_le fun h => ?_
      rw [List.getElem?_eq_none (by simpa using h)] at hu
      cases hu
    rw [List.getElem?_range hj, Option.map_some, Option.some.injEq] at hu
    subst hu
    obtain ⟨h0, h1, h2⟩ := hc (j / 3) (by omega)
    have : j % 3 = 0 ∨ j % 3 = 1 ∨ j % 3 = 2 := by omega
    rcases this with q | q | q
    · have ej : j = j / 3 * 3 := by omega
      have := ndC0 ns kv (j / 3)
      rw [← ej] at this h0
      rw [this]; exact h0
    · have ej : j = j / 3 * 3 + 1 := by omega
      have := ndC1 ns kv (j / 3)
      rw [Nat.add_assoc, ← ej] at h1
      rw [← ej] at this
      rw [this]; exact h1
    · have ej : j = j / 3 * 3 + 2 := by omega
      have := ndC2 ns kv (j / 3)
      rw [Nat.add_assoc, ← ej] at h2
      rw [← ej] at this
      rw [this]; exact h2
  have HO : Hid ((w.alloc (.cells #[] 35)).ownsRow w.heap.size 35 3 (.slice (some ⟨w.heap.size, 0, none⟩) 0 0) 0 []) :=
    ⟨rfl, .inr ⟨w.heap.size, 0, #[], rfl, Nat.le_refl _, Bx.new _ _ _, Nat.le_refl _, Nat.zero_le _, rfl, rfl⟩⟩
  have HC2 : Hid (∀ j u, news[j]? = some u → (w.alloc (.cells #[] 35)).cell? ((⟨b, off, none⟩ : Addr).add j) = some u) := Hcel.out _ (below_alloc _ _)
  have hnil := Lib.run_eql_slice_nil (P := Tryz.prog) w 22 35 (some ⟨b, off, none⟩) n cap 0 0 Tryz.underNodes
  clear Hcel hc
  go_enter Tryz.func42, Tryz.ntmps42
  go_wp2_with (at_builtin; refine wpList_append_own _ rfl _ _ 22 rfl w.heap.size 35 i0 (.agg #[.int .i64 0, .string ⟨#[]⟩, .slice none 0 0]) 3 48 Tryz.underNodes hi hz0 hz1 hz2 rfl (by decide) _ _ _ rfl HO.out ⟨b, off, none⟩ n cap news rfl Hlen.out HC2.out Hone.out ?_ ?_ ?_ ?_)
  · unfold maxLen; omega
  · omega
  · simp
  intro v' w1 hown hgrow hq
  have HB : Hid (Below w.heap.size w w1) := (below_alloc w _).grown hgrow (by simp) (fun k hk => by simp [Value.ownBlock] at hk; omega)
  have HF : Hid (∃ Nb c, v' = .slice (some ⟨Nb, 0, none⟩) n c ∧ CRow w1 Nb n ns kv ∧ n ≤ c ∧ c ≤ maxLen ∧ w.heap.size ≤ Nb) := by
    rcases hown.2 with ⟨hv, h0⟩ | ⟨g, cap', cur, hv, hgB, hblk, hcl, hcm, hcs, hct⟩
    · omega
    · refine ⟨g, cap', hv, ⟨cur, hblk, fun t ht => ?_⟩, hcl, hcm, hgB⟩
      have : (cur.toList.take (n * 3))[t]? = news[t]? := by rw [hct]
      rw [List.getElem?_take_of_lt ht, Array.getElem?_toList, Hnews.out, List.getElem?_map, List.getElem?_range ht] at this
      exact this
  obtain ⟨Nb, c, rfl, hF⟩ := HF.out
  have HF2 : Hid (CRow w1 Nb n ns kv ∧ n ≤ c ∧ c ≤ maxLen ∧ w.heap.size ≤ Nb ∧ Below w.heap.size w w1) := ⟨hF.1, hF.2.1, hF.2.2.1, hF.2.2.2, HB.out⟩
  clear hown hgrow hF HF hq
  go_wp2
  go_ret
  exact ⟨Nb, c, rfl, HF2⟩
end Go.Proofs.YtaflbooofchimaaGreatDoor.Alk
end

section
/- rising, by its contract. -/
namespace Go.Proofs.YtaflbooofchimaaGreatDoor.Alk
open Utf Rws Pln Flw Grp
open Go.RowKit Go.Shelf
set_option linter.unusedSimpArgs false
set_option linter.unusedVariables false
set_option maxRecDepth 100000
set_option maxHeartbeats 4000000
attribute [local go_sem ↓] Go.wp_at_zero Go.wp_at_succ

theorem ens_mem {α : Type} : ∀ (l : List α) (p : α × α), p ∈ ens l → p.1 ∈ l ∧ p.2 ∈ l
  | [], p, h => absurd h (by simp [ens])
  | [_], p, h => absurd h (by simp [ens])
  | a :: b :: t, p, h => by
    rw [ens] at h
    rcases List.mem_cons.1 h with rfl | h
    · simp
    · have := ens_mem t p h
      exact ⟨by simp [this.1], by simp [this.2]⟩
/-- the Kids of a node that was gone over, or not yet -/
def rKs (ns : List Nd) (j i : Nat) : List Int := if i < j then rsK ns (ns.getD i nd0) else (ns.getD i nd0).kids
/-- rising under way -/
structure RiS (w W : World) (K0 K1 Nb n : Nat) (sv : Value) (r : Int) (ns : List Nd) (kv : Nat → Sl) (j : Nat) : Prop where
  a : Bx W K0 #[sv, .int .i64 r] 24
  o : Bx W K1 #[.slice none 0 0, .int .i64 0] 24
  row : CRow W Nb n ns kv
  ks : ∀ i, i < n → IAt W (kv i).1 (kv i).2.1 (rKs ns j i) ∧ (kv i).2.1 ≤ (kv i).2.2 ∧ (kv i).2.2 ≤ maxLen ∧ ∀ b off, 0 < (kv i).2.1 → (kv i).1 = some ⟨b, off, none⟩ → b ≠ Nb ∧ b ≠ K1
  bl : Below w.heap.size w W
  h1 : w.heap.size ≤ K1
  hb : w.heap.size ≤ Nb
  l0 : K0 < Nb
  l1 : K1 < Nb
  l2 : K0 ≠ K1
theorem RiS.later {w W W' : World} {K0 K1 Nb n : Nat} {sv : Value} {r : Int} {ns : List Nd} {kv : Nat → Sl} {j : Nat} (h : RiS w W K0 K1 Nb n sv r ns kv j) (hb : Below W.heap.size W W') : RiS w W' K0 K1 Nb n sv r ns kv j :=
  ⟨h.a.later hb, h.o.later hb, h.row.later hb, fun i hi => ⟨(h.ks i hi).1.later hb (Nat.le_refl _), (h.ks i hi).2⟩, h.bl.trans (hb.mono h.bl.size), h.h1, h.hb, h.l0, h.l1, h.l2⟩
theorem iat_set {W : World} {Nb t : Nat} {v : Value} {ad : Option Addr} {len : Nat} {l : List Int} (h : IAt W ad len l) (hne : ∀ b off, 0 < len → ad = some ⟨b, off, none⟩ → b ≠ Nb) : IAt (W.setCell ⟨Nb, t, none⟩ v) ad len l := by
  refine ⟨h.1, fun hp => ?_⟩
  obtain ⟨b, off, e, hl, hc⟩ := h.2 hp
  refine ⟨b, off, e, by rw [World.size_setCell]; exact hl, fun i hi => ⟨(hc i hi).1, ?_⟩⟩
  rw [World.cell?_of_block (w := W) (Below.heap_setCell W ⟨Nb, t, none⟩ v b (hne b off hp e))]
  exact (hc i hi).2
/-- a node is done -/
theorem RiS.put {w W : World} {K0 K1 Nb n : Nat} {sv : Value} {r : Int} {ns : List Nd} {kv : Nat → Sl} {j : Nat} (h : RiS w W K0 K1 Nb n sv r ns kv j) (hj : j < n) {s : Sl} {B : Nat} (hs : IAtB B W s.1 s.2.1 (rsK ns (ns.getD j nd0))) (h1 : s.2.1 ≤ s.2.2) (h2 : s.2.2 ≤ maxLen) (hB : Nb < B) :
    RiS w (W.setCell ⟨Nb, j * 3 + 2, none⟩ (slV s)) K0 K1 Nb n sv r ns (fun i => if i = j then s else kv i) (j + 1) := by
  have l0 := h.l0
  have l1 := h.l1
  refine ⟨h.a.other (by omega) _ _, h.o.other (by omega) _ _, h.row.put hj s, fun i hi => ?_, h.bl.setCell (p := ⟨Nb, j * 3 + 2, none⟩) h.hb _, h.h1, h.hb, l0, l1, h.l2⟩
  by_cases e : i = j
  · subst e
    simp only [if_true]
    have er : rKs ns (i + 1) i = rsK ns (ns.getD i nd0) := by unfold rKs; rw [if_pos (by omega)]
    rw [er]
    have hne : ∀ b off, 0 < s.2.1 → s.1 = some ⟨b, off, none⟩ → b ≠ Nb ∧ b ≠ K1 := fun b off hp he => by have := hs.2 b off hp he; omega
    exact ⟨iat_set hs.1 (fun b off hp he => (hne b off hp he).1), h1, h2, hne⟩
  · simp only [if_neg e]
    have er : rKs ns (j + 1) i = rKs ns j i := by
      unfold rKs
      by_cases q : i < j
      · rw [if_pos q, if_pos (by omega)]
      · rw [if_neg q, if_neg (by omega)]
    rw [er]
    obtain ⟨k1, k2, k3, k4⟩ := h.ks i hi
    exact ⟨iat_set k1 (fun b off hp he => (k4 b off hp he).1), k2, k3, k4⟩
theorem RiS.skip {w W : World} {K0 K1 Nb n : Nat} {sv : Value} {r : Int} {ns : List Nd} {kv : Nat → Sl} {j : Nat} (h : RiS w W K0 K1 Nb n sv r ns kv j) (hk : (ns.getD j nd0).kind ≠ 6) : RiS w W K0 K1 Nb n sv r ns kv (j + 1) := by
  refine ⟨h.a, h.o, h.row, fun i hi => ?_, h.bl, h.h1, h.hb, h.l0, h.l1, h.l2⟩
  have er : rKs ns (j + 1) i = rKs ns j i := by
    unfold rKs
    by_cases q : i < j
    · rw [if_pos q, if_pos (by omega)]
    · rw [if_neg q]
      by_cases q2 : i = j
      · subst q2
        rw [if_pos (by omega)]
        unfold rsK
        rw [if_neg hk]
      · rw [if_neg (by omega)]
  rw [er]
  exact h.ks i hi
/-- what Maps need -/
theorem rise_facts {ns : List Nd} {r : Int} (h : rgG ⟨ns, r⟩ = true) (hS : Sml ns) {i : Nat} (hi : i < ns.length) (hk : (ns.getD i nd0).kind = 6) : (ns.getD i nd0).kids.length % 2 = 0 ∧ (ns.getD i nd0).kids.length ≤ 1000000000 ∧ (∀ p ∈ ens (ns.getD i nd0).kids, isP ns.length p.1 = true) ∧ ((ens (ns.getD i nd0).kids).map fun p => kp ns p.1).Nodup := by
  obtain ⟨h1, h2, h3, h4, h5⟩ := rg_parts.1 h
  have hm : ns.getD i nd0 ∈ ns := mem_getD hi
  have he := rg_evn h _ hm hk
  refine ⟨he, Nat.le_trans (kids_sum hm) (hS h1).2, fun p hp => ?_, ?_⟩
  · exact (rKd_parts.1 (h3 _ hm).2).2.2.1 _ (ens_mem _ p hp).1
  · have := h5 _ hm
    rw [hk, kys_ens 0 _ he rfl, List.map_map] at this
    exact this
end Go.Proofs.YtaflbooofchimaaGreatDoor.Alk
end

section
/- rising, by its contract. -/
namespace Go.Proofs.YtaflbooofchimaaGreatDoor.Alk
open Utf Rws Pln Flw Grp
open Go.RowKit Go.Shelf
set_option linter.unusedSimpArgs false
set_option linter.unusedVariables false
set_option maxRecDepth 100000
set_option maxHeartbeats 4000000
attribute [local go_sem ↓] Go.wp_at_zero Go.wp_at_succ

theorem rising_core {w : World} {b off n cap : Nat} {r : Int} {ns : List Nd} (hNA : NAt w (some ⟨b, off, none⟩) n ns) (hr : i64 r) (hR : rgG ⟨ns, r⟩ = true) (hS : Sml ns) :
    Calls Tryz.prog 24 #[gv (some ⟨b, off, none⟩) n cap r] w fun e W' => ∃ Nb c, e = .returned (gv (some ⟨Nb, 0, none⟩) n c r) ∧ Hid (GrV W' (gv (some ⟨Nb, 0, none⟩) n c r) ⟨ris ns, r⟩ ∧ Below w.heap.size w W') := by
  obtain ⟨f1, f2, f3⟩ := rgG_facts hR
  have HL : Hid (n = ns.length) := hNA.1
  have hn : n ≤ 4096 := by rw [HL.out]; exact f1
  have hn0 : 0 < n := by
    obtain ⟨m, _, hm⟩ := isP_nat f2
    rw [HL.out]; omega
  obtain ⟨b', off', e, hb, hc⟩ := hNA.2 hn0
  cases e
  -- the Kids' slices
  have hex : ∀ i, ∃ s : Sl, i < n → IAt w s.1 s.2.1 (ns.getD i nd0).kids ∧ s.2.1 ≤ s.2.2 ∧ s.2.2 ≤ maxLen ∧ i64 (ns.getD i nd0).kind ∧ (ns.getD i nd0).text.length ≤ 9223372036854775807 ∧ w.cell? ⟨b, off + i * 3, none⟩ = some (.int .i64 (ns.getD i nd0).kind) ∧ w.cell? ⟨b, off + i * 3 + 1, none⟩ = some (.string (mk (ns.getD i nd0).text)) ∧ w.cell? ⟨b, off + i * 3 + 2, none⟩ = some (slV s) := fun i => by
    by_cases hi : i < n
    · obtain ⟨ka, kl, kc, a1, a2, a3, a4, a5, a6, a7, a8⟩ := hc i hi
      exact ⟨(ka, kl, kc), fun _ => ⟨a5, a1, a2, a3, a4, a6, a7, a8⟩⟩
    · exact ⟨(none, 0, 0), fun h => absurd h hi⟩
  obtain ⟨kv, Hkv⟩ : ∃ kv : Nat → Sl, Hid (∀ i, i < n → IAt w (kv i).1 (kv i).2.1 (ns.getD i nd0).kids ∧ (kv i).2.1 ≤ (kv i).2.2 ∧ (kv i).2.2 ≤ maxLen ∧ i64 (ns.getD i nd0).kind ∧ (ns.getD i nd0).text.length ≤ 9223372036854775807 ∧ w.cell? ⟨b, off + i * 3, none⟩ = some (.int .i64 (ns.getD i nd0).kind) ∧ w.cell? ⟨b, off + i * 3 + 1, none⟩ = some (.string (mk (ns.getD i nd0).text)) ∧ w.cell? ⟨b, off + i * 3 + 2, none⟩ = some (slV (kv i))) := ⟨fun i => (hex i).choose, fun i => (hex i).choose_spec⟩
  have HCl : Hid (∀ W, Below w.heap.size w W → Calls Tryz.prog 42 #[.slice (some ⟨b, off, none⟩) n cap] W fun e W' => ∃ Nb c, e = .returned (.slice (some ⟨Nb, 0, none⟩) n c) ∧ Hid (CRow W' Nb n ns kv ∧ n ≤ c ∧ c ≤ maxLen ∧ W.heap.size ≤ Nb ∧ Below W.heap.size W W')) := fun W hW => clone_any hn hn0 (Nat.lt_of_lt_of_le hb hW.size) (fun i hi => by
    obtain ⟨_, _, _, _, _, y0, y1, y2⟩ := Hkv.out i hi
    exact ⟨(hW.cell (p := ⟨b, off + i * 3, none⟩) hb).trans y0, (hW.cell (p := ⟨b, off + i * 3 + 1, none⟩) hb).trans y1, (hW.cell (p := ⟨b, off + i * 3 + 2, none⟩) hb).trans y2⟩)
  have HRk : Hid (∀ (W : World) (j : Nat) (s : Sl), j < n → (ns.getD j nd0).kind = 6 → Below w.heap.size w W → IAt W s.1 s.2.1 (ns.getD j nd0).kids → Calls Tryz.prog 43 #[.slice (some ⟨b, off, none⟩) n cap, .agg #[.int .i64 6, .string (mk (ns.getD j nd0).text), slV s]] W fun e W' => ∃ ad' c', e = .returned (.slice ad' s.2.1 c') ∧ Hid (IAtB W.heap.size W' ad' s.2.1 (rsK ns (ns.getD j nd0)) ∧ s.2.1 ≤ c' ∧ c' ≤ maxLen ∧ Below W.heap.size W W')) := fun W j s hj hk hW hI => by
    obtain ⟨g1, g2, g3, g4⟩ := rise_facts hR hS (by rw [← HL.out]; exact hj) hk
    rw [← HL.out] at g3
    have he : rsK ns (ns.getD j nd0) = fla (srt (fun p => kp ns p.1) (ens (ns.getD j nd0).kids)) := by unfold rsK; rw [if_pos hk]
    rw [he]
    refine risingKids_any (hNA.later hW (Nat.le_refl _)) hn hn0 hI (by rw [hI.1]; exact g2) (by rw [hI.1]; exact g1) g3 g4 (fun a ha => ?_)
    obtain ⟨m, e, hm⟩ := isP_nat (f3 _ (mem_getD (by rw [← HL.out]; exact hj)) a ha)
    rw [e]
    rw [← HL.out] at hm
    constructor <;> omega
  have b1 := below_alloc w (.cells #[.slice (some ⟨b, off, none⟩) n cap, .int .i64 r] 24)
  have n1 := Bx.new w #[.slice (some ⟨b, off, none⟩) n cap, .int .i64 r] 24
  have s1 : (w.alloc (.cells #[.slice (some ⟨b, off, none⟩) n cap, .int .i64 r] 24)).heap.size = w.heap.size + 1 := World.size_alloc _ _
  have h0 : Hid (CaS w _ w.heap.size (w.heap.size + 1) (.slice (some ⟨b, off, none⟩) n cap) (.int .i64 r)) := CaS.new w (.slice (some ⟨b, off, none⟩) n cap) (.int .i64 r)
  clear hNA hc hex hR hS f1 f2 f3 b1 n1 s1
  go_enter Tryz.func24, Tryz.ntmps24
  go_wp2_with fail
  generalize (w.alloc (.cells #[.slice (some ⟨b, off, none⟩) n cap, .int .i64 r] 24)).alloc (.cells #[.slice none 0 0, .int .i64 0] 24) = W0 at h0 ⊢
  obtain ⟨K1, HK1⟩ : ∃ K1, Hid (K1 = w.heap.size + 1) := ⟨_, rfl⟩
  obtain ⟨K0, HK0⟩ : ∃ K0, Hid (K0 = w.heap.size) := ⟨_, rfl⟩
  rw [← HK1.out, ← HK0.out]
  have h1 : Hid (CaS w W0 K0 K1 (.slice (some ⟨b, off, none⟩) n cap) (.int .i64 r)) := by rw [HK1.out, HK0.out]; exact h0
  clear h0
  refine (HCl.out _ h1.out.bl).mono ?_
  rintro e W1 ⟨Nb, c, rfl, H1⟩
  have HS : Hid (RiS w W1 K0 K1 Nb n (.slice (some ⟨b, off, none⟩) n cap) r ns kv 0) := by
    obtain ⟨q1, q2, q3, q4, q5⟩ := H1.out
    have a1 := h1.out.g.lt
    have a2 := h1.out.r.lt
    have a3 := h1.out.hk
    have a4 := h1.out.bl.size
    refine ⟨h1.out.g.later q5, h1.out.r.later q5, q1, fun i hi => ?_, h1.out.bl.trans (q5.mono a4), a3, by omega, by omega, by omega, by rw [HK0.out, HK1.out]; omega⟩
    obtain ⟨k1, k2, k3, _⟩ := Hkv.out i hi
    have er : rKs ns 0 i = (ns.getD i nd0).kids := by unfold rKs; rw [if_neg (by omega)]
    rw [er]
    refine ⟨k1.later (h1.out.bl.trans (q5.mono a4)) (Nat.le_refl _), k2, k3, fun b'' off'' hp he => ?_⟩
    obtain ⟨b3, off3, e3, hl3, _⟩ := k1.2 hp
    rw [he] at e3
    cases e3
    constructor <;> omega
  have HCC : Hid (n ≤ c ∧ c ≤ maxLen) := ⟨H1.out.2.1, H1.out.2.2.1⟩
  have HPl : Hid (∀ i, i < n → i64 (ns.getD i nd0).kind ∧ (ns.getD i nd0).text.length ≤ 9223372036854775807) := fun i hi => ⟨(Hkv.out i hi).2.2.2.1, (Hkv.out i hi).2.2.2.2.1⟩
  clear h1 H1 HCl Hkv
  go_wp2_with fail
  go_loopw [11] (fun i wr => ∃ (j : Nat) (kv' : Nat → Sl), j ≤ n ∧ i = .int .i64 (j : Int) ∧ Hid (RiS w wr K0 K1 Nb n (.slice (some ⟨b, off, none⟩) n cap) r ns kv' j)) (fun i _ => n - (intOf i).toNat)
  case atStart => exact ⟨0, kv, Nat.zero_le _, rfl, HS⟩
  case round =>
    obtain ⟨j, kv', hj, rfl, HS⟩ := hrel
    by_cases hlt : j < n
    · obtain ⟨y0, y1, y2⟩ := HS.out.row.cells hlt
      obtain ⟨x, Hx⟩ : ∃ x, Hid (x = (ns.getD j nd0).text) := ⟨_, rfl⟩
      obtain ⟨k, Hk⟩ : ∃ k, Hid (k = (ns.getD j nd0).kind) := ⟨_, rfl⟩
      obtain ⟨sa, sl, sc, hsv⟩ : ∃ sa sl sc, kv' j = (sa, sl, sc) := ⟨_, _, _, rfl⟩
      rw [← Hx.out] at y1
      rw [← Hk.out] at y0
      rw [hsv] at y2
      unfold slV at y2
      simp only at y2
      have b1 := below_alloc wr (.cells #[.int .i64 k, .string (mk x), .slice sa sl sc] 35)
      have HX : Hid (RiS w (wr.alloc (.cells #[.int .i64 k, .string (mk x), .slice sa sl sc] 35)) K0 K1 Nb n (.slice (some ⟨b, off, none⟩) n cap) r ns kv' j ∧ Bx (wr.alloc (.cells #[.int .i64 k, .string (mk x), .slice sa sl sc] 35)) wr.heap.size #[.int .i64 k, .string (mk x), .slice sa sl sc] 35) := ⟨HS.out.later b1, Bx.new _ _ _⟩
      clear b1
      go_upto_region 5 with fail
      clear y0 y1 y2 HS
      generalize wr.alloc (.cells #[.int .i64 k, .string (mk x), .slice sa sl sc] 35) = w1 at HX ⊢
      generalize wr.heap.size = T at HX ⊢
      have e0 : w1.cell? ⟨T, 0, none⟩ = some (.int .i64 k) := HX.out.2.cell 0
      have e1 : w1.cell? ⟨T, 1, none⟩ = some (.string (mk x)) := HX.out.2.cell 1
      have e2 : w1.cell? ⟨T, 2, none⟩ = some (.slice sa sl sc) := HX.out.2.cell 2
      by_cases h6 : k = 6
      · have g0 : w1.cell? ⟨K0, 0, none⟩ = some (.slice (some ⟨b, off, none⟩) n cap) := HX.out.1.a.cell 0
        have HC : Hid (Calls Tryz.prog 43 #[.slice (some ⟨b, off, none⟩) n cap, .agg #[.int .i64 6, .string (mk x), .slice sa sl sc]] w1 fun e W' => ∃ ad' c', e = .returned (.slice ad' sl c') ∧ Hid (IAtB w1.heap.size W' ad' sl (rsK ns (ns.getD j nd0)) ∧ sl ≤ c' ∧ c' ≤ maxLen ∧ Below w1.heap.size w1 W')) := by
          have hk := (HX.out.1.ks j hlt).1
          rw [hsv, show rKs ns j j = (ns.getD j nd0).kids by unfold rKs; rw [if_neg (by omega)]] at hk
          have := HRk.out w1 j (sa, sl, sc) hlt (Hk.out.symm.trans h6) HX.out.1.bl hk
          rw [← Hx.out] at this
          exact this
        clear hsv HRk
        subst h6
        go_upto_region 7 with (go_at_call 43; refine HC.out.mono ?_; rintro e W2 ⟨ad', c', rfl, H2⟩; have q2 := ((HX.out.1.later H2.out.2.2.2).row.cells hlt).2.2; have z2 := (HX.out.1.later H2.out.2.2.2).row.fz (j * 3 + 2))
        have HY : Hid (RiS w (W2.setCell ⟨Nb, j * 3 + 2, none⟩ (.slice ad' sl c')) K0 K1 Nb n (.slice (some ⟨b, off, none⟩) n cap) r ns (fun i => if i = j then (ad', sl, c') else kv' i) (j + 1)) :=
          (HX.out.1.later H2.out.2.2.2).put (s := (ad', sl, c')) hlt H2.out.1 H2.out.2.1 H2.out.2.2.1 HX.out.1.row.lt
        clear q2 z2 H2 HX e0 e1 e2 g0 HC
        generalize W2.setCell ⟨Nb, j * 3 + 2, none⟩ (.slice ad' sl c') = W3 at HY ⊢
        go_wp2
        go_roundw
        case rel => exact ⟨j + 1, _, by omega, by go_num, HY⟩
        case measure => simp [intOf]; omega
      · have e6 : (k == 6) = false := by simpa using h6
        have HY : Hid (RiS w w1 K0 K1 Nb n (.slice (some ⟨b, off, none⟩) n cap) r ns kv' (j + 1)) := HX.out.1.skip (by rw [← Hk.out]; exact h6)
        clear hsv HRk
        go_wp2
        go_roundw
        case rel => exact ⟨j + 1, _, by omega, by go_num, HY⟩
        case measure => simp [intOf]; omega
    · have hje : j = n := by omega
      have r1 : wr.cell? ⟨K0, 1, none⟩ = some (.int .i64 r) := HS.out.a.cell 1
      have d0 : wr.cell? ⟨K1, 0, none⟩ = some (.slice none 0 0) := HS.out.o.cell 0
      have d1 : wr.cell? ⟨K1, 1, none⟩ = some (.int .i64 0) := HS.out.o.cell 1
      have z0 := HS.out.o.fz 0
      have z1 := HS.out.o.fz 1
      have HB : Hid (Bx ((wr.setCell ⟨K1, 0, none⟩ (.slice (some ⟨Nb, 0, none⟩) n c)).setCell ⟨K1, 1, none⟩ (.int .i64 r)) K1 #[.slice (some ⟨Nb, 0, none⟩) n c, .int .i64 r] 24 ∧ Below w.heap.size w ((wr.setCell ⟨K1, 0, none⟩ (.slice (some ⟨Nb, 0, none⟩) n c)).setCell ⟨K1, 1, none⟩ (.int .i64 r)) ∧ GrV ((wr.setCell ⟨K1, 0, none⟩ (.slice (some ⟨Nb, 0, none⟩) n c)).setCell ⟨K1, 1, none⟩ (.int .i64 r)) (gv (some ⟨Nb, 0, none⟩) n c r) ⟨ris ns, r⟩) := by
        have h := HS.out
        have l1 := h.l1
        refine ⟨(h.o.set 0 _).set 1 _, (h.bl.setCell (p := ⟨K1, 0, none⟩) h.h1 _).setCell (p := ⟨K1, 1, none⟩) h.h1 _, some ⟨Nb, 0, none⟩, n, c, rfl, HCC.out.1, HCC.out.2, hr, ?_⟩
        obtain ⟨cs, g1, g2⟩ := h.row
        have g3 : CRow ((wr.setCell ⟨K1, 0, none⟩ (.slice (some ⟨Nb, 0, none⟩) n c)).setCell ⟨K1, 1, none⟩ (.int .i64 r)) Nb n ns kv' := ⟨cs, (g1.other (by omega) _ _).other (by omega) _ _, g2⟩
        refine ⟨by rw [ris_len]; exact HL.out, fun _ => ⟨Nb, 0, rfl, g3.lt, fun i hi => ?_⟩⟩
        obtain ⟨y0, y1, y2⟩ := g3.cells hi
        obtain ⟨k1, k2, k3, k4⟩ := h.ks i hi
        rw [show rKs ns j i = rsK ns (ns.getD i nd0) by unfold rKs; rw [if_pos (by omega)]] at k1
        rw [ris_at, Nat.zero_add]
        exact ⟨(kv' i).1, (kv' i).2.1, (kv' i).2.2, k2, k3, (HPl.out i hi).1, (HPl.out i hi).2, iat_set (iat_set k1 (fun b off hp he => (k4 b off hp he).2)) (fun b off hp he => (k4 b off hp he).2), y0, y1, y2⟩
      clear HS hje HRk
      go_wp2
      generalize (wr.setCell ⟨K1, 0, none⟩ (.slice (some ⟨Nb, 0, none⟩) n c)).setCell ⟨K1, 1, none⟩ (.int .i64 r) = W9 at HB ⊢
      have g0 : W9.cell? ⟨K1, 0, none⟩ = some (.slice (some ⟨Nb, 0, none⟩) n c) := HB.out.1.cell 0
      have g1 : W9.cell? ⟨K1, 1, none⟩ = some (.int .i64 r) := HB.out.1.cell 1
      refine bodyPost_ret (v := gv (some ⟨Nb, 0, none⟩) n c r) (by simp [results, Tryz.results24, go_sem, g0, g1]) rfl ?_
      exact ⟨Nb, c, rfl, HB.out.2.2, HB.out.2.1⟩
theorem rising_any {w : World} {v : Value} {ns : List Nd} {r : Int} (hG : GrV w v ⟨ns, r⟩) (hR : rgG ⟨ns, r⟩ = true) (hS : Sml ns) : Calls Tryz.prog 24 #[v] w fun e W' => ∃ ad len cap, e = .returned (gv ad len cap r) ∧ Hid (GrV W' (gv ad len cap r) ⟨ris ns, r⟩ ∧ Below w.heap.size w W') := by
  obtain ⟨ad, len, cap, rfl, h1, h2, h3, h4⟩ := hG
  obtain ⟨f1, f2, f3⟩ := rgG_facts hR
  obtain ⟨m, _, hm⟩ := isP_nat f2
  have hl : 0 < len := by rw [h4.1]; simp only; omega
  obtain ⟨b, off, rfl, _⟩ := h4.2 hl
  exact (rising_core h4 h3 hR hS).mono (fun e W' q => by obtain ⟨Nb, c, q1, q2⟩ := q; exact ⟨_, _, _, q1, q2⟩)
end Go.Proofs.YtaflbooofchimaaGreatDoor.Alk
end
