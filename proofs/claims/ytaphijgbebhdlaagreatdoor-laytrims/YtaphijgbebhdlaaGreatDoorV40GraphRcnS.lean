/- Several texts as one: GraphRcnS, IsoShRZ. -/
import Derived.Test.YtaphijgbebhdlaaGreatDoorV22GraphPlc2
import Derived.Test.YtaphijgbebhdlaaGreatDoorV16GraphTop2I
import Derived.Test.YtaphijgbebhdlaaGreatDoorV19LaySz
import Derived.Test.YtaphijgbebhdlaaGreatDoorV39GraphRodI
section
/- The document's Canon under way: nodes in a row of one's own, a node's Kids. -/
namespace Go.Proofs.YtaphijgbebhdlaaGreatDoor.Grp
open Utf Rws Pln Flw
open Go.RowKit Go.Shelf
set_option linter.unusedSimpArgs false
set_option linter.unusedVariables false
set_option maxRecDepth 100000
set_option maxHeartbeats 4000000

theorem cell_one_rc (w : World) (a : Value) (t : TypeId) : ∀ j u, [a][j]? = some u → (w.alloc (.cells #[a] t)).cell? ((⟨w.heap.size, 0, none⟩ : Addr).add j) = some u := by
  intro j u hj
  have e : (⟨w.heap.size, 0, none⟩ : Addr).add j = ⟨w.heap.size, j, none⟩ := by simp [Addr.add]; intro h; exact h.symm
  rw [e, World.cell?_alloc_new]
  match j, hj with
  | 0, hj => simpa using hj
/-- the nodes under way -/
structure RcS (W1 W : World) (K : Nat) (nv : Value) (l : List (Nd × Value)) : Prop where
  x : Bx W K #[nv, .int .i64 0] 24
  ow : W.ownsRow (K + 1) 47 3 nv l.length (ncs l)
  kk : ∀ p ∈ l, KdOk W K nv p
  bl : Below K W1 W
theorem RcS.new (W1 : World) : RcS W1 (W1.alloc (.cells #[.slice none 0 0, .int .i64 0] 24)) W1.heap.size (.slice none 0 0) [] := ⟨Bx.new _ _ _, ⟨rfl, .inl ⟨rfl, rfl⟩⟩, fun p hp => (by cases hp), below_alloc _ _⟩
theorem RcS.later {W1 W W' : World} {K : Nat} {nv : Value} {l : List (Nd × Value)} (h : RcS W1 W K nv l) (hb : Below W.heap.size W W') : RcS W1 W' K nv l :=
  ⟨h.x.later hb, own_keep h.ow fun g hg => hb.block g (own_block h.ow hg).2, fun p hp => (h.kk p hp).keep hb.size fun b hkb => ⟨hb.block b ((h.kk p hp).lt hkb).2.1, ((h.kk p hp).lt hkb).2.2⟩, h.bl.trans (hb.mono (Nat.le_of_lt h.x.lt))⟩
theorem RcS.step {W1 wr A eW : World} {K : Nat} {nv ev : Value} {l : List (Nd × Value)} {p : Nd × Value} (h : RcS W1 wr K nv l) (hp : KdOk wr K nv p) (hA : Below wr.heap.size wr A)
    (r1 : eW.ownsRow (K + 1) 47 3 ev (l.length + 1) (ncs l ++ ncs [p])) (r2 : A.grownBy eW nv.ownBlock) (r4 : ev.ownBlock = nv.ownBlock ∨ ev.ownBlock = some A.heap.size) :
    Bx eW K #[nv, .int .i64 0] 24 ∧ RcS W1 (eW.setCell ⟨K, 0, none⟩ ev) K ev (l ++ [p]) := by
  have hK := h.x.lt
  have hsA := hA.size
  have hob : ∀ k, k < K + 1 → some k ≠ nv.ownBlock := fun k hk e => by have := (own_block h.ow e.symm).1; omega
  have hkp : ∀ k, k < wr.heap.size → some k ≠ nv.ownBlock → eW.heap[k]? = wr.heap[k]? := fun k h1 h2 => (r2.block k (by omega) h2).trans (hA.block k h1)
  have hx : Bx eW K #[nv, .int .i64 0] 24 := (hkp K hK (hob K (by omega))).trans h.x
  have hse : wr.heap.size ≤ eW.heap.size := by have := r2.size; omega
  have hss : (eW.setCell ⟨K, 0, none⟩ ev).heap.size = eW.heap.size := World.size_setCell _ _ _
  refine ⟨hx, hx.set 0 ev, ?_, fun q hq => ?_, ?_⟩
  · rw [List.length_append, List.length_singleton, ncs_app]
    exact own_keep r1 fun g hg => Below.heap_setCell _ _ _ _ (by show g ≠ K; have := (own_block r1 hg).1; omega)
  · have key : ∀ q, KdOk wr K nv q → KdOk (eW.setCell ⟨K, 0, none⟩ ev) K ev q := fun q hk => hk.keep (by rw [hss]; exact hse) fun b hb => by
      obtain ⟨b1, b2, b3⟩ := hk.lt hb
      refine ⟨(Below.heap_setCell _ _ _ _ (by show b ≠ K; omega)).trans (hkp b b2 b3), ?_⟩
      rcases r4 with e | e
      · rw [e]; exact b3
      · rw [e]
        intro e2
        injection e2 with e2
        omega
    rcases List.mem_append.1 hq with hq | hq
    · exact key q (h.kk q hq)
    · simp at hq; subst hq; exact key _ hp
  · have z1 : Below K W1 A := h.bl.trans (hA.mono (Nat.le_of_lt hK))
    have z2 := z1.grown r2 (by omega) (fun k e => by have := (own_block h.ow e).1; omega)
    exact z2.setCell (p := ⟨K, 0, none⟩) (Nat.le_refl _) _
/-- a node's Kids under way, in a box of its own behind a world -/
structure IrS (W1 W : World) (K9 : Nat) (k x yv : Value) (j : Nat) (xs : List Int) : Prop where
  y : Bx W K9 #[k, x, yv] 47
  own : W.ownsRow (K9 + 1) 3 1 yv j (xs.map fun a => Value.int .i64 a)
  bl : Below K9 W1 W
theorem IrS.new (W1 : World) (k x : Value) : IrS W1 (W1.alloc (.cells #[k, x, .slice none 0 0] 47)) W1.heap.size k x (.slice none 0 0) 0 [] := ⟨Bx.new _ _ _, ⟨rfl, .inl ⟨rfl, rfl⟩⟩, below_alloc _ _⟩
theorem IrS.step {W1 wr eW : World} {K9 j yc : Nat} {k x ev : Value} {yad : Option Addr} {xs : List Int} {q : Int} (h : IrS W1 wr K9 k x (.slice yad j yc) j xs) (hK : W1.heap.size = K9)
    (r1 : eW.ownsRow (K9 + 1) 3 1 ev (j + 1) ((xs.map fun a => Value.int .i64 a) ++ [.int .i64 q])) (r2 : (wr.drew.alloc (.cells #[.int .i64 q] 3)).grownBy eW (Value.ownBlock (.slice yad j yc))) :
    Bx eW K9 #[k, x, .slice yad j yc] 47 ∧ IrS W1 (eW.setCell ⟨K9, 2, none⟩ ev) K9 k x ev (j + 1) (xs ++ [q]) := by
  have hlt := h.y.lt
  have hs0 : (wr.drew.alloc (.cells #[.int .i64 q] 3)).heap.size = wr.heap.size + 1 := World.size_alloc _ _
  have hob : ∀ b, b < K9 + 1 → some b ≠ Value.ownBlock (.slice yad j yc) := fun b hb e => by
    have := (own_block h.own e.symm).1
    omega
  have hy : Bx eW K9 #[k, x, .slice yad j yc] 47 := (r2.block K9 (by omega) (hob K9 (by omega))).trans ((Below.heap_alloc wr.drew _ K9 hlt).trans h.y)
  refine ⟨hy, hy.set 2 ev, ?_, ?_⟩
  · rw [List.map_append]
    exact own_later1 r1 fun g hg _ => Below.heap_setCell _ _ _ _ (by show g ≠ K9; omega)
  · have hW : K9 ≤ wr.heap.size := Nat.le_of_lt hlt
    have b1 : Below K9 W1 (wr.drew.alloc (.cells #[.int .i64 q] 3)) := h.bl.drew.trans ((below_alloc wr.drew _).mono hW)
    have b2 := b1.grown r2 (by omega) fun g e => by
      rcases Nat.lt_or_ge g (K9 + 1) with hg | hg
      · exact absurd e.symm (hob g hg)
      · omega
    exact b2.setCell (p := ⟨K9, 2, none⟩) (Nat.le_refl _) _
end Go.Proofs.YtaphijgbebhdlaaGreatDoor.Grp
end

section
/- Shared, the program's and the document's, by their contracts. -/
namespace Go.Proofs.YtaphijgbebhdlaaGreatDoor.Alk
open Utf Rws Pln Flw Grp
open Go.RowKit Go.Shelf
set_option linter.unusedSimpArgs false
set_option linter.unusedVariables false
set_option maxRecDepth 100000
set_option maxHeartbeats 8000000

theorem rshared_core {w : World} {ad : Option Addr} {len cap : Nat} {r : Int} {ns : List Nd} (hlen : len ≤ 9223372036854775807) (hN : NAt w ad len ns) (hS : Sm2 ns) :
    Calls Tryz.prog 18 #[gv ad len cap r] w (ORes w (rgG ⟨ns, r⟩) (shO ns r.toNat (odG ns r.toNat))) := by
  have HLn : Hid (len = ns.length) := hN.1
  have h0 : Hid (RS w (w.alloc (.cells #[.slice ad len cap, .int .i64 r] 24)) w.heap.size (.slice ad len cap) (.int .i64 r)) := ⟨Bx.new _ _ _, below_alloc _ _⟩
  have HO0 : ∀ W, RS w W w.heap.size (.slice ad len cap) (.int .i64 r) → Calls Tryz.prog 21 #[gv ad len cap r] W (ORes W (rgG ⟨ns, r⟩) (odG ns r.toNat)) := fun W h => rorder12_core hlen (hN.later h.bl (Nat.le_refl _)) hS
  cases hq : rgG ⟨ns, r⟩
  case false =>
    rw [hq] at HO0
    have HO : Hid (∀ W, Hid (RS w W w.heap.size (.slice ad len cap) (.int .i64 r)) → Calls Tryz.prog 21 #[gv ad len cap r] W fun e W' => e = .returned (.tuple #[.slice none 0 0, .int .i64 1]) ∧ Hid (Below w.heap.size w W')) := fun W h => (HO0 W h.out).mono (fun e W' q => by
      obtain ⟨q1, q2⟩ := ores_no q
      exact ⟨q1, h.out.bl.trans (q2.mono h.out.bl.size)⟩)
    clear HO0 hN hS
    go_enter Tryz.func18, Tryz.ntmps18
    go_wp2_with (go_at_call 21; refine (HO.out _ h0).mono ?_; rintro e w1 ⟨rfl, H1⟩)
    go_ret2
    exact ⟨by rw [if_neg (by decide)]; rfl, H1.out⟩
  case true =>
  rw [hq] at HO0
  obtain ⟨f1, f2, f3⟩ := rgG_facts hq
  rw [← HLn.out] at f1 f2
  obtain ⟨m, rfl, hm⟩ := isP_nat f2
  rw [Int.toNat_natCast] at HO0 ⊢
  have hsum := (hS (by have := HLn.out; omega)).2
  obtain ⟨b, off, rfl, hb, hc⟩ := hN.2 (by omega)
  have HLo : Hid (∀ a ∈ odG ns m, a < len) := fun a ha => by rw [HLn.out]; exact odG_lt f3 (by rw [← HLn.out]; exact hm) a ha
  obtain ⟨O, HOO⟩ : ∃ O, Hid (O = odG ns m) := ⟨_, rfl⟩
  rw [← HOO.out] at HLo HO0 ⊢
  have HO : Hid (∀ W, Hid (RS w W w.heap.size (.slice (some ⟨b, off, none⟩) len cap) (.int .i64 (m : Int))) → Calls Tryz.prog 21 #[gv (some ⟨b, off, none⟩) len cap (m : Int)] W fun e W' => ∃ oa oc, e = .returned (.tuple #[.slice oa O.length oc, .int .i64 0]) ∧ Hid (IAt W' oa O.length (O.map fun a : Nat => (a : Int)) ∧ O.length ≤ 5000 ∧ RS w W' w.heap.size (.slice (some ⟨b, off, none⟩) len cap) (.int .i64 (m : Int)))) := fun W h => (HO0 W h.out).mono (fun e W' q => by
    obtain ⟨oa, oc, q1, q2, q3, q4⟩ := ores_yes q
    exact ⟨oa, oc, q1, q2, q3, h.out.later q4⟩)
  have HCN : Hid (∀ p, p < len → ∃ pad plen pcap, plen = (ns.getD p nd0).kids.length ∧ plen ≤ 1000000000 ∧ (0 < plen → ∃ kb koff, pad = some ⟨kb, koff, none⟩ ∧ ∀ W, Below w.heap.size w W → ∀ i, i < plen → W.cell? ⟨kb, koff + i, none⟩ = some (.int .i64 ((ns.getD p nd0).kids.getD i 0))) ∧ ∀ W, Below w.heap.size w W → W.cell? ⟨b, off + p * 3, none⟩ = some (.int .i64 (ns.getD p nd0).kind) ∧ W.cell? ⟨b, off + p * 3 + 1, none⟩ = some (.string (mk (ns.getD p nd0).text)) ∧ W.cell? ⟨b, off + p * 3 + 2, none⟩ = some (.slice pad plen pcap)) := fun p hp => by
    obtain ⟨pad, plen, pcap, q1, q2, q3, q4, q5, z0, z1, z2⟩ := hc p hp
    have hmm := mem_getD (by rw [← HLn.out]; exact hp : p < ns.length)
    have := kids_sum hmm
    refine ⟨pad, plen, pcap, q5.1, by have := q5.1; omega, fun hpp => ?_, fun W h => ⟨(h.cell (p := ⟨b, off + p * 3, none⟩) hb).trans z0, (h.cell (p := ⟨b, off + p * 3 + 1, none⟩) hb).trans z1, (h.cell (p := ⟨b, off + p * 3 + 2, none⟩) hb).trans z2⟩⟩
    obtain ⟨kb, koff, e, hkb, hkc⟩ := q5.2 hpp
    exact ⟨kb, koff, e, fun W h i hi => (h.cell (p := ⟨kb, koff + i, none⟩) hkb).trans (hkc i hi).2⟩
  have HKP : Hid (∀ p, p < len → ∀ i, i < (ns.getD p nd0).kids.length → ∃ q : Nat, (ns.getD p nd0).kids.getD i 0 = (q : Int) ∧ q < len) := fun p hp i hi => by
    have := isP_nat (f3 _ (mem_getD (by rw [← HLn.out]; exact hp : p < ns.length)) _ (mem_getI hi))
    rw [HLn.out]; exact this
  -- how large the times may get
  have HTB : Hid (∀ j, j < O.length → ∀ x, timN (Grp.bump (fun _ => 0) m) ((shN ns O).take j) x + (ns.getD (O.getD j 0) nd0).kids.length ≤ 1 + O.length * 1000000000) := fun j hj x => by
    have h1 := timN_le ((shN ns O).take j) (Grp.bump (fun _ => 0) m) x
    have h2 := bump_le (fun _ => 0) m x
    have hl : (shN ns O).length = O.length := by unfold shN; rw [List.length_map]
    have h3 := sumK_at (shN ns O) j (by rw [hl]; exact hj)
    have h4 := sumK_c (C := 1000000000) (shN ns O) (fun n hn => by
      unfold shN at hn
      obtain ⟨a, ha, rfl⟩ := List.mem_map.1 hn
      have := kids_sum (mem_getD (by rw [← HLn.out]; exact HLo.out a ha : a < ns.length))
      omega)
    rw [shN_at hj] at h3
    rw [hl] at h4
    have e : O.getD j 0 = O[j] := by rw [List.getD_eq_getElem?_getD, List.getElem?_eq_getElem hj]; rfl
    rw [e]
    omega
  have HTA : Hid (shT ns m O = timN (Grp.bump (fun _ => 0) m) ((shN ns O).take O.length)) := by
    show _ = _
    unfold shT
    rw [List.take_of_length_le (by unfold shN; rw [List.length_map]; exact Nat.le_refl _)]
  have HTS : Hid (∀ j, j < O.length → timN (Grp.bump (fun _ => 0) m) ((shN ns O).take (j + 1)) = bmps (timN (Grp.bump (fun _ => 0) m) ((shN ns O).take j)) (ns.getD (O.getD j 0) nd0).kids) := fun j hj => by
    have e : O.getD j 0 = O[j] := by rw [List.getD_eq_getElem?_getD, List.getElem?_eq_getElem hj]; rfl
    rw [timN_snoc _ _ _ (by unfold shN; rw [List.length_map]; exact hj), shN_at hj, e]
  have hmk := fun w' : World => run_make_row' (P := Tryz.prog) 45 3 (.int .i64 0) 8 Tryz.underInts Tryz.infoInt rfl .i64 .i64 len (by omega) (by omega) w'
  obtain ⟨i1, hi1, hy0, hy1, hy2⟩ := info_parts Tryz.infoInt
  obtain ⟨K0, HK0⟩ : ∃ K0, Hid (K0 = w.heap.size) := ⟨_, rfl⟩
  rw [← HK0.out] at HO h0
  clear HO0 hN hS hc f2 f3 hsum hb
  go_enter Tryz.func18, Tryz.ntmps18
  go_wp2_with fail
  rw [← HK0.out]
  generalize w.alloc (.cells #[.slice (some ⟨b, off, none⟩) len cap, .int .i64 (m : Int)] 24) = W0 at h0 ⊢
  refine (HO.out _ h0).mono ?_
  rintro e w1 ⟨oa, oc, rfl, H1⟩
  clear h0 HO
  obtain ⟨c0, c1⟩ := H1.out.2.2.g.c2
  have hOl : O.length ≤ 5000 := H1.out.2.1
  go_upto_region 5 with fail
  clear hmk
  obtain ⟨KM, HKM⟩ : ∃ KM, Hid (KM = w1.heap.size) := ⟨_, rfl⟩
  have HM0 : Hid (ShS w1 (w1.alloc (.cells (madeCells #[Value.int .i64 0] len) 3)) KM len (fun _ => 0)) := by
    rw [HKM.out, tA_made]
    exact ⟨Bx.new _ _ _, below_alloc _ _⟩
  rw [← HKM.out]
  generalize w1.alloc (.cells (madeCells #[Value.int .i64 0] len) 3) = W2 at HM0 ⊢
  have HAll : Hid (∀ W, Below KM w1 W → Below w.heap.size w W ∧ W.cell? ⟨K0, 0, none⟩ = some (.slice (some ⟨b, off, none⟩) len cap) ∧ W.cell? ⟨K0, 1, none⟩ = some (.int .i64 (m : Int)) ∧ ∀ j, j < O.length → ∃ ob ooff, oa = some ⟨ob, ooff, none⟩ ∧ W.cell? ⟨ob, ooff + j, none⟩ = some (.int .i64 ((O.getD j 0 : Nat) : Int))) := fun W h => by
    rw [HKM.out] at h
    have hr := H1.out.2.2.later h
    refine ⟨hr.bl, hr.g.c2.1, hr.g.c2.2, fun j hj => ?_⟩
    obtain ⟨ob, ooff, e, hob, hoc⟩ := H1.out.1.2 (by omega)
    refine ⟨ob, ooff, e, (h.cell (p := ⟨ob, ooff + j, none⟩) hob).trans ?_⟩
    have := (hoc j hj).2
    rw [List.getD_eq_getElem?_getD, List.getElem?_map, List.getElem?_eq_getElem hj] at this
    rw [this, List.getD_eq_getElem?_getD, List.getElem?_eq_getElem hj]
    rfl
  clear c0 c1 H1
  obtain ⟨_, c0, c1, _⟩ := HAll.out _ HM0.out.bl
  obtain ⟨T0, HT0⟩ : ∃ T0 : Nat → Nat, Hid (T0 = fun _ => 0) := ⟨_, rfl⟩
  rw [← HT0.out] at HM0 HTB HTA HTS
  have m0 := (HM0.out.m.cell m).trans (tA_get T0 hm)
  have z0 := HM0.out.m.fz m
  have hT0 : T0 m ≤ 1 := by rw [HT0.out]; exact Nat.zero_le 1
  have HM1 := HM0.out.bump m
  generalize hTm : T0 m = tp at HM1 m0 hT0
  have HM2 : Hid (ShS w1 (W2.setCell ⟨KM, m, none⟩ (.int .i64 ((tp : Int) + 1))) KM len (Grp.bump T0 m)) := HM1
  have hm0 : (0 : Int) ≤ (m : Int) := by omega
  have hm1 : (m : Int) < (len : Int) := by omega
  clear HM1 hTm
  go_upto_region 6 with fail
  clear HM0 c0 c1 m0 z0 hT0
  generalize W2.setCell ⟨KM, m, none⟩ (.int .i64 ((tp : Int) + 1)) = W3 at HM2 ⊢
  go_wp2_with fail
  go_loopw [7] (fun i wr => ∃ j : Nat, j ≤ O.length ∧ i = .int .i64 (j : Int) ∧ Hid (ShS w1 wr KM len (timN (Grp.bump T0 m) ((shN ns O).take j)))) (fun i _ => O.length - (intOf i).toNat)
  case atStart => exact ⟨0, Nat.zero_le _, rfl, HM2⟩
  case round =>
    obtain ⟨j, hj, rfl, HS⟩ := hrel
    clear HM2
    by_cases hlt : j < O.length
    · obtain ⟨hbw, c0, c1, hoc⟩ := HAll.out _ HS.out.bl
      obtain ⟨ob, ooff, rfl, x0⟩ := hoc j hlt
      have hal : O.getD j 0 < len := by
        have : O.getD j 0 ∈ O := by rw [List.getD_eq_getElem?_getD, List.getElem?_eq_getElem hlt]; exact List.getElem_mem _
        exact HLo.out _ this
      have HTJ : Hid (timN (Grp.bump T0 m) ((shN ns O).take (j + 1)) = bmps (timN (Grp.bump T0 m) ((shN ns O).take j)) (ns.getD (O.getD j 0) nd0).kids) := HTS.out j hlt
      have HTb : Hid (∀ x, timN (Grp.bump T0 m) ((shN ns O).take j) x + (ns.getD (O.getD j 0) nd0).kids.length ≤ 1 + O.length * 1000000000) := HTB.out j hlt
      generalize O.getD j 0 = a at x0 hal HTJ HTb
      generalize timN (Grp.bump T0 m) ((shN ns O).take j) = T at HS HTJ HTb
      obtain ⟨kad, klen, kcap, k3, kb1, k6, k7⟩ := HCN.out a hal
      obtain ⟨y0, y1, y2⟩ := k7 _ hbw
      have HKp := HKP.out a hal
      obtain ⟨kk, hkk⟩ : ∃ kk, kk = (ns.getD a nd0).kind := ⟨_, rfl⟩
      obtain ⟨kx, hkx⟩ : ∃ kx, kx = (ns.getD a nd0).text := ⟨_, rfl⟩
      obtain ⟨ll, hl2⟩ : ∃ ll, ll = (ns.getD a nd0).kids := ⟨_, rfl⟩
      rw [← hkk] at y0
      rw [← hkx] at y1
      rw [← hl2] at k3 k6 HKp HTJ HTb
      have HKL : Hid (klen = ll.length) := k3
      have H6 : Hid (0 < klen → ∃ kb koff, kad = some ⟨kb, koff, none⟩ ∧ ∀ W, Below w.heap.size w W → ∀ i, i < klen → W.cell? ⟨kb, koff + i, none⟩ = some (.int .i64 (ll.getD i 0))) := k6
      have H8 : Hid (∀ i, i < ll.length → ∃ q : Nat, ll.getD i 0 = (q : Int) ∧ q < len) := HKp
      have ha0 : (0 : Int) ≤ (a : Int) := by omega
      have ha1 : (a : Int) < (len : Int) := by omega
      have hj0 : (0 : Int) ≤ (j : Int) := by omega
      have hj1 : (j : Int) < (O.length : Int) := by omega
      clear hkk hkx hl2 k3 k6 k7 HKp hbw hoc hal
      go_wp2_with fail
      go_region_held3 (fun w' => w'.cell? ⟨K0, 0, none⟩ = some (.slice (some ⟨b, off, none⟩) len cap) ∧ w'.cell? ⟨ob, ooff + j, none⟩ = some (.int .i64 (a : Int)) ∧ w'.cell? ⟨b, off + a * 3, none⟩ = some (.int .i64 kk) ∧ w'.cell? ⟨b, off + a * 3 + 1, none⟩ = some (.string (mk kx)) ∧ w'.cell? ⟨b, off + a * 3 + 2, none⟩ = some (.slice kad klen kcap)) (go_keep) (fail)
      have HX : Hid (ShS w1 (wr.alloc (.cells #[.int .i64 kk, .string (mk kx), .slice kad klen kcap] 47)).drew KM len T ∧ Bx (wr.alloc (.cells #[.int .i64 kk, .string (mk kx), .slice kad klen kcap] 47)).drew wr.heap.size #[.int .i64 kk, .string (mk kx), .slice kad klen kcap] 47 ∧ KM < wr.heap.size) := ⟨HS.out.later (below_alloc _ _).drew, Bx.new _ _ _, HS.out.m.lt⟩
      clear HS x0 y0 y1 y2 c0 c1
      generalize (wr.alloc (.cells #[.int .i64 kk, .string (mk kx), .slice kad klen kcap] 47)).drew = W5 at HX ⊢
      generalize wr.heap.size = K8 at HX ⊢
      obtain ⟨e0, e1, e2⟩ := HX.out.2.1.c3

      go_wp2_with fail
      go_loopw [9] (fun i wr => ∃ k : Nat, k ≤ klen ∧ i = .int .i64 (k : Int) ∧ Hid (ShS w1 wr KM len (bmps T (ll.take k)) ∧ Bx wr K8 #[.int .i64 kk, .string (mk kx), .slice kad klen kcap] 47 ∧ KM < K8)) (fun i _ => klen - (intOf i).toNat)
      case atStart => exact ⟨0, Nat.zero_le _, rfl, HX⟩
      case round =>
        obtain ⟨k, hk, rfl, HJ⟩ := hrel
        clear HX e0 e1 e2
        obtain ⟨e0, e1, e2⟩ := HJ.out.2.1.c3
        by_cases hkl : k < klen
        · have hk0 : (0 : Int) ≤ (k : Int) := by omega
          have hk1 : (k : Int) < (klen : Int) := by omega
          obtain ⟨kb, koff, rfl, hkc⟩ := H6.out (by omega)
          obtain ⟨p, hp, hpl⟩ := H8.out k (by rw [← HKL.out]; exact hkl)
          have q0 := hkc _ (HAll.out _ HJ.out.1.bl).1 k hkl
          rw [hp] at q0
          have m0 := (HJ.out.1.m.cell p).trans (tA_get (bmps T (ll.take k)) hpl)
          have z0 := HJ.out.1.m.fz p
          have hTp : bmps T (ll.take k) p ≤ 10000000000000 := by
            have h1 := bmps_le (ll.take k) T p
            have h2 := HTb.out p
            rw [List.length_take] at h1
            have h3 : O.length * 1000000000 ≤ 5000 * 1000000000 := Nat.mul_le_mul_right _ hOl
            omega
          have HT4 : Grp.bump (bmps T (ll.take k)) p = bmps T (ll.take (k + 1)) := by
            rw [bmps_snoc T ll k (by rw [← HKL.out]; exact hkl), hp, Int.toNat_natCast]
          have HJ2 := HJ.out.1.bump p
          rw [HT4] at HJ2
          have HJb := HJ.out.2.1.other (fun e => by have := HJ.out.2.2; omega : K8 ≠ KM) p (.int .i64 ((bmps T (ll.take k) p + 1 : Nat) : Int))
          have HJk : KM < K8 := HJ.out.2.2
          generalize bmps T (ll.take k) p = tp at m0 hTp HJ2 HJb
          have HJ3 : Hid (ShS w1 (wr.setCell ⟨KM, p, none⟩ (.int .i64 ((tp : Int) + 1))) KM len (bmps T (ll.take (k + 1))) ∧ Bx (wr.setCell ⟨KM, p, none⟩ (.int .i64 ((tp : Int) + 1))) K8 #[.int .i64 kk, .string (mk kx), .slice (some ⟨kb, koff, none⟩) klen kcap] 47 ∧ KM < K8) := ⟨HJ2, HJb, HJk⟩
          have hp0 : (0 : Int) ≤ (p : Int) := by omega
          have hp1 : (p : Int) < (len : Int) := by omega
          clear HT4 HJ HJ2 hkc hp HJb HJk
          go_wp2_with fail
          generalize wr.setCell ⟨KM, p, none⟩ (.int .i64 ((tp : Int) + 1)) = W6 at HJ3 ⊢
          go_roundw
          case rel => exact ⟨k + 1, by omega, by go_num, HJ3⟩
          case measure => (simp [intOf] <;> omega)
        · have hke : k = klen := by omega
          have HJ3 : Hid (ShS w1 wr KM len (timN (Grp.bump T0 m) ((shN ns O).take (j + 1)))) := by
            have := HJ.out.1
            rw [hke, List.take_of_length_le (by rw [HKL.out]; exact Nat.le_refl _), ← HTJ.out] at this
            exact this
          clear HJ hke HTJ HTb
          go_wp2_with fail
          go_roundw
          case rel => exact ⟨j + 1, by omega, by go_num, HJ3⟩
          case measure => (simp [intOf] <;> omega)
    · have hje : j = O.length := by omega
      have HS2 : Hid (ShS w1 wr KM len (shT ns m O)) := by
        have := HS.out
        rw [hje, ← HTA.out] at this
        exact this
      have HSO : Hid (∀ j, j < O.length → ∀ a, O.getD j 0 = a → (O.take (j + 1)).filter (fun a => decide (1 < shT ns m O a)) = (O.take j).filter (fun a => decide (1 < shT ns m O a)) ++ (if 1 < shT ns m O a then [a] else [])) := fun j hj a e => by
        rw [fil_tk hj]
        rw [List.getD_eq_getElem?_getD, List.getElem?_eq_getElem hj] at e
        simp only [Option.getD_some] at e
        rw [e]
        simp
      have HSE : Hid (shO ns m O = (O.take O.length).filter (fun a => decide (1 < shT ns m O a))) := by
        show _ = _
        rw [List.take_length]; rfl
      have HTB9 : Hid (∀ x, shT ns m O x ≤ 10000000000000) := fun x => by
        have h1 := timN_le (shN ns O) (Grp.bump T0 m) x
        have h2 := bump_le T0 m x
        have h5 : T0 x = 0 := by rw [HT0.out]
        have h4 := sumK_c (C := 1000000000) (shN ns O) (fun n hn => by
          unfold shN at hn
          obtain ⟨a, ha, rfl⟩ := List.mem_map.1 hn
          obtain ⟨_, plen, _, e, h, _⟩ := HCN.out a (HLo.out a ha)
          omega)
        have hl : (shN ns O).length = O.length := by unfold shN; rw [List.length_map]
        rw [hl] at h4
        have h3 : O.length * 1000000000 ≤ 5000 * 1000000000 := Nat.mul_le_mul_right _ hOl
        have h6 : shT ns m O x = timN (Grp.bump T0 m) (shN ns O) x := by unfold shT; rw [HT0.out]
        omega
      clear HS hje HTA HTS HTB HCN HKP
      generalize shT ns m O = T at HS2 HSO HSE HTB9
      go_wp2_with fail
      go_loopw [10, 11] (fun ov i wr => ∃ (sa : Option Addr) (sc j : Nat) (xs : List Nat), ov = .slice sa xs.length sc ∧ j ≤ O.length ∧ i = .int .i64 (j : Int) ∧ Hid (xs = (O.take j).filter (fun a => decide (1 < T a)) ∧ ShF w1 wr KM len T (.slice sa xs.length sc) xs)) (fun _ i _ => O.length - (intOf i).toNat)
      case atStart => exact ⟨none, 0, 0, [], rfl, Nat.zero_le _, rfl, by simp, HS2.out, World.ownsRow_nil _ _ _ _⟩
      case round =>
        obtain ⟨sa, sc, j, xs, rfl, hj, rfl, HF⟩ := hrel
        clear HS2
        have hxl : xs.length ≤ 5000 := by
          have h1 := List.length_filter_le (fun a => decide (1 < T a)) (O.take j)
          rw [← HF.out.1, List.length_take] at h1
          omega
        by_cases hlt : j < O.length
        · obtain ⟨hbw, c0, c1, hoc⟩ := HAll.out _ HF.out.2.s.bl
          obtain ⟨ob, ooff, rfl, x0⟩ := hoc j hlt
          have hal : O.getD j 0 < len := by
            have : O.getD j 0 ∈ O := by rw [List.getD_eq_getElem?_getD, List.getElem?_eq_getElem hlt]; exact List.getElem_mem _
            exact HLo.out _ this
          have HXJ := HSO.out j hlt (O.getD j 0) rfl
          rw [← HF.out.1] at HXJ
          generalize O.getD j 0 = a at x0 hal HXJ
          have m0 := (HF.out.2.s.m.cell a).trans (tA_get T hal)
          have hTa := HTB9.out a
          have ha0 : (0 : Int) ≤ (a : Int) := by omega
          have ha1 : (a : Int) < (len : Int) := by omega
          have hj0 : (0 : Int) ≤ (j : Int) := by omega
          have hj1 : (j : Int) < (O.length : Int) := by omega
          have HFo : Hid (ShF w1 wr KM len T (.slice sa xs.length sc) xs) := HF.out.2
          have hkm : KM < wr.heap.size := HF.out.2.s.m.lt
          by_cases ht : 1 < T a
          · rw [if_pos ht] at HXJ
            have HX2 : Hid (xs ++ [a] = (O.take (j + 1)).filter (fun a => decide (1 < T a))) := HXJ.symm
            have ht2 : (1 : Int) < (T a : Int) := by omega
            clear HXJ HF hbw hoc HSO HSE HLo HTB9 ht c0 c1
            generalize T a = ta at m0 hTa ht2
            go_wp2_with (at_builtin; refine wpList_append_own_at _ rfl _ _ 45 rfl (KM + 1) 3 i1 (.int .i64 0) 1 8 Tryz.underInts hi1 hy0 hy1 hy2 rfl (by decide) _ _ _ rfl (HFo.out.o.alloc _) ⟨wr.heap.size, 0, none⟩ 1 1 [.int .i64 (a : Int)] rfl rfl (cell_one_sh _ _ _) (fun u hu => by simp at hu; subst hu; rfl) (by have : maxLen = 9223372036854775807 := rfl; omega) (by omega) (by rw [World.size_alloc]; omega) ?_; intro ov W8 hown hgr hnil hat)
            have HY := HFo.out.step (a := a) (below_alloc _ _) hown hgr
            obtain ⟨va, vc, rfl, _, _⟩ := own_shapeN hown
            have HY2 : Hid (xs ++ [a] = (O.take (j + 1)).filter (fun a => decide (1 < T a)) ∧ ShF w1 W8 KM len T (.slice va (xs ++ [a]).length vc) (xs ++ [a])) := ⟨HX2.out, by rw [List.length_append]; exact HY⟩
            have hxl2 : (xs ++ [a]).length = xs.length + 1 := by rw [List.length_append]; rfl
            clear HY hown hgr hnil hat HFo HX2 m0 x0
            go_roundw
            case rel => exact ⟨va, vc, j + 1, xs ++ [a], by rw [hxl2], by omega, by go_num, HY2⟩
            case measure => (simp [intOf] <;> omega)
          · rw [if_neg ht, List.append_nil] at HXJ
            have HY2 : Hid (xs = (O.take (j + 1)).filter (fun a => decide (1 < T a)) ∧ ShF w1 wr KM len T (.slice sa xs.length sc) xs) := ⟨HXJ.symm, HFo.out⟩
            have ht2 : ¬ (1 : Int) < (T a : Int) := by omega
            clear HXJ HF hbw hoc HSO HSE HLo HTB9 ht c0 c1 HFo
            generalize T a = ta at m0 hTa ht2
            go_wp2_with fail
            go_roundw
            case rel => exact ⟨sa, sc, j + 1, xs, rfl, by omega, by go_num, HY2⟩
            case measure => (simp [intOf] <;> omega)
        · have hje : j = O.length := by omega
          have HFin : Hid (ORes w true (shO ns m O) (.returned (.tuple #[.slice sa xs.length sc, .int .i64 0])) wr) := by
            have h1 := HF.out.1
            rw [hje, ← HSE.out] at h1
            have h2 := HF.out.2.o
            obtain ⟨q1, q2, q3⟩ := iat_own (show wr.ownsRow (KM + 1) 3 1 (.slice sa xs.length sc) xs.length ((xs.map fun a : Nat => (a : Int)).map fun a => Value.int .i64 a) from h2) (fun z hz => by
              obtain ⟨a, ha, rfl⟩ := List.mem_map.1 hz
              have h3 : a ∈ O := by
                have h4 := HF.out.1
                rw [h4] at ha
                exact List.mem_of_mem_take (List.mem_filter.1 ha).1
              have := HLo.out a h3
              constructor <;> omega)
            refine ⟨?_, (HAll.out _ HF.out.2.s.bl).1⟩
            rw [if_pos rfl, ← h1]
            exact ⟨sa, sc, rfl, q1.1, hxl⟩
          clear HF HAll HSO HSE HLo HTB9
          go_wp2_with fail
          go_ret2
          exact HFin.out
end Go.Proofs.YtaphijgbebhdlaaGreatDoor.Alk
end
