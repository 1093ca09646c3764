/- Several texts as one: GraphRcnS, GraphRcn, GraphRcsI. -/
import Derived.Test.YtaflbooofchimaaGreatDoorJ29GraphAppI
import Derived.Test.YtaflbooofchimaaGreatDoorJ12GraphTop
import Derived.Test.YtaflbooofchimaaGreatDoorJ30GraphRwk0
import Derived.Deep.RegionLaw
import Derived.Deep.RegionHeld3
import Derived.Test.YtaflbooofchimaaGreatDoorJ19GraphKyV
import Derived.Test.YtaflbooofchimaaGreatDoorJ20GraphRnod2
section
/- The document's Canon under way: nodes in a row of one's own, a node's Kids. -/
namespace Go.Proofs.YtaflbooofchimaaGreatDoor.Grp
open Utf Rws Pln Flw
open Go.RowKit Go.Shelf
set_option linter.unusedSimpArgs false
set_option linter.unusedVariables false
set_option maxRecDepth 100000
set_option maxHeartbeats 4000000

theorem step_append_rc {P : Program} {ops : Array Oper} {o : Oper} {a : Act} {w : World} {K : Act → World → Prop} {Q : Exit → Act → World → Prop} {E : Prop}
    (hg : o.guard = none) (s x : Operand) (t : TypeId) (hop : o.op = Op.call { callee := Callee.builtin Builtin.append, args := #[s, x], argTypes := #[t, t] }) (base : Nat)
    (e : TypeId) (i : TypeInfo) (z : Value) (size bytes : Nat) (h1 : P.underlying t = some (.slice e)) (h2 : P.info? e = some i) (h3 : i.zero = some z) (h4 : i.size = size) (h5 : i.bytes = bytes) (h6 : z.cells.size = size) (h7 : 0 < size)
    (v : Value) (n : Nat) (xs : List Value) (hs : a.eval s = v) (hown : w.ownsRow base e size v n xs)
    (ad : Addr) (m c : Nat) (news : List Value) (hx : a.eval x = .slice (some ad) m c) (hn : news.length = m * size) (hc : ∀ j u, news[j]? = some u → w.cell? (ad.add j) = some u) (h1c : ∀ u ∈ news, u.oneCell' = true)
    (b1 : n + m ≤ maxLen) (b2 : (n + m) * bytes ≤ 140737488355328) (hbase : base ≤ w.heap.size)
    (hK : ∀ v' w', w'.ownsRow base e size v' (n + m) (xs ++ news) → w.grownBy w' v.ownBlock → (v'.ownBlock = v.ownBlock ∨ v'.ownBlock = some w.heap.size) → K (a.put o.dst v') w') :
    if Region.wanted o (yielded ops a.tmps) = true then Oper.wp P o a w K Q else E := by
  have hw : Region.wanted o (yielded ops a.tmps) = true := by simp [Region.wanted, hg]
  rw [if_pos hw]
  obtain ⟨v', w', hrun, r1, r2, _, r4⟩ := run_append_own_at (P := P) w base t o.type e i z size bytes h1 h2 h3 h4 h5 h6 h7 v n xs hown ad m c news hn hc h1c b1 b2 hbase
  unfold Oper.wp
  simp [execOp, hop, resolve, invoke, builtin, hs, hx, hrun, Result.andThen]
  exact hK v' w' r1 r2 r4
theorem cell_one_rc (w : World) (a : Value) (t : TypeId) : ∀ j u, [a][j]? = some u → (w.alloc (.cells #[a] t)).cell? ((⟨w.heap.size, 0, none⟩ : Addr).add j) = some u := by
  intro j u hj
  have e : (⟨w.heap.size, 0, none⟩ : Addr).add j = ⟨w.heap.size, j, none⟩ := by simp [Addr.add]; intro h; exact h.symm
  rw [e, World.cell?_alloc_new]
  match j, hj with
  | 0, hj => simpa using hj
theorem cell_three_rc (w : World) (a b c : Value) (t : TypeId) : ∀ j u, [a, b, c][j]? = some u → (w.alloc (.cells #[a, b, c] t)).cell? ((⟨w.heap.size, 0, none⟩ : Addr).add j) = some u := by
  intro j u hj
  have e : (⟨w.heap.size, 0, none⟩ : Addr).add j = ⟨w.heap.size, j, none⟩ := by simp [Addr.add]; intro h; exact h.symm
  rw [e, World.cell?_alloc_new]
  match j, hj with
  | 0, h => exact h
  | 1, h => exact h
  | 2, h => exact h
  | (_ + 3), h => simp at h
/-- where a place is among those that were laid -/
def plP (O : List Nat) (i : Nat) (x : Nat) : Int := if x ∈ O.take i then (O.idxOf x : Int) else 0
theorem plP_succ {O : List Nat} (hn : O.Nodup) {i : Nat} (h : i < O.length) (x : Nat) : plP O (i + 1) x = if x = O[i] then (i : Int) else plP O i x := by
  unfold plP
  have ht : O.take (i + 1) = O.take i ++ [O[i]] := List.take_succ_eq_append_getElem h
  by_cases e : x = O[i]
  · rw [if_pos e, if_pos (by rw [ht, e]; exact List.mem_append_right _ (by simp)), e]
    have hl := List.idxOf_lt_length_of_mem (List.getElem_mem h)
    have := List.getElem_idxOf hl
    have h2 := (List.getElem_inj (h₀ := hl) (h₁ := h) hn).1 this
    rw [h2]
  · rw [if_neg e]
    by_cases q : x ∈ O.take i
    · rw [if_pos q, if_pos (by rw [ht]; exact List.mem_append_left _ q)]
    · have : x ∉ O.take (i + 1) := fun h => by
        rw [ht] at h
        rcases List.mem_append.1 h with h | h
        · exact q h
        · simp at h
          exact e h
      rw [if_neg q, if_neg this]
theorem plP_all {O : List Nat} {x : Nat} (h : x ∈ O) : plP O O.length x = (O.idxOf x : Int) := by unfold plP; rw [List.take_length, if_pos h]
/-- the nodes under way -/
structure RcS (W1 W : World) (K : Nat) (nv : Value) (l : List (Nd × Value)) : Prop where
  x : Bx W K #[nv, .int .i64 0] 24
  ow : W.ownsRow (K + 1) 35 3 nv l.length (ncs l)
  kk : ∀ p ∈ l, KdOk W K nv p
  bl : Below K W1 W
theorem RcS.new (W1 : World) : RcS W1 (W1.alloc (.cells #[.slice none 0 0, .int .i64 0] 24)) W1.heap.size (.slice none 0 0) [] := ⟨Bx.new _ _ _, ⟨rfl, .inl ⟨rfl, rfl⟩⟩, fun p hp => (by cases hp), below_alloc _ _⟩
theorem RcS.later {W1 W W' : World} {K : Nat} {nv : Value} {l : List (Nd × Value)} (h : RcS W1 W K nv l) (hb : Below W.heap.size W W') : RcS W1 W' K nv l :=
  ⟨h.x.later hb, own_keep h.ow fun g hg => hb.block g (own_block h.ow hg).2, fun p hp => (h.kk p hp).keep hb.size fun b hkb => ⟨hb.block b ((h.kk p hp).lt hkb).2.1, ((h.kk p hp).lt hkb).2.2⟩, h.bl.trans (hb.mono (Nat.le_of_lt h.x.lt))⟩
theorem RcS.step {W1 wr A eW : World} {K : Nat} {nv ev : Value} {l : List (Nd × Value)} {p : Nd × Value} (h : RcS W1 wr K nv l) (hp : KdOk wr K nv p) (hA : Below wr.heap.size wr A)
    (r1 : eW.ownsRow (K + 1) 35 3 ev (l.length + 1) (ncs l ++ ncs [p])) (r2 : A.grownBy eW nv.ownBlock) (r4 : ev.ownBlock = nv.ownBlock ∨ ev.ownBlock = some A.heap.size) :
    Bx eW K #[nv, .int .i64 0] 24 ∧ RcS W1 (eW.setCell ⟨K, 0, none⟩ ev) K ev (l ++ [p]) := by
  have hK := h.x.lt
  have hsA := hA.size
  have hob : ∀ k, k < K + 1 → some k ≠ nv.ownBlock := fun k hk e => by have := (own_block h.ow e.symm).1; omega
  have hkp : ∀ k, k < wr.heap.size → some k ≠ nv.ownBlock → eW.heap[k]? = wr.heap[k]? := fun k h1 h2 => (r2.block k (by omega) h2).trans (hA.block k h1)
  have hx : Bx eW K #[nv, .int .i64 0] 24 := (hkp K hK (hob K (by omega))).trans h.x
  have hse : wr.heap.size ≤ eW.heap.size := by have := r2.size; omega
  have hss : (eW.setCell ⟨K, 0, none⟩ ev).heap.size = eW.heap.size := World.size_setCell _ _ _
  refine ⟨hx, hx.set 0 ev, ?_, fun q hq => ?_, ?_⟩
  · rw [List.length_append, List.length_singleton, ncs_app]
    exact own_keep r1 fun g hg => Below.heap_setCell _ _ _ _ (by show g ≠ K; have := (own_block r1 hg).1; omega)
  · have key : ∀ q, KdOk wr K nv q → KdOk (eW.setCell ⟨K, 0, none⟩ ev) K ev q := fun q hk => hk.keep (by rw [hss]; exact hse) fun b hb => by
      obtain ⟨b1, b2, b3⟩ := hk.lt hb
      refine ⟨(Below.heap_setCell _ _ _ _ (by show b ≠ K; omega)).trans (hkp b b2 b3), ?_⟩
      rcases r4 with e | e
      · rw [e]; exact b3
      · rw [e]
        intro e2
        injection e2 with e2
        omega
    rcases List.mem_append.1 hq with hq | hq
    · exact key q (h.kk q hq)
    · simp at hq; subst hq; exact key _ hp
  · have z1 : Below K W1 A := h.bl.trans (hA.mono (Nat.le_of_lt hK))
    have z2 := z1.grown r2 (by omega) (fun k e => by have := (own_block h.ow e).1; omega)
    exact z2.setCell (p := ⟨K, 0, none⟩) (Nat.le_refl _) _
theorem RcS.grp {W1 W : World} {K : Nat} {nv : Value} {l : List (Nd × Value)} (h : RcS W1 W K nv l) : ∃ ad len cap, nv = .slice ad len cap ∧ GrP (K + 1) W (gv ad len cap 0) ⟨l.map (·.1), 0⟩ := by
  obtain ⟨ad, cap, rfl, h1, h2⟩ := own_shapeN h.ow
  refine ⟨ad, l.length, cap, rfl, fun W' hs hk => ⟨ad, l.length, cap, rfl, h1, h2, ⟨(by decide : (-9223372036854775808 : Int) ≤ 0), (by decide : (0 : Int) ≤ 9223372036854775807)⟩, by rw [List.length_map], fun hp => ?_⟩⟩
  rcases h.ow.2 with ⟨_, h3⟩ | ⟨g, c, cur, e, hb, hh, _⟩
  · omega
  · cases e
    have hgl : g < W.heap.size := (Array.getElem?_eq_some_iff.1 hh).1
    have hkg := hk g hb hgl
    have hc : ∀ j, j < l.length * 3 → W'.cell? ⟨g, j, none⟩ = (ncs l)[j]? := fun j hj => (World.cell?_of_block (w := W) hkg).trans (h.ow.cellAt j hj)
    refine ⟨g, 0, rfl, by omega, fun i hi => ?_⟩
    have hli : l[i]? = some l[i] := List.getElem?_eq_getElem hi
    obtain ⟨k1, k2, kad, klen, kcap, k3, k4, k5, k6, k7⟩ := h.kk l[i] (List.getElem_mem hi)
    have hg : (l.map (·.1)).getD i nd0 = l[i].1 := by rw [List.getD_eq_getElem?_getD, List.getElem?_map, hli]; rfl
    obtain ⟨m1, m2, m3⟩ := ncs_get l i l[i] hli
    rw [hg]
    refine ⟨kad, klen, kcap, k4, k5, k1, k2, ⟨k6.1, fun hq => ?_⟩, ?_, ?_, ?_⟩
    · obtain ⟨b2, off2, e2, hlt, hcc⟩ := k6.2 hq
      have hbk := (k7 b2 off2 hq e2).1
      exact ⟨b2, off2, e2, by omega, fun j hj => ⟨(hcc j hj).1, (World.cell?_of_block (w := W) (hk b2 hbk hlt)).trans (hcc j hj).2⟩⟩
    · rw [Nat.zero_add, hc _ (by omega)]; exact m1
    · rw [Nat.zero_add, hc _ (by omega)]; exact m2
    · rw [Nat.zero_add, hc _ (by omega), m3, k3]
/-- a node's Kids under way, in a box of its own behind a world -/
structure IrS (W1 W : World) (K9 : Nat) (k x yv : Value) (j : Nat) (xs : List Int) : Prop where
  y : Bx W K9 #[k, x, yv] 35
  own : W.ownsRow (K9 + 1) 3 1 yv j (xs.map fun a => Value.int .i64 a)
  bl : Below K9 W1 W
theorem IrS.new (W1 : World) (k x : Value) : IrS W1 (W1.alloc (.cells #[k, x, .slice none 0 0] 35)) W1.heap.size k x (.slice none 0 0) 0 [] := ⟨Bx.new _ _ _, ⟨rfl, .inl ⟨rfl, rfl⟩⟩, below_alloc _ _⟩
theorem IrS.step {W1 wr eW : World} {K9 j yc : Nat} {k x ev : Value} {yad : Option Addr} {xs : List Int} {q : Int} (h : IrS W1 wr K9 k x (.slice yad j yc) j xs) (hK : W1.heap.size = K9)
    (r1 : eW.ownsRow (K9 + 1) 3 1 ev (j + 1) ((xs.map fun a => Value.int .i64 a) ++ [.int .i64 q])) (r2 : (wr.drew.alloc (.cells #[.int .i64 q] 3)).grownBy eW (Value.ownBlock (.slice yad j yc))) :
    Bx eW K9 #[k, x, .slice yad j yc] 35 ∧ IrS W1 (eW.setCell ⟨K9, 2, none⟩ ev) K9 k x ev (j + 1) (xs ++ [q]) := by
  have hlt := h.y.lt
  have hs0 : (wr.drew.alloc (.cells #[.int .i64 q] 3)).heap.size = wr.heap.size + 1 := World.size_alloc _ _
  have hob : ∀ b, b < K9 + 1 → some b ≠ Value.ownBlock (.slice yad j yc) := fun b hb e => by
    have := (own_block h.own e.symm).1
    omega
  have hy : Bx eW K9 #[k, x, .slice yad j yc] 35 := (r2.block K9 (by omega) (hob K9 (by omega))).trans ((Below.heap_alloc wr.drew _ K9 hlt).trans h.y)
  refine ⟨hy, hy.set 2 ev, ?_, ?_⟩
  · rw [List.map_append]
    exact own_later1 r1 fun g hg _ => Below.heap_setCell _ _ _ _ (by show g ≠ K9; omega)
  · have hW : K9 ≤ wr.heap.size := Nat.le_of_lt hlt
    have b1 : Below K9 W1 (wr.drew.alloc (.cells #[.int .i64 q] 3)) := h.bl.drew.trans ((below_alloc wr.drew _).mono hW)
    have b2 := b1.grown r2 (by omega) fun g e => by
      rcases Nat.lt_or_ge g (K9 + 1) with hg | hg
      · exact absurd e.symm (hob g hg)
      · omega
    exact b2.setCell (p := ⟨K9, 2, none⟩) (Nat.le_refl _) _
end Go.Proofs.YtaflbooofchimaaGreatDoor.Grp
end

section
/- The document's canon, by its contract. -/
namespace Go.Proofs.YtaflbooofchimaaGreatDoor.Grp
open Utf Rws Pln Flw
open Go.RowKit Go.Shelf
set_option linter.unusedSimpArgs false
set_option linter.unusedVariables false
set_option maxRecDepth 100000
set_option maxHeartbeats 8000000


theorem rcanon_any {w : World} {ad : Option Addr} {len cap m : Nat} {r0 : Int} {ns : List Nd} (hlen : len ≤ 4096) (hN : NAt w ad len ns) (hks : ∀ n ∈ ns, ∀ a ∈ n.kids, isP len a = true) (hsum : sumK ns ≤ 1000000000) (hm : m < len) :
    Calls Tryz.prog 49 #[gv ad len cap r0, .int .i64 (m : Int)] w fun e w' => ∃ v, e = .returned v ∧ Hid (GrP w.heap.size w' v ⟨cnN ns (odG ns m), 0⟩) ∧ Hid (Below w.heap.size w w') := by
  have HLn : Hid (len = ns.length) := hN.1
  obtain ⟨b, off, rfl, hb, hc⟩ := hN.2 (by omega)
  have h0 : Hid (CaS w _ w.heap.size (w.heap.size + 1) (.slice (some ⟨b, off, none⟩) len cap) (.int .i64 r0)) := CaS.new w _ _
  obtain ⟨K4, HK4⟩ : ∃ K4, Hid (K4 = w.heap.size + 1) := ⟨_, rfl⟩
  obtain ⟨K0, HK0⟩ : ∃ K0, Hid (K0 = w.heap.size) := ⟨_, rfl⟩
  obtain ⟨O, HO⟩ : ∃ O, Hid (O = odG ns m) := ⟨_, rfl⟩
  have HW : Hid (∀ W, Hid (CaS w W K0 K4 (.slice (some ⟨b, off, none⟩) len cap) (.int .i64 r0)) → Calls Tryz.prog 50 #[gv (some ⟨b, off, none⟩) len cap r0, .int .i64 (m : Int)] W fun e W' => ∃ oa oc, e = .returned (.tuple #[.slice oa O.length oc, .int .i64 (dpG ns m : Int)]) ∧ Hid (IAt W' oa O.length (nI O) ∧ O.length ≤ 5000 ∧ CaS w W' K0 K4 (.slice (some ⟨b, off, none⟩) len cap) (.int .i64 r0))) := fun W h => (walk_iat hlen (hN.later h.out.bl (Nat.le_refl _)) hks hsum hm).mono (fun e W' q => by
    obtain ⟨oa, oc, e1, e2, e3, e4⟩ := q
    rw [HO.out]
    exact ⟨oa, oc, e1, e2.out.1.1, e3.out, h.out.later e4.out⟩)
  have hmn : m < ns.length := by rw [← HLn.out]; exact hm
  have hks2 : ∀ n ∈ ns, ∀ a ∈ n.kids, isP ns.length a = true := by rw [← HLn.out]; exact hks
  have HOn : Hid (O.Nodup ∧ 0 < O.length ∧ (∀ a ∈ O, a < len) ∧ ∀ a ∈ O, ∀ c ∈ kd ns a, c ∈ O) := by
    rw [HO.out]
    exact ⟨odG_nd ns m, (od_pos ns m).1, fun a ha => by rw [HLn.out]; exact odG_lt hks2 hmn a ha, odG_cl hks2 hmn⟩
  have HCN : Hid (∀ p, p < len → ∃ pad plen pcap, plen ≤ pcap ∧ pcap ≤ maxLen ∧ plen = (ns.getD p nd0).kids.length ∧ i64 (ns.getD p nd0).kind ∧ (ns.getD p nd0).text.length ≤ 9223372036854775807 ∧ (0 < plen → ∃ kb koff, pad = some ⟨kb, koff, none⟩ ∧ ∀ W, Below w.heap.size w W → ∀ i, i < plen → W.cell? ⟨kb, koff + i, none⟩ = some (.int .i64 ((ns.getD p nd0).kids.getD i 0))) ∧ ∀ W, Below w.heap.size w W → W.cell? ⟨b, off + p * 3, none⟩ = some (.int .i64 (ns.getD p nd0).kind) ∧ W.cell? ⟨b, off + p * 3 + 1, none⟩ = some (.string (mk (ns.getD p nd0).text)) ∧ W.cell? ⟨b, off + p * 3 + 2, none⟩ = some (.slice pad plen pcap)) := fun p hp => by
    obtain ⟨pad, plen, pcap, q1, q2, q3, q4, q5, z0, z1, z2⟩ := hc p hp
    refine ⟨pad, plen, pcap, q1, q2, q5.1, q3, q4, fun hpp => ?_, fun W h => ⟨(h.cell (p := ⟨b, off + p * 3, none⟩) hb).trans z0, (h.cell (p := ⟨b, off + p * 3 + 1, none⟩) hb).trans z1, (h.cell (p := ⟨b, off + p * 3 + 2, none⟩) hb).trans z2⟩⟩
    obtain ⟨kb, koff, e, hkb, hkc⟩ := q5.2 hpp
    exact ⟨kb, koff, e, fun W h i hi => (h.cell (p := ⟨kb, koff + i, none⟩) hkb).trans (hkc i hi).2⟩
  have HKP : Hid (∀ p, p ∈ O → ∀ i, i < (ns.getD p nd0).kids.length → ∃ q : Nat, (ns.getD p nd0).kids.getD i 0 = (q : Int) ∧ q ∈ O ∧ q < len) := fun p hp i hi => by
    have hm2 : (ns.getD p nd0).kids.getD i 0 ∈ (ns.getD p nd0).kids := mem_getI hi
    have hpl := HOn.out.2.2.1 p hp
    obtain ⟨q, e, hq2⟩ := isP_nat (hks _ (mem_getD (by rw [← HLn.out]; exact hpl)) _ hm2)
    refine ⟨q, e, HOn.out.2.2.2 p hp q ?_, hq2⟩
    unfold kd
    exact List.mem_map.2 ⟨_, hm2, by rw [e, Int.toNat_natCast]⟩
  have HKS : Hid (∀ p, p < len → (ns.getD p nd0).kids.length ≤ 1000000000) := fun p hp => by
    have h2 := kids_sum (mem_getD (by rw [← HLn.out]; exact hp) : ns.getD p nd0 ∈ ns)
    show _ ≤ _
    omega
  obtain ⟨i0, hi, hz0, hz1, hz2⟩ := info_parts Tryz.infoNode
  obtain ⟨i1, hi1, hy0, hy1, hy2⟩ := info_parts Tryz.infoInt
  have hmk := fun w' : World => run_make (P := Tryz.prog) w' 33 3 i1 _ Tryz.underInts hi1 hy0 .i64 .i64 (len : Int) (len : Int) (by omega) (by omega) (by rw [hy2]; omega) (by omega)
  rw [hy1] at hmk
  simp only [Int.toNat_natCast, Value.cells] at hmk
  generalize dpG ns m = D at HW
  clear hN hks hks2 hsum hc
  go_enter Tryz.func49, Tryz.ntmps49
  go_wp2_with fail
  generalize (w.alloc (.cells #[.slice (some ⟨b, off, none⟩) len cap, .int .i64 r0] 24)).alloc (.cells #[.slice none 0 0, .int .i64 0] 24) = W0 at h0 ⊢
  rw [← HK4.out, ← HK0.out]
  have h1 : Hid (CaS w W0 K0 K4 (.slice (some ⟨b, off, none⟩) len cap) (.int .i64 r0)) := by rw [HK4.out, HK0.out]; exact h0
  clear h0
  refine (HW.out _ h1).mono ?_
  rintro e W1 ⟨oa, oc, rfl, H1⟩
  obtain ⟨c0, c1⟩ := H1.out.2.2.g.c2
  have hO5 : O.length ≤ 5000 := H1.out.2.1
  go_upto_region 3 with fail
  obtain ⟨lb, loff, hoa, hlb, hlc⟩ := H1.out.1.2 HOn.out.2.1
  subst hoa
  obtain ⟨Pb, HPb⟩ : ∃ Pb, Hid (Pb = W1.heap.size) := ⟨_, rfl⟩
  have HLC : Hid (∀ W, Below Pb W1 W → ∀ (i : Nat) (h : i < O.length), W.cell? ⟨lb, loff + i, none⟩ = some (.int .i64 (O[i] : Int))) := fun W h i hi => by
    have := (hlc i hi).2
    have e : (nI O).getD i 0 = (O[i] : Int) := by
      unfold nI
      rw [List.getD_eq_getElem?_getD, List.getElem?_map, List.getElem?_eq_getElem hi]
      rfl
    rw [e] at this
    exact (h.cell (p := ⟨lb, loff + i, none⟩) (by rw [HPb.out]; exact hlb)).trans this
  have HP0 : Hid (Bx (W1.alloc (.cells (madeCells #[Value.int .i64 0] len) 3)) Pb (iA (plP O 0) len) 3 ∧ Below Pb W1 (W1.alloc (.cells (madeCells #[Value.int .i64 0] len) 3))) := by
    have h1 := Bx.new W1 (madeCells #[Value.int .i64 0] len) 3
    rw [iA_made] at h1 ⊢
    rw [HPb.out]
    refine ⟨?_, below_alloc _ _⟩
    have : iA (plP O 0) len = iA (fun _ => 0) len := iA_congr fun i _ => by unfold plP; simp
    rw [this]
    exact h1
  have HCA : Hid (∀ W, Below Pb W1 W → CaS w W K0 K4 (.slice (some ⟨b, off, none⟩) len cap) (.int .i64 r0)) := fun W h => H1.out.2.2.later (by rw [← HPb.out]; exact h)
  rw [← HPb.out]
  clear hlc hlb H1 HW h1 hmk c0 c1
  generalize W1.alloc (.cells (madeCells #[Value.int .i64 0] len) 3) = W2 at HP0 ⊢
  go_wp2_with fail
  go_loopw [8] (fun i wr => ∃ j : Nat, j ≤ O.length ∧ i = .int .i64 (j : Int) ∧ Hid (Bx wr Pb (iA (plP O j) len) 3 ∧ Below Pb W1 wr)) (fun i _ => O.length - (intOf i).toNat)
  case atStart => exact ⟨0, Nat.zero_le _, rfl, HP0⟩
  case round =>
    obtain ⟨j, hj, rfl, HS⟩ := hrel
    clear HP0
    by_cases hlt : j < O.length
    · have hlt2 : (j : Int) < (O.length : Int) := by omega
      have x0 := HLC.out wr HS.out.2 j hlt
      have HSu : Hid (∀ x, plP O (j + 1) x = if x = O[j] then (j : Int) else plP O j x) := fun x => plP_succ HOn.out.1 hlt x
      have hal := HOn.out.2.2.1 O[j] (List.getElem_mem hlt)
      generalize O[j] = a at x0 HSu hal
      have ha2 : (a : Int) < (len : Int) := by omega
      have y0 : wr.cell? ⟨Pb, a, none⟩ = some (.int .i64 (plP O j a)) := (HS.out.1.cell a).trans (iA_get _ hal)
      have z0 := HS.out.1.fz a
      go_wp2_with fail
      have HX : Hid (Bx (wr.setCell ⟨Pb, a, none⟩ (.int .i64 (j : Int))) Pb (iA (plP O (j + 1)) len) 3 ∧ Below Pb W1 (wr.setCell ⟨Pb, a, none⟩ (.int .i64 (j : Int)))) := by
        have h2 := HS.out.1.set a (.int .i64 (j : Int))
        rw [iA_set] at h2
        refine ⟨?_, HS.out.2.setCell (p := ⟨Pb, a, none⟩) (Nat.le_refl _) _⟩
        have : iA (plP O (j + 1)) len = iA (fun x => if x = a then (j : Int) else plP O j x) len := iA_congr fun i _ => HSu.out i
        rw [this]
        exact h2
      clear HS HSu x0 y0 z0
      go_roundw
      case rel => exact ⟨j + 1, by omega, by go_num, HX⟩
      case measure => simp [intOf]; omega
    · have hje : j = O.length := by omega
      subst hje
      have HPl : Hid (∀ W, Below wr.heap.size wr W → ∀ x, x ∈ O → W.cell? ⟨Pb, x, none⟩ = some (.int .i64 (O.idxOf x : Int))) := fun W h x hx => by
        rw [← plP_all hx]
        exact ((HS.out.1.later h).cell x).trans (iA_get _ (HOn.out.2.2.1 x hx))
      have HB3 : Hid (Below Pb W1 wr) := HS.out.2
      go_upto_region 8 with fail
      obtain ⟨K9, HK9⟩ : ∃ K9, Hid (K9 = wr.heap.size) := ⟨_, rfl⟩
      have HR : Hid (RcS wr (wr.alloc (.cells #[.slice none 0 0, .int .i64 0] 24)) K9 (.slice none 0 0) []) := by rw [HK9.out]; exact RcS.new wr
      have hPK : Hid (Pb < K9 ∧ Pb = W1.heap.size) := ⟨by rw [HK9.out]; exact HS.out.1.lt, HPb.out⟩
      rw [← HK9.out]
      clear HS HPb
      generalize wr.alloc (.cells #[.slice none 0 0, .int .i64 0] 24) = W4 at HR ⊢
      obtain ⟨W3, HW3⟩ : ∃ W3, Hid (W3 = wr) := ⟨_, rfl⟩
      rw [← HW3.out] at HR HB3 HPl HK9
      clear HW3
      have HAll : Hid (∀ W, Below K9 W3 W → CaS w W K0 K4 (.slice (some ⟨b, off, none⟩) len cap) (.int .i64 r0) ∧ (∀ (i : Nat) (h : i < O.length), W.cell? ⟨lb, loff + i, none⟩ = some (.int .i64 (O[i] : Int))) ∧ (∀ x, x ∈ O → W.cell? ⟨Pb, x, none⟩ = some (.int .i64 (O.idxOf x : Int)))) := fun W h => by
        have hb2 : Below Pb W1 W := HB3.out.trans (h.mono (Nat.le_of_lt hPK.out.1))
        exact ⟨HCA.out W hb2, HLC.out W hb2, HPl.out W (by rw [← HK9.out]; exact h)⟩
      clear HLC HCA HPl HB3
      go_wp2_with fail
      go_loopw [10] (fun i wr => ∃ (j : Nat) (nv : Value) (l : List (Nd × Value)), j ≤ O.length ∧ i = .int .i64 (j : Int) ∧ Hid (l.map (·.1) = (cnN ns O).take j ∧ RcS W3 wr K9 nv l)) (fun i _ => O.length - (intOf i).toNat)
      case atStart => exact ⟨0, _, [], Nat.zero_le _, rfl, rfl, HR.out⟩
      case round =>
        obtain ⟨j, nv, l, hj, rfl, HS⟩ := hrel
        clear HR
        obtain ⟨na, nc, rfl, hn1, hn2⟩ := own_shapeN HS.out.2.ow
        have HLl : Hid (l.length = j) := by
          have := congrArg List.length HS.out.1
          rw [List.length_map, List.length_take, cnN_len] at this
          show _ = _
          omega
        by_cases hlt : j < O.length
        · have hlt2 : (j : Int) < (O.length : Int) := by omega
          obtain ⟨hca, hlc2, _⟩ := HAll.out _ HS.out.2.bl
          obtain ⟨c0, c1⟩ := hca.g.c2
          have x0 := hlc2 j hlt
          have HCE : Hid ((cnN ns O).take (j + 1) = (cnN ns O).take j ++ [⟨(ns.getD O[j] nd0).kind, (ns.getD O[j] nd0).text, (ns.getD O[j] nd0).kids.map fun b => (O.idxOf b.toNat : Int)⟩]) := by
            show _ = _
            rw [List.take_succ_eq_append_getElem (by rw [cnN_len]; exact hlt)]
            congr 2
            unfold cnN
            rw [List.getElem_map]
          have hain : O[j] ∈ O := List.getElem_mem hlt
          have hal := HOn.out.2.2.1 O[j] hain
          have hbw := hca.bl
          generalize O[j] = a at x0 HCE hain hal
          have ha0 : (0 : Int) ≤ (a : Int) := by omega
          have ha2 : (a : Int) < (len : Int) := by omega
          obtain ⟨kad, klen, kcap, k1, k2, k3, k4, k5, k6, k7⟩ := HCN.out a hal
          have HKp := HKP.out a hain
          have HKs := HKS.out a hal
          obtain ⟨kk, hkk⟩ : ∃ kk, kk = (ns.getD a nd0).kind := ⟨_, rfl⟩
          obtain ⟨kx, hkx⟩ : ∃ kx, kx = (ns.getD a nd0).text := ⟨_, rfl⟩
          obtain ⟨ll, hl2⟩ : ∃ ll, ll = (ns.getD a nd0).kids := ⟨_, rfl⟩
          rw [← hkk, ← hkx] at k7
          rw [← hkk] at k4
          rw [← hkx] at k5
          rw [← hl2] at k3 k6 HKp HKs
          rw [← hkk, ← hkx, ← hl2] at HCE
          clear hkk hkx hl2
          have HKL : Hid (klen = ll.length) := k3
          have H45 : Hid (i64 kk ∧ kx.length ≤ 9223372036854775807) := ⟨k4, k5⟩
          have H6 : Hid (0 < klen → ∃ kb koff, kad = some ⟨kb, koff, none⟩ ∧ ∀ W, Below w.heap.size w W → ∀ i, i < klen → W.cell? ⟨kb, koff + i, none⟩ = some (.int .i64 (ll.getD i 0))) := k6
          have H8 : Hid (∀ i, i < ll.length → ∃ q : Nat, ll.getD i 0 = (q : Int) ∧ q ∈ O ∧ q < len) := HKp
          have hks : klen ≤ 1000000000 := by rw [HKL.out]; exact HKs
          obtain ⟨z0, z1, z2⟩ := k7 _ hbw
          clear k3 k4 k5 k6 k7 HKp HKs hca hlc2 hbw hain
          go_upto_region 11 with fail
          go_region_held3 (fun w' => w'.cell? ⟨K0, 0, none⟩ = some (.slice (some ⟨b, off, none⟩) len cap) ∧ w'.cell? ⟨lb, loff + j, none⟩ = some (.int .i64 (a : Int)) ∧ w'.cell? ⟨b, off + a * 3, none⟩ = some (.int .i64 kk) ∧ w'.cell? ⟨b, off + a * 3 + 1, none⟩ = some (.string (mk kx)) ∧ w'.cell? ⟨b, off + a * 3 + 2, none⟩ = some (.slice kad klen kcap)) (go_keep) (fail)
          have HX : Hid (RcS W3 (wr.alloc (.cells #[.int .i64 kk, .string (mk kx), .slice kad klen kcap] 35)).drew K9 (.slice na l.length nc) l ∧ Bx (wr.alloc (.cells #[.int .i64 kk, .string (mk kx), .slice kad klen kcap] 35)).drew wr.heap.size #[.int .i64 kk, .string (mk kx), .slice kad klen kcap] 35) := ⟨HS.out.2.later (below_alloc _ _).drew, Bx.new _ _ _⟩
          have HSl : Hid (l.map (·.1) = (cnN ns O).take j) := HS.out.1
          clear z0 z1 z2 HS c0 c1 x0
          generalize (wr.alloc (.cells #[.int .i64 kk, .string (mk kx), .slice kad klen kcap] 35)).drew = W5 at HX ⊢
          generalize wr.heap.size = K11 at HX ⊢
          obtain ⟨g0, g1, g2⟩ := HX.out.2.c3
          go_upto_region 13 with fail
          obtain ⟨K12, HK12⟩ : ∃ K12, Hid (K12 = W5.heap.size) := ⟨_, rfl⟩
          have HI : Hid (IrS W5 (W5.alloc (.cells #[.int .i64 kk, .string (mk kx), .slice none 0 0] 35)) K12 (.int .i64 kk) (.string (mk kx)) (.slice none 0 0) 0 []) := by rw [HK12.out]; exact IrS.new W5 _ _
          rw [← HK12.out]
          clear g0 g1 g2
          generalize W5.alloc (.cells #[.int .i64 kk, .string (mk kx), .slice none 0 0] 35) = W6 at HI ⊢
          have HX5 : Hid (∀ W, Below K12 W5 W → W.cell? ⟨K11, 2, none⟩ = some (.slice kad klen kcap) ∧ RcS W3 W K9 (.slice na l.length nc) l) := fun W h => by
            rw [HK12.out] at h
            exact ⟨(HX.out.2.later h).cell 2, HX.out.1.later h⟩
          have HKK : Hid (K9 < K12 ∧ ∀ g, (Value.slice na l.length nc).ownBlock = some g → g < K12) := ⟨by rw [HK12.out]; exact HX.out.1.x.lt, fun g hg => by rw [HK12.out]; exact (own_block HX.out.1.ow hg).2⟩
          obtain ⟨TK, HTK⟩ : ∃ TK, Hid (TK = ll.map fun b => (O.idxOf b.toNat : Int)) := ⟨_, rfl⟩
          have HTL : Hid (TK.length = klen ∧ ∀ t, t < klen → ∃ q : Nat, q < len ∧ q ∈ O ∧ ll.getD t 0 = (q : Int) ∧ TK.take (t + 1) = TK.take t ++ [(O.idxOf q : Int)]) := by
            have hl0 : TK.length = klen := by rw [HTK.out, List.length_map, HKL.out]
            refine ⟨hl0, fun t ht => ?_⟩
            obtain ⟨q, e1, e2, e3⟩ := H8.out t (by rw [← HKL.out]; exact ht)
            refine ⟨q, e3, e2, e1, ?_⟩
            rw [List.take_succ_eq_append_getElem (by rw [hl0]; exact ht)]
            congr 2
            have hlt3 : t < ll.length := by rw [← HKL.out]; exact ht
            rw [List.getD_eq_getElem?_getD, List.getElem?_eq_getElem hlt3] at e1
            simp only [Option.getD_some] at e1
            simp only [HTK.out, List.getElem_map, e1, Int.toNat_natCast]
          rw [← HTK.out] at HCE
          go_wp2_with fail
          go_loopw [13] (fun i wr => ∃ (t : Nat) (yad : Option Addr) (yc : Nat), t ≤ klen ∧ i = .int .i64 (t : Int) ∧ Hid (IrS W5 wr K12 (.int .i64 kk) (.string (mk kx)) (.slice yad t yc) t (TK.take t))) (fun i _ => klen - (intOf i).toNat)
          case atStart => exact ⟨0, none, 0, Nat.zero_le _, rfl, HI⟩
          case round =>
            obtain ⟨t, yad, yc, ht, rfl, HJ⟩ := hrel
            clear HI
            obtain ⟨g2, hrc⟩ := HX5.out _ HJ.out.bl
            obtain ⟨f0, f1, f2⟩ := HJ.out.y.c3
            by_cases htl : t < klen
            · have htl2 : (t : Int) < (klen : Int) := by omega
              have ht0 : (0 : Int) ≤ (t : Int) := by omega
              obtain ⟨kb, koff, rfl, hkc⟩ := H6.out (by omega)
              obtain ⟨q, hq1, hq2, hq3, hq4⟩ := HTL.out.2 t htl
              have HTJ : Hid (TK.take (t + 1) = TK.take t ++ [(O.idxOf q : Int)]) := hq4
              obtain ⟨hca, _, hpl⟩ := HAll.out _ hrc.bl
              have x0 := hkc _ hca.bl t htl
              rw [hq3] at x0
              have x1 := hpl q hq2
              have hq0 : (0 : Int) ≤ (q : Int) := by omega
              have hq5 : (q : Int) < (len : Int) := by omega
              have HOW : Hid (wr.ownsRow (K12 + 1) 3 1 (.slice yad t yc) t ((TK.take t).map fun a => Value.int .i64 a)) := HJ.out.own
              have hk9 : K12 < wr.heap.size := HJ.out.y.lt
              clear hkc hq3 hq4 hca hpl hrc hq2
              generalize O.idxOf q = iq at x1 HTJ
              go_upto_region 16 with fail
              go_region_law (refine step_append_rc rfl (.tmp 65) (.tmp 74) 33 rfl (K12 + 1) 3 i1 (.int .i64 0) 1 8 Tryz.underInts hi1 hy0 hy1 hy2 rfl (by decide) (.slice yad t yc) t ((TK.take t).map fun a => Value.int .i64 a) (by simp [Act.eval, Act.put]) (show World.ownsRow _ _ _ _ _ _ _ from (HOW.out.alloc (.cells #[.int .i64 (iq : Int)] 3))) ⟨wr.heap.size, 0, none⟩ 1 1 [.int .i64 (iq : Int)] (by simp [Act.eval, Act.put]) rfl (cell_one_rc wr _ _) (fun u hu => by simp only [List.mem_cons, List.not_mem_nil, or_false] at hu; subst hu; rfl) (by unfold maxLen; omega) (by omega) (Nat.le_trans (by omega : K12 + 1 ≤ wr.heap.size + 1) (Nat.le_of_eq (World.size_alloc wr (.cells #[.int .i64 (iq : Int)] 3)).symm)) ?_; intro ev eW r1 r2 r3; have HY := HJ.out.step HK12.out.symm r1 r2; obtain ⟨va, vc, rfl, _, _⟩ := own_shapeN r1; have e2 : eW.cell? ⟨K12, 2, none⟩ = some (.slice yad t yc) := HY.1.cell 2; have ez2 : eW.frozen? ⟨K12, 2, none⟩ = false := HY.1.fz 2)
              all_goals
                have HY3 := HY.2
                rw [← HTJ.out] at HY3
                have HY2 : Hid _ := HY3
                clear HY3
                clear HY r1 r2 r3 e2 ez2 HOW HJ HTJ f0 f1 f2 g2 x0 x1
                generalize eW.setCell ⟨K12, 2, none⟩ (.slice va (t + 1) vc) = W8 at HY2 ⊢
                go_wp2_with fail
                go_roundw
                case rel => exact ⟨t + 1, va, vc, by omega, by go_num, HY2⟩
                case measure => simp [intOf]; omega
            · have hte : t = klen := by omega
              subst hte
              have hTl : TK.take t = TK := List.take_of_length_le (by rw [HTL.out.1]; exact Nat.le_refl _)
              have HRX : Hid (RcS W3 wr K9 (.slice na l.length nc) l) := hrc
              have HPK : Hid (KdOk wr K9 (.slice na l.length nc) (⟨kk, kx, TK⟩, .slice yad t yc)) := by
                have ho := HJ.out.own
                rw [hTl] at ho
                obtain ⟨i1', i2', i3'⟩ := iat_own ho (fun a ha => by
                  rw [HTK.out] at ha
                  obtain ⟨c, hc, rfl⟩ := List.mem_map.1 ha
                  have := List.idxOf_le_length (l := O) (a := c.toNat)
                  constructor <;> omega)
                refine ⟨H45.out.1, H45.out.2, yad, t, yc, rfl, i2', i3', i1'.1, fun b off hp e => ?_⟩
                have h1 := i1'.2 b off hp e
                have h2 := HKK.out.1
                exact ⟨by omega, fun e2 => by have := HKK.out.2 b e2.symm; omega⟩
              obtain ⟨n0, n1⟩ := hrc.x.c2
              have hk9 : K9 < wr.heap.size := hrc.x.lt
              clear HJ HX5 HX HTL H8 H6 hTl
              have hll : l.length ≤ 5000 := by have := HLl.out; omega
              go_wp2_with (at_builtin; refine wpList_append_own_at _ rfl _ _ 22 rfl (K9 + 1) 35 i0 (.agg #[.int .i64 0, .string ⟨#[]⟩, .slice none 0 0]) 3 48 Tryz.underNodes hi hz0 hz1 hz2 rfl (by decide) _ _ _ rfl (HRX.out.ow.alloc _) ⟨wr.heap.size, 0, none⟩ 1 1 [.int .i64 kk, .string (mk kx), .slice yad t yc] rfl rfl (cell_three_rc _ _ _ _ _) (fun u hu => by simp at hu; rcases hu with rfl | rfl | rfl <;> rfl) (by have : maxLen = 9223372036854775807 := rfl; omega) (by omega) (by rw [World.size_alloc]; omega) ?_; intro ov W8 hown hgr hnil hat; have HY := HRX.out.step HPK.out (below_alloc _ _) hown hgr hat; obtain ⟨va, vc, rfl, _, _⟩ := own_shapeN hown; have e0 : W8.cell? ⟨K9, 0, none⟩ = some (.slice na l.length nc) := HY.1.cell 0; have ez : W8.frozen? ⟨K9, 0, none⟩ = false := HY.1.fz 0)
              have HY2 : Hid (RcS W3 (W8.setCell ⟨K9, 0, none⟩ (.slice va (l.length + 1) vc)) K9 (.slice va (l.length + 1) vc) (l ++ [(⟨kk, kx, TK⟩, .slice yad t yc)])) := HY.2
              clear HY hown hgr hnil hat e0 ez HRX HPK n0 n1 f0 f1 f2 g2 hrc
              generalize W8.setCell ⟨K9, 0, none⟩ (.slice va (l.length + 1) vc) = W10 at HY2 ⊢
              go_wp2_with fail
              go_roundw
              case rel => exact ⟨j + 1, _, _, by omega, by go_num, by rw [List.map_append, HSl.out, HCE.out]; rfl, HY2⟩
              case measure => simp [intOf]; omega
        · have hje : j = O.length := by omega
          subst hje
          obtain ⟨hca, _, _⟩ := HAll.out _ HS.out.2.bl
          obtain ⟨ad', len', cap', e9, HG⟩ := HS.out.2.grp
          have hGl : l.map (·.1) = cnN ns O := by rw [HS.out.1, List.take_of_length_le (by rw [cnN_len]; exact Nat.le_refl _)]
          cases e9
          obtain ⟨n0, n1⟩ := HS.out.2.x.c2
          obtain ⟨r0', r1'⟩ := hca.r.c2
          have z0 := hca.r.fz 0
          have z1 := hca.r.fz 1
          have hk4 : K4 < K9 := by
            have := (HAll.out W3 (Below.refl _ _)).1.r.lt
            rw [HK9.out]
            exact this
          have hwk : w.heap.size ≤ K4 := hca.hk
          have HF : Hid (GrP w.heap.size ((wr.setCell ⟨K4, 0, none⟩ (.slice na l.length nc)).setCell ⟨K4, 1, none⟩ (.int .i64 0)) (gv na l.length nc 0) ⟨cnN ns O, 0⟩ ∧ Bx ((wr.setCell ⟨K4, 0, none⟩ (.slice na l.length nc)).setCell ⟨K4, 1, none⟩ (.int .i64 0)) K4 #[.slice na l.length nc, .int .i64 0] 24 ∧ Below w.heap.size w ((wr.setCell ⟨K4, 0, none⟩ (.slice na l.length nc)).setCell ⟨K4, 1, none⟩ (.int .i64 0))) := by
            rw [hGl] at HG
            exact ⟨((HG.set (by omega)).set (by omega)).mono (by omega), (hca.r.set 0 _).set 1 _, (hca.bl.setCell (p := ⟨K4, 0, none⟩) hwk _).setCell (p := ⟨K4, 1, none⟩) hwk _⟩
          clear HG hGl HS HAll HCN HKP HKS HLl
          go_wp2_with fail
          generalize (wr.setCell ⟨K4, 0, none⟩ (.slice na l.length nc)).setCell ⟨K4, 1, none⟩ (.int .i64 0) = W9 at HF ⊢
          have g0 : W9.cell? ⟨K4, 0, none⟩ = some (.slice na l.length nc) := HF.out.2.1.cell 0
          have g1 : W9.cell? ⟨K4, 1, none⟩ = some (.int .i64 0) := HF.out.2.1.cell 1
          refine bodyPost_ret (v := gv na l.length nc 0) (by simp [results, Tryz.results49, go_sem, g0, g1]) rfl ?_
          exact ⟨_, rfl, by rw [← HO.out]; exact HF.out.1, HF.out.2.2⟩
end Go.Proofs.YtaflbooofchimaaGreatDoor.Grp
end

section
/- The document's Canon, by its contract. -/
namespace Go.Proofs.YtaflbooofchimaaGreatDoor.Grp
open Utf Rws Pln Flw
open Go.RowKit Go.Shelf
set_option linter.unusedSimpArgs false
set_option linter.unusedVariables false
set_option maxRecDepth 100000
set_option maxHeartbeats 8000000

theorem GrP.shape {B : Nat} {w : World} {v : Value} {g : Gr} (h : GrP B w v g) : ∃ ad len cap, v = gv ad len cap g.root := by
  obtain ⟨ad, len, cap, e, _⟩ := h.v
  exact ⟨ad, len, cap, e⟩
theorem rcan12_core {w : World} {ad : Option Addr} {len cap : Nat} {r : Int} {ns : List Nd} (hlen : len ≤ 9223372036854775807) (hN : NAt w ad len ns) (hS : Sm2 ns) :
    Calls Tryz.prog 31 #[gv ad len cap r] w (GRes w (rgG ⟨ns, r⟩) 1 ⟨cnN ns (odG ns r.toNat), 0⟩) := by
  have HLn : Hid (len = ns.length) := hN.1
  have h0 := CaS.new w (.slice ad len cap) (.int .i64 r)
  have HR : Hid (∀ w', Hid (CaS w w' w.heap.size (w.heap.size + 1) (.slice ad len cap) (.int .i64 r)) → Calls Tryz.prog 25 #[gv ad len cap r] w' fun e w'' => e = .returned (.bool (rgG ⟨ns, r⟩)) ∧ Hid (CaS w w'' w.heap.size (w.heap.size + 1) (.slice ad len cap) (.int .i64 r)) ∧ w''.cell? ⟨w.heap.size, 0, none⟩ = some (.slice ad len cap) ∧ w''.cell? ⟨w.heap.size, 1, none⟩ = some (.int .i64 r) ∧ w''.cell? ⟨w.heap.size + 1, 0, none⟩ = some (.slice none 0 0) ∧ w''.cell? ⟨w.heap.size + 1, 1, none⟩ = some (.int .i64 0) ∧ w''.frozen? ⟨w.heap.size + 1, 0, none⟩ = false ∧ w''.frozen? ⟨w.heap.size + 1, 1, none⟩ = false) :=
    fun w' h => (rright12_core hlen (hN.later h.out.bl (Nat.le_refl _)) hS).mono (fun e w'' q => ⟨q.1, h.out.later q.2, (h.out.later q.2).g.c2.1, (h.out.later q.2).g.c2.2, (h.out.later q.2).r.c2.1, (h.out.later q.2).r.c2.2, (h.out.later q.2).r.fz 0, (h.out.later q.2).r.fz 1⟩)
  unfold GRes
  cases hq : rgG ⟨ns, r⟩
  case false =>
    rw [hq] at HR
    clear hS hN
    go_enter Tryz.func31, Tryz.ntmps31
    go_wp2_with fail
    generalize (w.alloc (.cells #[.slice ad len cap, .int .i64 r] 24)).alloc (.cells #[.slice none 0 0, .int .i64 0] 24) = W0 at h0 ⊢
    refine (HR.out _ h0).mono ?_
    rintro e w1 ⟨rfl, H1, c0, c1, d0, d1, z0, z1⟩
    have HB2 : Hid (Bx ((w1.setCell ⟨w.heap.size + 1, 0, none⟩ (.slice none 0 0)).setCell ⟨w.heap.size + 1, 1, none⟩ (.int .i64 0)) (w.heap.size + 1) #[.slice none 0 0, .int .i64 0] 24 ∧ Below w.heap.size w ((w1.setCell ⟨w.heap.size + 1, 0, none⟩ (.slice none 0 0)).setCell ⟨w.heap.size + 1, 1, none⟩ (.int .i64 0))) :=
      ⟨(H1.out.r.set 0 (.slice none 0 0)).set 1 (.int .i64 0), (H1.out.bl.setCell (p := ⟨w.heap.size + 1, 0, none⟩) H1.out.hk (.slice none 0 0)).setCell (p := ⟨w.heap.size + 1, 1, none⟩) H1.out.hk (.int .i64 0)⟩
    go_wp2_with fail
    generalize (w1.setCell ⟨w.heap.size + 1, 0, none⟩ (.slice none 0 0)).setCell ⟨w.heap.size + 1, 1, none⟩ (.int .i64 0) = W9 at HB2 ⊢
    have g0 : W9.cell? ⟨w.heap.size + 1, 0, none⟩ = some (.slice none 0 0) := HB2.out.1.cell 0
    have g1 : W9.cell? ⟨w.heap.size + 1, 1, none⟩ = some (.int .i64 0) := HB2.out.1.cell 1
    exact bodyPost_ret (v := .tuple #[gv none 0 0 0, .int .i64 1]) (by simp [results, Tryz.results31, go_sem, g0, g1]) rfl ⟨by first | rfl | rw [if_neg (by decide)], HB2.out.2⟩
  case true =>
  obtain ⟨f1, f2, f3⟩ := rgG_facts hq
  rw [← HLn.out] at f1 f2 f3
  obtain ⟨m, rfl, hm⟩ := isP_nat f2
  have hsum := (hS (by have := HLn.out; omega)).2
  rw [Int.toNat_natCast]
  rw [hq] at HR
  have HC : Hid (∀ w', Hid (CaS w w' w.heap.size (w.heap.size + 1) (.slice ad len cap) (.int .i64 (m : Int))) → Calls Tryz.prog 49 #[gv ad len cap (m : Int), .int .i64 (m : Int)] w' fun e w'' => ∃ a1 l1 p1, e = .returned (gv a1 l1 p1 0) ∧ Hid (GrP w'.heap.size w'' (gv a1 l1 p1 0) ⟨cnN ns (odG ns m), 0⟩ ∧ CaS w w'' w.heap.size (w.heap.size + 1) (.slice ad len cap) (.int .i64 (m : Int)) ∧ w.heap.size + 1 < w'.heap.size ∧ w.heap.size ≤ w'.heap.size)) :=
    fun w' h => (rcanon_any f1 (hN.later h.out.bl (Nat.le_refl _)) f3 hsum hm).mono (fun e w'' q => by
      obtain ⟨v, rfl, q1, q2⟩ := q
      obtain ⟨a1, l1, p1, e1⟩ := q1.out.shape
      have q3 := q1.out
      rw [e1] at q3 ⊢
      exact ⟨a1, l1, p1, rfl, q3, h.out.later q2.out, h.out.r.lt, h.out.bl.size⟩)
  clear hS hN f1 f2 f3 hsum
  go_enter Tryz.func31, Tryz.ntmps31
  go_wp2_with fail
  generalize (w.alloc (.cells #[.slice ad len cap, .int .i64 (m : Int)] 24)).alloc (.cells #[.slice none 0 0, .int .i64 0] 24) = W0 at h0 ⊢
  refine (HR.out _ h0).mono ?_
  rintro e w1 ⟨rfl, H1, c0, c1, d0, d1, z0, z1⟩
  go_wp2_with (go_at_call 49; refine (HC.out _ H1).mono ?_; rintro e w3 ⟨a1, l1, p1, rfl, H3⟩; obtain ⟨d0, d1⟩ := H3.out.2.1.r.c2; have z0 := H3.out.2.1.r.fz 0; have z1 := H3.out.2.1.r.fz 1)
  have HB2 : Hid (Bx ((w3.setCell ⟨w.heap.size + 1, 0, none⟩ (.slice a1 l1 p1)).setCell ⟨w.heap.size + 1, 1, none⟩ (.int .i64 0)) (w.heap.size + 1) #[.slice a1 l1 p1, .int .i64 0] 24 ∧ GrP w.heap.size ((w3.setCell ⟨w.heap.size + 1, 0, none⟩ (.slice a1 l1 p1)).setCell ⟨w.heap.size + 1, 1, none⟩ (.int .i64 0)) (gv a1 l1 p1 0) ⟨cnN ns (odG ns m), 0⟩ ∧ Below w.heap.size w ((w3.setCell ⟨w.heap.size + 1, 0, none⟩ (.slice a1 l1 p1)).setCell ⟨w.heap.size + 1, 1, none⟩ (.int .i64 0))) :=
    ⟨(H3.out.2.1.r.set 0 _).set 1 _, ((H3.out.1.set H3.out.2.2.1).set H3.out.2.2.1).mono H3.out.2.2.2, (H3.out.2.1.bl.setCell (p := ⟨w.heap.size + 1, 0, none⟩) H3.out.2.1.hk _).setCell (p := ⟨w.heap.size + 1, 1, none⟩) H3.out.2.1.hk _⟩
  generalize (w3.setCell ⟨w.heap.size + 1, 0, none⟩ (.slice a1 l1 p1)).setCell ⟨w.heap.size + 1, 1, none⟩ (.int .i64 0) = W9 at HB2 ⊢
  have g0 : W9.cell? ⟨w.heap.size + 1, 0, none⟩ = some (.slice a1 l1 p1) := HB2.out.1.cell 0
  have g1 : W9.cell? ⟨w.heap.size + 1, 1, none⟩ = some (.int .i64 0) := HB2.out.1.cell 1
  exact bodyPost_ret (v := .tuple #[gv a1 l1 p1 0, .int .i64 0]) (by simp [results, Tryz.results31, go_sem, g0, g1]) rfl ⟨by first | exact ⟨_, rfl, HB2.out.2.1⟩ | (rw [if_pos rfl]; exact ⟨_, rfl, HB2.out.2.1⟩), HB2.out.2.2⟩
theorem rcan12_any {w : World} {v : Value} {g : Gr} (h : GrV w v g) (hS : Sm2 g.nodes) : Calls Tryz.prog 31 #[v] w (GRes w (rgG g) 1 ⟨cnN g.nodes (odG g.nodes g.root.toNat), 0⟩) := by
  obtain ⟨ad, len, cap, rfl, h1, h2, h3, h4⟩ := h
  have : maxLen = 9223372036854775807 := rfl
  exact rcan12_core (by omega) h4 hS
end Go.Proofs.YtaflbooofchimaaGreatDoor.Grp
end
