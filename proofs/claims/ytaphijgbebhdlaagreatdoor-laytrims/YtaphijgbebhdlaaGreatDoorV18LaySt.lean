/- Several texts as one: LaySt, LayAnP. -/
import Derived.Test.YtaphijgbebhdlaaGreatDoorV17LayGo
import Derived.Test.YtaphijgbebhdlaaGreatDoorV07FlowTreY
import Derived.Deep.RegionLaw
import Derived.Laws.OwnMore
import Derived.BigRegion
import Derived.Test.YtaphijgbebhdlaaGreatDoorV16GraphTop2I
section
/- A graph under way to its tree: what lies in memory. -/
namespace Go.Proofs.YtaphijgbebhdlaaGreatDoor.Grp
open Utf Rws Pln Flw
open Go.RowKit
set_option linter.unusedSimpArgs false
set_option linter.unusedVariables false
set_option maxRecDepth 100000
set_option maxHeartbeats 4000000

/-- all stays but one block -/
structure Ex (c : Nat) (w w' : World) : Prop where
  size : w.heap.size ≤ w'.heap.size
  block : ∀ j, j < w.heap.size → j ≠ c → w'.heap[j]? = w.heap[j]?
theorem Ex.trans {c : Nat} {w1 w2 w3 : World} (h : Ex c w1 w2) (k : Ex c w2 w3) : Ex c w1 w3 := ⟨Nat.le_trans h.size k.size, fun j h1 h2 => (k.block j (Nat.lt_of_lt_of_le h1 h.size) h2).trans (h.block j h1 h2)⟩
theorem Ex.of {c : Nat} {w w' : World} (h : Below w.heap.size w w') : Ex c w w' := ⟨h.size, fun j h1 _ => h.block j h1⟩
theorem Ex.refl (c : Nat) (w : World) : Ex c w w := ⟨Nat.le_refl _, fun _ _ _ => rfl⟩
theorem Ex.set {c : Nat} {w w' : World} (h : Ex c w w') (i : Nat) (v : Value) : Ex c w (w'.setCell ⟨c, i, none⟩ v) :=
  ⟨by simpa [World.setCell] using h.size, fun j h1 h2 => (Below.heap_setCell _ _ _ _ (fun e => h2 (by simpa using e))).trans (h.block j h1 h2)⟩
theorem Ex.new {c k : Nat} {w w' : World} (h : Ex c w w') (hk : w.heap.size ≤ k) (i : Nat) (v : Value) : Ex c w (w'.setCell ⟨k, i, none⟩ v) :=
  ⟨by simpa [World.setCell] using h.size, fun j h1 h2 => (Below.heap_setCell _ _ _ _ (fun e => by simp only at e; omega)).trans (h.block j h1 h2)⟩
theorem Ex.grown {c : Nat} {w w1 w2 : World} {o : Option Nat} (h : Ex c w w1) (hg : w1.grownBy w2 o) (ho : ∀ q, o = some q → w.heap.size ≤ q) : Ex c w w2 :=
  ⟨Nat.le_trans h.size hg.size, fun j h1 h2 => (hg.block j (Nat.lt_of_lt_of_le h1 h.size) (fun e => by have := ho j e.symm; omega)).trans (h.block j h1 h2)⟩
theorem Ex.bx {c k : Nat} {w w' : World} {cs : Array Value} {t : TypeId} (h : Ex c w w') (hb : Bx w k cs t) (hk : k ≠ c) : Bx w' k cs t := (h.block k hb.lt hk).trans hb
/-- a row of names -/
def sA (nm : Nat → Ln) (n : Nat) : Array Value := ((List.range n).map fun i => Value.string (mk (nm i))).toArray
theorem sA_get (nm : Nat → Ln) {n i : Nat} (h : i < n) : (sA nm n)[i]? = some (.string (mk (nm i))) := by simp [sA, h]
theorem sA_congr {f g : Nat → Ln} {n : Nat} (h : ∀ i, i < n → f i = g i) : sA f n = sA g n := by
  unfold sA
  congr 1
  exact List.map_congr_left fun i hi => by rw [h i (List.mem_range.1 hi)]
/-- a laying in memory -/
structure LyS (w0 W : World) (K CA CC : Nat) (nsl : Value) (len : Nat) (nm : Nat → Ln) (out : List Nat) : Prop where
  s : Bx W K #[nsl, .slice (some ⟨CA, 0, none⟩) len len, .slice (some ⟨CC, 0, none⟩) len len] 81
  a : Bx W CA (sA nm len) 9
  c : Bx W CC (bM out len) 4
  bl : Below w0.heap.size w0 W
  hk : w0.heap.size ≤ K
  ha : w0.heap.size ≤ CA
  hc : w0.heap.size ≤ CC
  k1 : K ≠ CC
  k2 : CA ≠ CC
variable {w0 w W W' w1 : World} {K CA CC len : Nat} {nsl : Value} {nm : Nat → Ln} {out : List Nat}
theorem LyS.later (h : LyS w0 W K CA CC nsl len nm out) (hb : Below W.heap.size W W') : LyS w0 W' K CA CC nsl len nm out :=
  ⟨h.s.later hb, h.a.later hb, h.c.later hb, h.bl.trans (hb.mono h.bl.size), h.hk, h.ha, h.hc, h.k1, h.k2⟩
theorem LyS.came (h : LyS w0 W K CA CC nsl len nm out) (a : Nat) : LyS w0 (W.setCell ⟨CC, a, none⟩ (.bool true)) K CA CC nsl len nm (out ++ [a]) := by
  refine ⟨h.s.other h.k1 _ _, h.a.other h.k2 _ _, ?_, h.bl.setCell (p := ⟨CC, a, none⟩) h.hc _, h.hk, h.ha, h.hc, h.k1, h.k2⟩
  have := h.c.set a (.bool true)
  rw [bM_set] at this
  exact this
theorem LyS.new (h : LyS w0 W K CA CC nsl len nm out) {k : Nat} (hk : w0.heap.size ≤ k) (h1 : K ≠ k) (h2 : CA ≠ k) (h3 : CC ≠ k) (i : Nat) (v : Value) : LyS w0 (W.setCell ⟨k, i, none⟩ v) K CA CC nsl len nm out :=
  ⟨h.s.other h1 _ _, h.a.other h2 _ _, h.c.other h3 _ _, h.bl.setCell (p := ⟨k, i, none⟩) hk _, h.hk, h.ha, h.hc, h.k1, h.k2⟩
theorem LyS.grown {o : Option Nat} (h : LyS w0 W K CA CC nsl len nm out) (hg : W.grownBy W' o) (ho : ∀ q, o = some q → w0.heap.size ≤ q ∧ q ≠ K ∧ q ≠ CA ∧ q ≠ CC) : LyS w0 W' K CA CC nsl len nm out :=
  ⟨(hg.block K h.s.lt (fun e => (ho K e.symm).2.1 rfl)).trans h.s, (hg.block CA h.a.lt (fun e => (ho CA e.symm).2.2.1 rfl)).trans h.a, (hg.block CC h.c.lt (fun e => (ho CC e.symm).2.2.2 rfl)).trans h.c, h.bl.grown hg h.bl.size (fun q e => (ho q e).1), h.hk, h.ha, h.hc, h.k1, h.k2⟩
/-- a tree under way: its answer's box, its own box, its kids -/
structure Kt (w : World) (KR K2 d : Nat) (k : Int) (x a : Ln) (u : Value) (m : Nat) (xs : List Value) (ks : List Tr) : Prop where
  rb : Bx w KR zT 29
  bx : Bx w K2 #[.int .i64 k, .string (mk x), .string (mk a), u] 29
  own : w.ownsRow (K2 + 1) 29 4 u m xs
  kd : KdQ (Out (K2 + 1) u) w d xs ks
  hm : m = ks.length
  h1 : KR < K2
variable {KR K2 d m : Nat} {k : Int} {x a : Ln} {u : Value} {xs : List Value} {ks : List Tr}
theorem kt_keep (h : Kt w KR K2 d k x a u m xs ks) (hs : w.heap.size ≤ w1.heap.size) (hk : ∀ j, KR ≤ j → j < w.heap.size → w1.heap[j]? = w.heap[j]?) : Kt w1 KR K2 d k x a u m xs ks := by
  have h1 := h.h1
  exact ⟨(hk KR (Nat.le_refl _) h.rb.lt).trans h.rb, (hk K2 (by omega) h.bx.lt).trans h.bx, Flw.own_keep h.own (fun j a b => hk j (by omega) b), h.kd.keep hs (fun j a b => hk j (by have := a.1; omega) b), h.hm, h.h1⟩
theorem kt_later (h : Kt w KR K2 d k x a u m xs ks) (hb : Below w.heap.size w w1) : Kt w1 KR K2 d k x a u m xs ks := kt_keep h hb.size (fun j _ hj => hb.block j hj)
theorem kt_ex {c : Nat} (h : Kt w KR K2 d k x a u m xs ks) (hb : Ex c w w1) (hc : c < KR) : Kt w1 KR K2 d k x a u m xs ks := kt_keep h hb.size (fun j h1 hj => hb.block j hj (by omega))
theorem kt_more (h : Kt w KR K2 d k x a u m xs ks) {v' : Value} {ys : List Value} {t' : Tr} (hown : w1.ownsRow (K2 + 1) 29 4 v' (m + 1) (xs ++ ys)) (hg : w.grownBy w1 u.ownBlock) (hat : v'.ownBlock = u.ownBlock ∨ v'.ownBlock = some w.heap.size)
    (hk : KdQ (Out (K2 + 1) u) w d ys [t']) : Kt (w1.setCell ⟨K2, 3, none⟩ v') KR K2 d k x a v' (m + 1) (xs ++ ys) (ks ++ [t']) := by
  have h1 := h.h1
  have hrow : ∀ k, u.ownBlock = some k → K2 + 1 ≤ k := fun k hk => (own_blk h.own hk).1
  have hkeep : ∀ j, j < w.heap.size → (∀ k, u.ownBlock = some k → j ≠ k) → w1.heap[j]? = w.heap[j]? := fun j hj hne => hg.block j hj (fun e => hne j e.symm rfl)
  have hb1 : Bx w1 K2 #[.int .i64 k, .string (mk x), .string (mk a), u] 29 := (hkeep K2 h.bx.lt (fun k hk => by have := hrow k hk; omega)).trans h.bx
  have hr1 : Bx w1 KR zT 29 := (hkeep KR h.rb.lt (fun k hk => by have := hrow k hk; omega)).trans h.rb
  have k2 : KdQ (fun j => Out (K2 + 1) u j ∧ j < w.heap.size) w d (xs ++ ys) (ks ++ [t']) := (h.kd.app hk).wide (fun j a c => ⟨a, c⟩)
  have k3 : KdQ (Out (K2 + 1) v') w1 d (xs ++ ys) (ks ++ [t']) := (k2.keep hg.size (fun j a _ => hkeep j a.2 a.1.2)).wide (fun j a _ => ⟨a.1.1, fun k hk => by
    rcases hat with e | e
    · rw [e] at hk; exact a.1.2 k hk
    · rw [e] at hk; cases hk; exact Nat.ne_of_lt a.2⟩)
  have hset : ∀ j, K2 + 1 ≤ j → (w1.setCell ⟨K2, 3, none⟩ v').heap[j]? = w1.heap[j]? := fun j hj => Below.heap_setCell _ _ _ _ (fun e => by simp only at e; omega)
  exact ⟨hr1.other (by omega) _ _, hb1.set 3 v', Flw.own_keep hown (fun j a _ => hset j a), k3.keep (by simp [World.setCell]) (fun j a _ => hset j a.1), by rw [List.length_append, h.hm]; rfl, h.h1⟩
/-- the tree is done -/
theorem kt_node (h : Kt w KR K2 d k x a u m xs ks) (hkb : i64 k) (hx : x.length ≤ 9223372036854775807) (ha : a.length ≤ 9223372036854775807) :
    ∃ ad len cap, u = .slice ad len cap ∧ TrP (K2 + 1) w (d + 1) (.agg #[.int .i64 k, .string (mk x), .string (mk a), .slice ad len cap]) ⟨k, x, a, ks⟩ := by
  obtain ⟨hxl, hv⟩ := h.own
  have hn := h.hm
  rcases hv with ⟨rfl, h0⟩ | ⟨g, cap, cur, rfl, hg, hh, hnc, hcm, hcs, htk⟩
  · have hk0 : ks = [] := List.length_eq_zero_iff.1 (by omega)
    subst hk0
    exact ⟨none, 0, 0, rfl, none, 0, 0, rfl, rfl, Nat.le_refl _, Nat.zero_le _, ⟨hkb.1, hkb.2, hx, ha⟩, fun h => absurd h (by omega)⟩
  · refine ⟨_, m, cap, rfl, _, m, cap, rfl, hn, hnc, hcm, ⟨hkb.1, hkb.2, hx, ha⟩, fun _ => ⟨g, 0, rfl, hg, (Array.getElem?_eq_some_iff.1 hh).1, fun i hi => ?_⟩⟩
    obtain ⟨c0, c1, c2, c3, h0, h1, h2, h3, ht⟩ := h.kd.2.2 i (by omega)
    have cc : ∀ j u, j < m * 4 → xs[j]? = some u → w.cell? ⟨g, 0 + j, none⟩ = some u := fun j u hj hu => by
      rw [Lib.cell_of_heap hh]
      rw [← htk, List.getElem?_take_of_lt hj] at hu
      simpa using hu
    exact ⟨c0, c1, c2, c3, cc _ _ (by omega) h0, by have := cc _ _ (by omega) h1; rwa [show 0 + (i * 4 + 1) = 0 + i * 4 + 1 by omega] at this, by have := cc _ _ (by omega) h2; rwa [show 0 + (i * 4 + 2) = 0 + i * 4 + 2 by omega] at this, by have := cc _ _ (by omega) h3; rwa [show 0 + (i * 4 + 3) = 0 + i * 4 + 3 by omega] at this, ht.wide (fun j a _ => a.1)⟩
theorem kt_set (h : Kt w KR K2 d k x a u m xs ks) (hkb : i64 k) (hx : x.length ≤ 9223372036854775807) (ha : a.length ≤ 9223372036854775807) : ∃ ad len cap, u = .slice ad len cap ∧ Bx ((((w.setCell ⟨KR, 0, none⟩ (.int .i64 k)).setCell ⟨KR, 1, none⟩ (.string (mk x))).setCell ⟨KR, 2, none⟩ (.string (mk a))).setCell ⟨KR, 3, none⟩ u) KR #[.int .i64 k, .string (mk x), .string (mk a), u] 29 ∧ TrP (K2 + 1) ((((w.setCell ⟨KR, 0, none⟩ (.int .i64 k)).setCell ⟨KR, 1, none⟩ (.string (mk x))).setCell ⟨KR, 2, none⟩ (.string (mk a))).setCell ⟨KR, 3, none⟩ u) (d + 1) (.agg #[.int .i64 k, .string (mk x), .string (mk a), .slice ad len cap]) ⟨k, x, a, ks⟩ := by
  obtain ⟨ad, len, cap, rfl, ht⟩ := kt_node h hkb hx ha
  have h1 := h.h1
  exact ⟨ad, len, cap, rfl, (((h.rb.set 0 _).set 1 _).set 2 _).set 3 _, (((ht.set (by omega)).set (by omega)).set (by omega)).set (by omega)⟩
/-- a kid's cells, which lie behind all that was -/
theorem kdt_one {C A : Nat} {k : Int} {x y : ByteArray} {ad : Option Addr} {len cap : Nat} {t : Tr} (h : TrP A w d (.agg #[.int .i64 k, .string x, .string y, .slice ad len cap]) t) (hC : C ≤ A) (hu : ∀ k, u.ownBlock = some k → k < A) : KdQ (Out C u) w d [.int .i64 k, .string x, .string y, .slice ad len cap] [t] :=
  KdQ.wide (Kd.one h) (fun j a _ => ⟨by omega, fun k hk => by have := hu k hk; omega⟩)
theorem own_shapeT {w : World} {C : Nat} {v : Value} {n : Nat} {xs : List Value} (h : w.ownsRow C 29 4 v n xs) : ∃ ad cap, v = .slice ad n cap := by
  rcases h.2 with ⟨rfl, h0⟩ | ⟨g, cap, cur, rfl, _⟩
  · exact ⟨none, 0, by rw [h0]⟩
  · exact ⟨_, cap, rfl⟩
theorem one_four (rk : Int) (rx ry : ByteArray) (rad : Option Addr) (rlen rcap : Nat) : ∀ u ∈ ([.int .i64 rk, .string rx, .string ry, .slice rad rlen rcap] : List Value), u.oneCell' = true := by
  intro u hu
  simp only [List.mem_cons, List.not_mem_nil, or_false] at hu
  rcases hu with rfl | rfl | rfl | rfl <;> rfl
theorem cell_four (w : World) (a b c d : Value) (t : TypeId) : ∀ j u, [a, b, c, d][j]? = some u → (w.alloc (.cells #[a, b, c, d] t)).cell? ((⟨w.heap.size, 0, none⟩ : Addr).add j) = some u := by
  intro j u hj
  have e : (⟨w.heap.size, 0, none⟩ : Addr).add j = ⟨w.heap.size, j, none⟩ := by simp [Addr.add]; intro h; exact h.symm
  rw [e, World.cell?_alloc_new]
  match j, hj with
  | 0, hj => simpa using hj
  | 1, hj => simpa using hj
  | 2, hj => simpa using hj
  | 3, hj => simpa using hj
theorem step_call {P : Program} {ops : Array Oper} {o : Oper} {a : Act} {w : World} {K : Act → World → Prop} {Q : Exit → Act → World → Prop} {E : Prop} (hgd : o.guard = none) (f : FuncId) (xs : Array Operand) (ts : Array TypeId)
    (ho : o.op = .call { callee := .value (.func f), args := xs, argTypes := ts }) (vs : Array Value) (hcf : (callFunc f vs).run P w = .ok (.enter f vs) w) (hv : xs.map a.eval = vs) {R : Ending → World → Prop} (hc : Calls P f vs w R) (hR : ∀ e w', R e w' → ∃ v, e = .returned v ∧ K (a.put o.dst v) w') :
    if Region.wanted o (yielded ops a.tmps) = true then Oper.wp P o a w K Q else E := by
  have hw : Region.wanted o (yielded ops a.tmps) = true := by simp [Region.wanted, hgd]
  rw [if_pos hw]
  subst hv
  unfold Oper.wp
  simp [execOp, ho, resolve, invoke, Result.andThen, Act.eval, Deferred.ofValue]
  rw [hcf]
  exact hc.mono fun e w' hr => by obtain ⟨v, rfl, hk⟩ := hR e w' hr; exact hk
theorem step_append_at {P : Program} {ops : Array Oper} {o : Oper} {a : Act} {w : World} {K : Act → World → Prop} {Q : Exit → Act → World → Prop} {E : Prop}
    (hg : o.guard = none) (s x : Operand) (t : TypeId) (hop : o.op = Op.call { callee := Callee.builtin Builtin.append, args := #[s, x], argTypes := #[t, t] }) (base : Nat)
    (e : TypeId) (i : TypeInfo) (z : Value) (size bytes : Nat) (h1 : P.underlying t = some (.slice e)) (h2 : P.info? e = some i) (h3 : i.zero = some z) (h4 : i.size = size) (h5 : i.bytes = bytes) (h6 : z.cells.size = size) (h7 : 0 < size)
    (v : Value) (n : Nat) (xs : List Value) (hs : a.eval s = v) (hown : w.ownsRow base e size v n xs)
    (ad : Addr) (m c : Nat) (news : List Value) (hx : a.eval x = .slice (some ad) m c) (hn : news.length = m * size) (hc : ∀ j u, news[j]? = some u → w.cell? (ad.add j) = some u) (h1c : ∀ u ∈ news, u.oneCell' = true)
    (b1 : n + m ≤ maxLen) (b2 : (n + m) * bytes ≤ 140737488355328) (hbase : base ≤ w.heap.size)
    (hK : ∀ v' w', w'.ownsRow base e size v' (n + m) (xs ++ news) → w.grownBy w' v.ownBlock → (v'.ownBlock = v.ownBlock ∨ v'.ownBlock = some w.heap.size) → K (a.put o.dst v') w') :
    if Region.wanted o (yielded ops a.tmps) = true then Oper.wp P o a w K Q else E := by
  have hw : Region.wanted o (yielded ops a.tmps) = true := by simp [Region.wanted, hg]
  rw [if_pos hw]
  obtain ⟨v', w', hrun, r1, r2, _, r4⟩ := run_append_own_at (P := P) w base t o.type e i z size bytes h1 h2 h3 h4 h5 h6 h7 v n xs hown ad m c news hn hc h1c b1 b2 hbase
  unfold Oper.wp
  simp [execOp, hop, resolve, invoke, builtin, hs, hx, hrun, Result.andThen]
  exact hK v' w' r1 r2 r4
theorem lyK_snoc {f : Nat → List Nat → Tr × List Nat × List Nat} (b : Nat) : ∀ (l out : List Nat), (lyK f (l ++ [b]) out).1 = (lyK f l out).1 ++ [(f b (lyK f l out).2.1).1] ∧ (lyK f (l ++ [b]) out).2.1 = (f b (lyK f l out).2.1).2.1
  | [], out => ⟨rfl, rfl⟩
  | c :: l, out => by
    obtain ⟨h1, h2⟩ := lyK_snoc b l (f c out).2.1
    exact ⟨congrArg (List.cons (f c out).1) h1, h2⟩
end Go.Proofs.YtaphijgbebhdlaaGreatDoor.Grp
end

section
/- The names of shared nodes, as they are handed out. -/
namespace Go.Proofs.YtaphijgbebhdlaaGreatDoor.Grp
open Utf Rws Pln Flw
set_option linter.unusedSimpArgs false
set_option linter.unusedVariables false

/-- the names of the first so many -/
def nmJ (S : List Nat) (j b : Nat) : Ln := if b ∈ S.take j then 97 :: Lib.itoa ((S.idxOf b + 1 : Nat) : Int) else []
theorem nmJ_zero (S : List Nat) (b : Nat) : nmJ S 0 b = [] := by unfold nmJ; simp
theorem nmJ_snoc {S : List Nat} {j : Nat} (hS : S.Nodup) (h : j < S.length) (b : Nat) : nmJ S (j + 1) b = if b = S.getD j 0 then 97 :: Lib.itoa ((j : Int) + 1) else nmJ S j b := by
  have e : S.getD j 0 = S[j] := by rw [List.getD_eq_getElem?_getD, List.getElem?_eq_getElem h]; rfl
  have ht : S.take (j + 1) = S.take j ++ [S[j]] := List.take_succ_eq_append_getElem h
  have hin : ∀ x, x ∈ S.take (j + 1) ↔ x ∈ S.take j ∨ x = S[j] := fun x => by rw [ht, List.mem_append, List.mem_singleton]
  rw [e]
  by_cases hb : b = S[j]
  · rw [if_pos hb]
    unfold nmJ
    rw [if_pos ((hin b).2 (.inr hb)), hb]
    have : S.idxOf S[j] = j := hS.idxOf_getElem j h
    rw [this]
    rfl
  · rw [if_neg hb]
    unfold nmJ
    by_cases hm : b ∈ S.take j
    · rw [if_pos hm, if_pos ((hin b).2 (.inl hm))]
    · rw [if_neg hm, if_neg (fun h => ((hin b).1 h).elim hm hb)]
theorem nmJ_all (ns : List Nd) (r b : Nat) : nmJ (shL ns r) (shL ns r).length b = nmG ns r b := by
  unfold nmJ nmG
  rw [List.take_length]
theorem sA_set (nm : Nat → Ln) (n i : Nat) (s : Ln) : (sA nm n).setIfInBounds i (.string (mk s)) = sA (fun x => if x = i then s else nm x) n := by
  apply Array.ext_getElem?
  intro k
  rw [Array.getElem?_setIfInBounds]
  by_cases hk : k < n
  · rw [sA_get _ hk, sA_get _ hk]
    by_cases e : i = k
    · subst e
      rw [if_pos rfl]
      simp [sA, hk]
    · rw [if_neg e]
      simp [Ne.symm e]
  · have e1 : (sA nm n)[k]? = none := by simp [sA]; omega
    have e2 : (sA (fun x => if x = i then s else nm x) n)[k]? = none := by simp [sA]; omega
    rw [e1, e2]
    split
    · simp [sA]; omega
    · rfl
theorem sA_made (n : Nat) : madeCells #[Value.string ⟨#[]⟩] n = sA (fun _ => []) n := by
  apply Array.ext_getElem?
  intro k
  by_cases hk : k < n
  · rw [sA_get _ hk]
    simp [madeCells, hk, Nat.mod_one]
    rfl
  · have e2 : (sA (fun _ => []) n)[k]? = none := by simp [sA]; omega
    rw [e2]
    simp [madeCells]; omega
theorem odG_shNd (ns : List Nd) (r : Nat) : (shL ns r).Nodup := List.Pairwise.filter _ (odG_nd ns r)
end Go.Proofs.YtaphijgbebhdlaaGreatDoor.Grp
end
