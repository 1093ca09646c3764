/- grommetlaw12.plain and bare, by their contracts. -/
import Derived.Test.YtahmnpfmccipbaaGreatDoorGraphFar
import Derived.Test.YtahmnpfmccipbaaGreatDoorFlowBrk
import Derived.Deep.RegionLaw
import Derived.Laws.OwnMore
import Derived.BigRegion
namespace Go.Proofs.YtahmnpfmccipbaaGreatDoor.Grp
open Utf Rws Pln Flw
open Go.RowKit
set_option linter.unusedSimpArgs false
set_option linter.unusedVariables false
set_option maxRecDepth 100000
set_option maxHeartbeats 4000000

/-- no Alias all through? -/
def plB : Nat → Tr → Bool
  | 0, _ => true
  | d + 1, t => t.kids.all (plB d) && decide (t.kind ≠ 7)
theorem plain_core {w : World} {d : Nat} {k : Int} {x a : Ln} {ad : Option Addr} {len cap : Nat} {ks : List Tr} (hcap : len ≤ 9223372036854775807) (HKA : Hid (KAt w d ad len ks))
    (HI : Hid (∀ W v t, Below w.heap.size w W → TrV w d v t → Calls Tryz.prog 16 #[v] W fun e W' => e = .returned (.bool (plB d t)) ∧ Hid (Below W.heap.size W W'))) :
    Calls Tryz.prog 16 #[tv k x a ad len cap] w fun e w' => e = .returned (.bool (plB (d + 1) ⟨k, x, a, ks⟩)) ∧ Below w.heap.size w w' := by
  have b0 := below_alloc w (.cells #[.int .i64 k, .string (mk x), .string (mk a), .slice ad len cap] 24)
  have n0 := Bx.new w #[.int .i64 k, .string (mk x), .string (mk a), .slice ad len cap] 24
  obtain ⟨R, HR⟩ : ∃ R, Hid (R = plB (d + 1) ⟨k, x, a, ks⟩) := ⟨_, rfl⟩
  rw [← HR.out]
  go_enter Tryz.func16, Tryz.ntmps16
  go_wp2_with fail
  have hsz : w.heap.size < (w.alloc (.cells #[.int .i64 k, .string (mk x), .string (mk a), .slice ad len cap] 24)).heap.size := by rw [World.size_alloc]; omega
  generalize w.alloc (.cells #[.int .i64 k, .string (mk x), .string (mk a), .slice ad len cap] 24) = W0 at *
  obtain ⟨K0, hK0⟩ : ∃ K0, K0 = w.heap.size := ⟨_, rfl⟩
  have HK0 : Hid (K0 = w.heap.size) := hK0
  rw [← hK0] at n0 ⊢
  clear hK0
  go_loopw [8] (fun i wr => ∃ j : Nat, j ≤ len ∧ i = .int .i64 j ∧ Hid (Below W0.heap.size W0 wr) ∧ Hid ((ks.take j).all (plB d) = true)) (fun i _ => len - (intOf i).toNat)
  case atStart => exact ⟨0, Nat.zero_le _, rfl, Below.refl _ _, (by simp : (ks.take 0).all (plB d) = true)⟩
  case round =>
    obtain ⟨j, hj, rfl, HW, HP⟩ := hrel
    have HB : Hid (Below w.heap.size w wr) := b0.trans (HW.out.mono b0.size)
    by_cases hlt : j < len
    · obtain ⟨b, off, rfl, hb, hcell⟩ := HKA.out.2 (by omega)
      obtain ⟨c0, c1, c2, c3, x0, x1, x2, x3, hx⟩ := hcell j hlt
      replace x0 := (HB.out.cell (p := ⟨b, off + j * 4, none⟩) hb).trans x0
      replace x1 := (HB.out.cell (p := ⟨b, off + j * 4 + 1, none⟩) hb).trans x1
      replace x2 := (HB.out.cell (p := ⟨b, off + j * 4 + 2, none⟩) hb).trans x2
      replace x3 := (HB.out.cell (p := ⟨b, off + j * 4 + 3, none⟩) hb).trans x3
      have HV : Hid (TrV w d (.agg #[c0, c1, c2, c3]) (ks.getD j tr0)) := hx
      obtain ⟨k', s', a', ad', len', cap', rfl, rfl, rfl, rfl⟩ := hx.cells
      clear hcell hx
      have hlk : j < ks.length := by have := HKA.out.1; omega
      have HTK : Hid ((ks.take (j + 1)).all (plB d) = ((ks.take j).all (plB d) && plB d (ks.getD j tr0))) := by
        show _ = _
        rw [List.take_succ_eq_append_getElem hlk, List.all_append, List.getD_eq_getElem?_getD, List.getElem?_eq_getElem hlk]
        simp
      have HAL : Hid (plB d (ks.getD j tr0) = false → ks.all (plB d) = false) := fun h => by
        rw [List.all_eq_false]
        refine ⟨ks.getD j tr0, ?_, by rw [h]; decide⟩
        rw [List.getD_eq_getElem?_getD, List.getElem?_eq_getElem hlk]
        exact List.getElem_mem hlk
      have HC : Hid (∀ c t, Calls Tryz.prog 16 #[.agg #[.int .i64 k', .string s', .string a', .slice ad' len' cap']] (wr.alloc (.cells c t)) fun e w' => e = .returned (.bool (plB d (ks.getD j tr0))) ∧ Hid (Below wr.heap.size wr w')) := fun c t =>
        (HI.out _ _ _ (HB.out.alloc HB.out.size _) HV.out).mono (fun e w' q => ⟨q.1, (below_alloc wr _).trans (q.2.out.mono (below_alloc wr (.cells c t)).size)⟩)
      cases hv : plB d (ks.getD j tr0)
      · rw [hv] at HC
        have HRF : Hid (R = false) := by show _ = _; rw [HR.out, plB, HAL.out hv, Bool.false_and]
        clear hv HAL HTK HR
        go_wp2_with (go_at_call 16; refine (HC.out _ _).mono ?_; rintro e w2 ⟨rfl, H2⟩)
        go_ret
        exact ⟨by rw [HRF.out]; rfl, HB.out.trans (H2.out.mono HB.out.size)⟩
      · rw [hv] at HC
        have HP2 : Hid ((ks.take (j + 1)).all (plB d) = true) := by show _ = _; rw [HTK.out, HP.out, hv]; rfl
        clear hv HAL HTK HR
        go_wp2_with (go_at_call 16; refine (HC.out _ _).mono ?_; rintro e w2 ⟨rfl, H2⟩)
        go_roundw
        case rel => exact ⟨j + 1, by omega, by go_num, HW.out.trans (H2.out.mono HW.out.size), HP2⟩
        case measure => simp [intOf]; omega
    · have e0 : wr.cell? ⟨K0, 0, none⟩ = some (.int .i64 k) := (n0.later HW.out).c4.1
      have HRV : Hid (R = decide (k ≠ 7)) := by
        show _ = _
        have h2 := HP.out
        rw [List.take_of_length_le (by have := HKA.out.1; omega)] at h2
        rw [HR.out, plB, h2, Bool.true_and]
      clear HP HR
      go_wp2
      go_ret
      refine ⟨?_, HB.out⟩
      rw [HRV.out]
      by_cases h7 : k = 7
      · subst h7; rfl
      · simp [h7, bne]
theorem plain_any : ∀ {w : World} {d : Nat} {v : Value} {t : Tr}, TrV w d v t → Calls Tryz.prog 16 #[v] w fun e w' => e = .returned (.bool (plB d t)) ∧ Below w.heap.size w w'
  | w, 0, v, t, h => h.elim
  | w, d + 1, v, t, h => by
    obtain ⟨ad, len, cap, rfl, hl, hc, hm, hz, hk⟩ := h
    obtain ⟨k, x, a, ks⟩ := t
    have m1 : maxLen = 9223372036854775807 := rfl
    exact plain_core (by omega) ⟨hl, hk⟩ (fun W v' t' b h' => (plain_any (h'.later b (Nat.le_refl _))).mono (fun e W' q => ⟨q.1, q.2⟩))

/-! ### bare -/
theorem step_call {P : Program} {ops : Array Oper} {o : Oper} {a : Act} {w : World} {K : Act → World → Prop} {Q : Exit → Act → World → Prop} {E : Prop} (hgd : o.guard = none) (f : FuncId) (xs : Array Operand) (ts : Array TypeId)
    (ho : o.op = .call { callee := .value (.func f), args := xs, argTypes := ts }) (vs : Array Value) (hcf : (callFunc f vs).run P w = .ok (.enter f vs) w) (hv : xs.map a.eval = vs) {R : Ending → World → Prop} (hc : Calls P f vs w R) (hR : ∀ e w', R e w' → ∃ v, e = .returned v ∧ K (a.put o.dst v) w') :
    if Region.wanted o (yielded ops a.tmps) = true then Oper.wp P o a w K Q else E := by
  have hw : Region.wanted o (yielded ops a.tmps) = true := by simp [Region.wanted, hgd]
  rw [if_pos hw]
  subst hv
  unfold Oper.wp
  simp [execOp, ho, resolve, invoke, Result.andThen, Act.eval, Deferred.ofValue]
  rw [hcf]
  exact hc.mono fun e w' hr => by obtain ⟨v, rfl, hk⟩ := hR e w' hr; exact hk
theorem step_append_at {P : Program} {ops : Array Oper} {o : Oper} {a : Act} {w : World} {K : Act → World → Prop} {Q : Exit → Act → World → Prop} {E : Prop}
    (hg : o.guard = none) (s x : Operand) (t : TypeId) (hop : o.op = Op.call { callee := Callee.builtin Builtin.append, args := #[s, x], argTypes := #[t, t] }) (base : Nat)
    (e : TypeId) (i : TypeInfo) (z : Value) (size bytes : Nat) (h1 : P.underlying t = some (.slice e)) (h2 : P.info? e = some i) (h3 : i.zero = some z) (h4 : i.size = size) (h5 : i.bytes = bytes) (h6 : z.cells.size = size) (h7 : 0 < size)
    (v : Value) (n : Nat) (xs : List Value) (hs : a.eval s = v) (hown : w.ownsRow base e size v n xs)
    (ad : Addr) (m c : Nat) (news : List Value) (hx : a.eval x = .slice (some ad) m c) (hn : news.length = m * size) (hc : ∀ j u, news[j]? = some u → w.cell? (ad.add j) = some u) (h1c : ∀ u ∈ news, u.oneCell' = true)
    (b1 : n + m ≤ maxLen) (b2 : (n + m) * bytes ≤ 140737488355328) (hbase : base ≤ w.heap.size)
    (hK : ∀ v' w', w'.ownsRow base e size v' (n + m) (xs ++ news) → w.grownBy w' v.ownBlock → (v'.ownBlock = v.ownBlock ∨ v'.ownBlock = some w.heap.size) → K (a.put o.dst v') w') :
    if Region.wanted o (yielded ops a.tmps) = true then Oper.wp P o a w K Q else E := by
  have hw : Region.wanted o (yielded ops a.tmps) = true := by simp [Region.wanted, hg]
  rw [if_pos hw]
  obtain ⟨v', w', hrun, r1, r2, _, r4⟩ := run_append_own_at (P := P) w base t o.type e i z size bytes h1 h2 h3 h4 h5 h6 h7 v n xs hown ad m c news hn hc h1c b1 b2 hbase
  unfold Oper.wp
  simp [execOp, hop, resolve, invoke, builtin, hs, hx, hrun, Result.andThen]
  exact hK v' w' r1 r2 r4
theorem cell_four (w : World) (a b c d : Value) (t : TypeId) : ∀ j u, [a, b, c, d][j]? = some u → (w.alloc (.cells #[a, b, c, d] t)).cell? ((⟨w.heap.size, 0, none⟩ : Addr).add j) = some u := by
  intro j u hj
  have e : (⟨w.heap.size, 0, none⟩ : Addr).add j = ⟨w.heap.size, j, none⟩ := by simp [Addr.add]; intro h; exact h.symm
  rw [e, World.cell?_alloc_new]
  match j, hj with
  | 0, hj => simpa using hj
  | 1, hj => simpa using hj
  | 2, hj => simpa using hj
  | 3, hj => simpa using hj
/-- a tree under way: its answer's box, its own box, its kids -/
structure Kb (w : World) (KR K2 d : Nat) (k : Int) (x : Ln) (u : Value) (m : Nat) (xs : List Value) (ks : List Tr) : Prop where
  rb : Bx w KR zT 24
  bx : Bx w K2 #[.int .i64 k, .string (mk x), .string ⟨#[]⟩, u] 24
  own : w.ownsRow (K2 + 1) 24 4 u m xs
  kd : KdQ (Out (K2 + 1) u) w d xs ks
  hm : m = ks.length
  h1 : KR < K2
variable {w w1 : World} {KR K2 d m : Nat} {k : Int} {x : Ln} {u : Value} {xs : List Value} {ks : List Tr}
theorem kb_keep (h : Kb w KR K2 d k x u m xs ks) (hs : w.heap.size ≤ w1.heap.size) (hk : ∀ j, KR ≤ j → j < w.heap.size → w1.heap[j]? = w.heap[j]?) : Kb w1 KR K2 d k x u m xs ks := by
  have h1 := h.h1
  exact ⟨(hk KR (Nat.le_refl _) h.rb.lt).trans h.rb, (hk K2 (by omega) h.bx.lt).trans h.bx, Flw.own_keep h.own (fun j a b => hk j (by omega) b), h.kd.keep hs (fun j a b => hk j (by have := a.1; omega) b), h.hm, h.h1⟩
theorem kb_later (h : Kb w KR K2 d k x u m xs ks) (hb : Below w.heap.size w w1) : Kb w1 KR K2 d k x u m xs ks := kb_keep h hb.size (fun j _ hj => hb.block j hj)
theorem kb_more (h : Kb w KR K2 d k x u m xs ks) {v' : Value} {ys : List Value} {t' : Tr} (hown : w1.ownsRow (K2 + 1) 24 4 v' (m + 1) (xs ++ ys)) (hg : w.grownBy w1 u.ownBlock) (hat : v'.ownBlock = u.ownBlock ∨ v'.ownBlock = some w.heap.size)
    (hk : KdQ (Out (K2 + 1) u) w d ys [t']) : Kb (w1.setCell ⟨K2, 3, none⟩ v') KR K2 d k x v' (m + 1) (xs ++ ys) (ks ++ [t']) := by
  have h1 := h.h1
  have hrow : ∀ k, u.ownBlock = some k → K2 + 1 ≤ k := fun k hk => (own_blk h.own hk).1
  have hkeep : ∀ j, j < w.heap.size → (∀ k, u.ownBlock = some k → j ≠ k) → w1.heap[j]? = w.heap[j]? := fun j hj hne => hg.block j hj (fun e => hne j e.symm rfl)
  have hb1 : Bx w1 K2 #[.int .i64 k, .string (mk x), .string ⟨#[]⟩, u] 24 := (hkeep K2 h.bx.lt (fun k hk => by have := hrow k hk; omega)).trans h.bx
  have hr1 : Bx w1 KR zT 24 := (hkeep KR h.rb.lt (fun k hk => by have := hrow k hk; omega)).trans h.rb
  have k2 : KdQ (fun j => Out (K2 + 1) u j ∧ j < w.heap.size) w d (xs ++ ys) (ks ++ [t']) := (h.kd.app hk).wide (fun j a c => ⟨a, c⟩)
  have k3 : KdQ (Out (K2 + 1) v') w1 d (xs ++ ys) (ks ++ [t']) := (k2.keep hg.size (fun j a _ => hkeep j a.2 a.1.2)).wide (fun j a _ => ⟨a.1.1, fun k hk => by
    rcases hat with e | e
    · rw [e] at hk; exact a.1.2 k hk
    · rw [e] at hk; cases hk; exact Nat.ne_of_lt a.2⟩)
  have hset : ∀ j, K2 + 1 ≤ j → (w1.setCell ⟨K2, 3, none⟩ v').heap[j]? = w1.heap[j]? := fun j hj => Below.heap_setCell _ _ _ _ (fun e => by simp only at e; omega)
  exact ⟨hr1.other (by omega) _ _, hb1.set 3 v', Flw.own_keep hown (fun j a _ => hset j a), k3.keep (by simp [World.setCell]) (fun j a _ => hset j a.1), by rw [List.length_append, h.hm]; rfl, h.h1⟩
/-- the tree is done -/
theorem kb_node (h : Kb w KR K2 d k x u m xs ks) (hkb : -9223372036854775808 ≤ k ∧ k ≤ 9223372036854775807) (hx : x.length ≤ 9223372036854775807) :
    ∃ ad len cap, u = .slice ad len cap ∧ TrP (K2 + 1) w (d + 1) (.agg #[.int .i64 k, .string (mk x), .string (mk []), .slice ad len cap]) ⟨k, x, [], ks⟩ := by
  obtain ⟨hxl, hv⟩ := h.own
  have hn := h.hm
  rcases hv with ⟨rfl, h0⟩ | ⟨g, cap, cur, rfl, hg, hh, hnc, hcm, hcs, htk⟩
  · have hk0 : ks = [] := List.length_eq_zero_iff.1 (by omega)
    subst hk0
    exact ⟨none, 0, 0, rfl, none, 0, 0, rfl, rfl, Nat.le_refl _, Nat.zero_le _, ⟨hkb.1, hkb.2, hx, by simp⟩, fun h => absurd h (by omega)⟩
  · refine ⟨_, m, cap, rfl, _, m, cap, rfl, hn, hnc, hcm, ⟨hkb.1, hkb.2, hx, by simp⟩, fun _ => ⟨g, 0, rfl, hg, (Array.getElem?_eq_some_iff.1 hh).1, fun i hi => ?_⟩⟩
    obtain ⟨c0, c1, c2, c3, h0, h1, h2, h3, ht⟩ := h.kd.2.2 i (by omega)
    have cc : ∀ j u, j < m * 4 → xs[j]? = some u → w.cell? ⟨g, 0 + j, none⟩ = some u := fun j u hj hu => by
      rw [Lib.cell_of_heap hh]
      rw [← htk, List.getElem?_take_of_lt hj] at hu
      simpa using hu
    exact ⟨c0, c1, c2, c3, cc _ _ (by omega) h0, by have := cc _ _ (by omega) h1; rwa [show 0 + (i * 4 + 1) = 0 + i * 4 + 1 by omega] at this, by have := cc _ _ (by omega) h2; rwa [show 0 + (i * 4 + 2) = 0 + i * 4 + 2 by omega] at this, by have := cc _ _ (by omega) h3; rwa [show 0 + (i * 4 + 3) = 0 + i * 4 + 3 by omega] at this, ht.wide (fun j a _ => a.1)⟩
/-- a kid's cells, which lie behind all that was -/
theorem kdq_one {C A : Nat} {k : Int} {x y : ByteArray} {ad : Option Addr} {len cap : Nat} {t : Tr} (h : TrP A w d (.agg #[.int .i64 k, .string x, .string y, .slice ad len cap]) t) (hC : C ≤ A) (hu : ∀ k, u.ownBlock = some k → k < A) : KdQ (Out C u) w d [.int .i64 k, .string x, .string y, .slice ad len cap] [t] :=
  KdQ.wide (Kd.one h) (fun j a _ => ⟨by omega, fun k hk => by have := hu k hk; omega⟩)
/-- a tree without anchors -/
def br : Nat → Tr → Tr
  | 0, t => t
  | d + 1, t => ⟨t.kind, t.text, [], t.kids.map (br d)⟩
def BRes (w : World) (d : Nat) (t : Tr) (e : Ending) (w' : World) : Prop := ∃ (k : Int) (x y : ByteArray) (ad : Option Addr) (len cap : Nat), e = .returned (.agg #[.int .i64 k, .string x, .string y, .slice ad len cap]) ∧ Hid (TrP w.heap.size w' d (.agg #[.int .i64 k, .string x, .string y, .slice ad len cap]) t) ∧ Hid (Below w.heap.size w w')
theorem own_shapeT {w : World} {C : Nat} {v : Value} {n : Nat} {xs : List Value} (h : w.ownsRow C 24 4 v n xs) : ∃ ad cap, v = .slice ad n cap := by
  rcases h.2 with ⟨rfl, h0⟩ | ⟨g, cap, cur, rfl, _⟩
  · exact ⟨none, 0, by rw [h0]⟩
  · exact ⟨_, cap, rfl⟩
theorem kb_new (W : World) (d : Nat) (k : Int) (x : Ln) : Kb ((W.alloc (.cells zT 24)).alloc (.cells #[.int .i64 k, .string (mk x), .string ⟨#[]⟩, .slice none 0 0] 24)) W.heap.size (W.heap.size + 1) d k x (.slice none 0 0) 0 [] [] ∧ Below W.heap.size W ((W.alloc (.cells zT 24)).alloc (.cells #[.int .i64 k, .string (mk x), .string ⟨#[]⟩, .slice none 0 0] 24)) := by
  have b1 := below_alloc W (.cells zT 24)
  have s1 : (W.alloc (.cells zT 24)).heap.size = W.heap.size + 1 := World.size_alloc _ _
  have b2 := below_alloc (W.alloc (.cells zT 24)) (.cells #[.int .i64 k, .string (mk x), .string ⟨#[]⟩, .slice none 0 0] 24)
  have n2 := Bx.new (W.alloc (.cells zT 24)) #[.int .i64 k, .string (mk x), .string ⟨#[]⟩, .slice none 0 0] 24
  rw [s1] at n2
  exact ⟨⟨(Bx.new W zT _).later b2, n2, World.ownsRow_nil _ _ _ _, KdQ.nil _, rfl, Nat.lt_succ_self _⟩, b1.trans (b2.mono b1.size)⟩
theorem kb_set (h : Kb w KR K2 d k x u m xs ks) (hkb : i64 k) (hx : x.length ≤ 9223372036854775807) : ∃ ad len cap, u = .slice ad len cap ∧ Bx ((((w.setCell ⟨KR, 0, none⟩ (.int .i64 k)).setCell ⟨KR, 1, none⟩ (.string (mk x))).setCell ⟨KR, 2, none⟩ (.string ⟨#[]⟩)).setCell ⟨KR, 3, none⟩ u) KR #[.int .i64 k, .string (mk x), .string ⟨#[]⟩, u] 24 ∧ TrP (K2 + 1) ((((w.setCell ⟨KR, 0, none⟩ (.int .i64 k)).setCell ⟨KR, 1, none⟩ (.string (mk x))).setCell ⟨KR, 2, none⟩ (.string ⟨#[]⟩)).setCell ⟨KR, 3, none⟩ u) (d + 1) (.agg #[.int .i64 k, .string (mk x), .string ⟨#[]⟩, .slice ad len cap]) ⟨k, x, [], ks⟩ := by
  obtain ⟨ad, len, cap, rfl, ht⟩ := kb_node h hkb hx
  have h1 := h.h1
  exact ⟨ad, len, cap, rfl, (((h.rb.set 0 _).set 1 _).set 2 _).set 3 _, (((ht.set (by omega)).set (by omega)).set (by omega)).set (by omega)⟩
theorem one_four (rk : Int) (rx ry : ByteArray) (rad : Option Addr) (rlen rcap : Nat) : ∀ u ∈ ([.int .i64 rk, .string rx, .string ry, .slice rad rlen rcap] : List Value), u.oneCell' = true := by
  intro u hu
  simp only [List.mem_cons, List.not_mem_nil, or_false] at hu
  rcases hu with rfl | rfl | rfl | rfl <;> rfl
theorem bare_core {w : World} {d : Nat} {k : Int} {x a : Ln} {ad : Option Addr} {len cap : Nat} {ks : List Tr} (hk : i64 k) (hx : x.length ≤ 9223372036854775807) (hcap : len ≤ 1000000) (HKA : Hid (KAt w d ad len ks))
    (HI : Hid (∀ W v t, Below w.heap.size w W → TrV w d v t → t ∈ ks → Calls Tryz.prog 20 #[v] W (BRes W d (br d t)))) :
    Calls Tryz.prog 20 #[tv k x a ad len cap] w (BRes w (d + 1) (br (d + 1) ⟨k, x, a, ks⟩)) := by
  have b0 := below_alloc w (.cells #[.int .i64 k, .string (mk x), .string (mk a), .slice ad len cap] 24)
  have s0 : (w.alloc (.cells #[.int .i64 k, .string (mk x), .string (mk a), .slice ad len cap] 24)).heap.size = w.heap.size + 1 := World.size_alloc _ _
  have k0 := kb_new (w.alloc (.cells #[.int .i64 k, .string (mk x), .string (mk a), .slice ad len cap] 24)) d k x
  rw [s0] at k0
  obtain ⟨it, hi, hz0, hz1, hz2⟩ := info_parts infoTree
  have hcf : ∀ (vs : Array Value) (w : World), (callFunc 20 vs).run Tryz.prog w = .ok (.enter 20 vs) w := enters_of Tryz.func20 (by kernel_rfl) rfl
  obtain ⟨R, HR⟩ : ∃ R, Hid (R = br (d + 1) ⟨k, x, a, ks⟩) := ⟨_, rfl⟩
  rw [← HR.out]
  go_enter Tryz.func20, Tryz.ntmps20
  go_wp2_with fail
  have k1 : Kb _ _ _ d k x (.slice none 0 0) 0 [] [] := k0.1
  have HB0 : Hid (Below w.heap.size w _) := b0.trans (k0.2.mono (Nat.le_succ _))
  clear k0 b0 s0
  have k2 : Kb (((w.alloc (.cells #[.int .i64 k, .string (mk x), .string (mk a), .slice ad len cap] 24)).alloc (.cells #[.int .i64 0, .string ⟨#[]⟩, .string ⟨#[]⟩, .slice none 0 0] 24)).alloc (.cells #[.int .i64 k, .string (mk x), .string ⟨#[]⟩, .slice none 0 0] 24)) (w.heap.size + 1) (w.heap.size + 1 + 1) d k x (.slice none 0 0) 0 [] [] := k1
  have HB1 : Hid (Below w.heap.size w (((w.alloc (.cells #[.int .i64 k, .string (mk x), .string (mk a), .slice ad len cap] 24)).alloc (.cells #[.int .i64 0, .string ⟨#[]⟩, .string ⟨#[]⟩, .slice none 0 0] 24)).alloc (.cells #[.int .i64 k, .string (mk x), .string ⟨#[]⟩, .slice none 0 0] 24))) := HB0
  clear k1 HB0
  generalize (((w.alloc (.cells #[.int .i64 k, .string (mk x), .string (mk a), .slice ad len cap] 24)).alloc (.cells #[.int .i64 0, .string ⟨#[]⟩, .string ⟨#[]⟩, .slice none 0 0] 24)).alloc (.cells #[.int .i64 k, .string (mk x), .string ⟨#[]⟩, .slice none 0 0] 24)) = W0 at k2 HB1 ⊢
  have HKR : Hid (w.heap.size ≤ w.heap.size + 1) := Nat.le_succ _
  generalize w.heap.size + 1 + 1 = K2 at k2 ⊢
  generalize w.heap.size + 1 = KR at k2 HKR ⊢
  go_loopw [14] (fun i wr => ∃ (j : Nat) (u : Value) (xs : List Value), j ≤ len ∧ i = .int .i64 j ∧ Hid (Kb wr KR K2 d k x u j xs ((ks.take j).map (br d))) ∧ Hid (Below w.heap.size w wr)) (fun i _ => len - (intOf i).toNat)
  case atStart => exact ⟨0, _, [], Nat.zero_le _, rfl, k2, HB1⟩
  case round =>
    obtain ⟨j, u, xs, hj, rfl, HK, HB⟩ := hrel
    clear k2 HB1
    by_cases hlt : j < len
    · obtain ⟨b, off, rfl, hb, hcell⟩ := HKA.out.2 (by omega)
      obtain ⟨c0, c1, c2, c3, x0, x1, x2, x3, hv⟩ := hcell j hlt
      replace x0 := (HB.out.cell (p := ⟨b, off + j * 4, none⟩) hb).trans x0
      replace x1 := (HB.out.cell (p := ⟨b, off + j * 4 + 1, none⟩) hb).trans x1
      replace x2 := (HB.out.cell (p := ⟨b, off + j * 4 + 2, none⟩) hb).trans x2
      replace x3 := (HB.out.cell (p := ⟨b, off + j * 4 + 3, none⟩) hb).trans x3
      have HV : Hid (TrV w d (.agg #[c0, c1, c2, c3]) (ks.getD j tr0)) := hv
      obtain ⟨k', s', a', ad', len', cap', rfl, rfl, rfl, rfl⟩ := hv.cells
      clear hcell hv
      have hlk : j < ks.length := by have := HKA.out.1; omega
      have HTK : Hid ((ks.take (j + 1)).map (br d) = (ks.take j).map (br d) ++ [br d (ks.getD j tr0)]) := by
        show _ = _
        rw [List.take_succ_eq_append_getElem hlk, List.map_append, List.getD_eq_getElem?_getD, List.getElem?_eq_getElem hlk]
        simp
      have hmem : ks.getD j tr0 ∈ ks := by
        rw [List.getD_eq_getElem?_getD, List.getElem?_eq_getElem hlk]
        exact List.getElem_mem hlk
      generalize ks.getD j tr0 = tj at HV HTK hmem
      have hKlt : K2 < wr.heap.size := HK.out.bx.lt
      go_upto_region 5 with fail
      have ba := below_alloc wr (.cells #[.int .i64 k', .string s', .string a', .slice ad' len' cap'] 24)
      have HK1 : Hid (Kb (wr.alloc (.cells #[.int .i64 k', .string s', .string a', .slice ad' len' cap'] 24)) KR K2 d k x u j xs ((ks.take j).map (br d))) := kb_later HK.out ba
      have HB1 : Hid (Below w.heap.size w (wr.alloc (.cells #[.int .i64 k', .string s', .string a', .slice ad' len' cap'] 24))) := HB.out.trans (ba.mono HB.out.size)
      have n1 := Bx.new wr #[.int .i64 k', .string s', .string a', .slice ad' len' cap'] 24
      have hK3 : K2 < wr.heap.size := hKlt
      generalize wr.alloc (.cells #[.int .i64 k', .string s', .string a', .slice ad' len' cap'] 24) = W1 at HK1 HB1 n1 ⊢
      obtain ⟨K3, hK3e⟩ : ∃ K3, K3 = wr.heap.size := ⟨_, rfl⟩
      rw [← hK3e] at n1 hK3 ⊢
      clear hK3e ba hKlt HK HB x0 x1 x2 x3
      have hlt3 := n1.lt
      obtain ⟨d0, d1, d2, d3⟩ := n1.c4
      have e3 : W1.cell? ⟨K2, 3, none⟩ = some u := HK1.out.bx.c4.2.2.2
      have HC : Hid (Calls Tryz.prog 20 #[.agg #[.int .i64 k', .string s', .string a', .slice ad' len' cap']] W1.drew (BRes W1.drew d (br d tj))) := HI.out _ _ _ HB1.out.drew HV.out hmem
      have HKD : Hid (Kb W1.drew KR K2 d k x u j xs ((ks.take j).map (br d))) := kb_later HK1.out (Below.refl _ W1).drew
      have HOB : Hid (∀ q, u.ownBlock = some q → q < W1.heap.size) := fun q hq => (own_blk HK1.out.own hq).2
      have HKW : Hid (K2 + 1 ≤ W1.heap.size) := HK1.out.bx.lt
      clear n1 HI
      go_region_law (first
        | (refine step_call rfl 20 _ _ rfl #[.agg #[.int .i64 k', .string s', .string a', .slice ad' len' cap']] (hcf _ _) (by simp [Act.eval, Act.put]) HC.out ?_; rintro e w2 ⟨rk, rx, ry, rad, rlen, rcap, rfl, HT2, HB2⟩; refine ⟨_, rfl, ?_⟩; have HK2 : Hid (Kb w2 KR K2 d k x u j xs ((ks.take j).map (br d))) := kb_later HKD.out HB2.out; have q1 : w2.cell? ⟨K2, 3, none⟩ = some u := HK2.out.bx.c4.2.2.2; have hs2 : W1.heap.size ≤ w2.heap.size := HB2.out.size; have hk2 : K2 < w2.heap.size := HK2.out.bx.lt)
        | (refine step_append_at rfl (.tmp 19) (.tmp 22) 22 rfl (K2 + 1) 24 it (.agg zT) 4 64 Tryz.underlying22 hi hz0 hz1 hz2 rfl (by decide) u j xs (by simp [Act.eval, Act.put]) (HK2.out.own.alloc _) ⟨w2.heap.size, 0, none⟩ 1 1 [.int .i64 rk, .string rx, .string ry, .slice rad rlen rcap] (by simp [Act.eval, Act.put]) rfl (cell_four _ _ _ _ _ _) (one_four _ _ _ _ _ _) (by unfold maxLen; omega) (by omega) (by rw [World.size_alloc]; have := HKW.out; omega) ?_; intro v' w3 hown' hgrow hat; obtain ⟨va, vc, rfl⟩ := own_shapeT hown'; have hb3 : Bx w3 K2 #[.int .i64 k, .string (mk x), .string ⟨#[]⟩, u] 24 := (hgrow.block K2 (by rw [World.size_alloc]; omega) (fun e => by have := own_blk HK2.out.own e.symm; omega)).trans (HK2.out.bx.later (below_alloc w2 _)); have c3 : w3.cell? ⟨K2, 3, none⟩ = some u := hb3.c4.2.2.2; have f3 := hb3.fz 3))
      all_goals
        have HK4 : Hid (Kb (w3.setCell ⟨K2, 3, none⟩ (.slice va (j + 1) vc)) KR K2 d k x (.slice va (j + 1) vc) (j + 1) (xs ++ [.int .i64 rk, .string rx, .string ry, .slice rad rlen rcap]) ((ks.take (j + 1)).map (br d))) := (by rw [HTK.out]; exact kb_more (kb_later HK2.out (below_alloc w2 _)) hown' hgrow hat (kdq_one (HT2.out.later (below_alloc w2 _)) HKW.out HOB.out))
        have HB4 : Hid (Below w.heap.size w (w3.setCell ⟨K2, 3, none⟩ (.slice va (j + 1) vc))) := (by
          have z1 := (HB1.out.drew.trans (HB2.out.mono HB1.out.size)).alloc (by have := HB1.out.size; omega) (.cells #[.int .i64 rk, .string rx, .string ry, .slice rad rlen rcap] 24)
          have z2 := z1.grown hgrow z1.size (fun q hq => by have := (own_blk HK2.out.own hq).1; have := HKR.out; have := HK2.out.h1; omega)
          exact z2.setCell (p := ⟨K2, 3, none⟩) (by show w.heap.size ≤ K2; have := HKR.out; have := HK2.out.h1; omega) _)
        clear hown' hgrow hat hb3 c3 f3 q1 hs2 hk2 HK2 HT2 HB2 HC HKD HOB
        go_wp2
        go_roundw
        case rel => exact ⟨j + 1, _, _, by omega, by go_num, HK4, HB4⟩
        case measure => simp [intOf]; omega
    · have e : j = len := by omega
      subst e
      have HRE : Hid (R = ⟨k, x, [], (ks.take j).map (br d)⟩) := by
        show _ = _
        rw [HR.out, br, List.take_of_length_le (by have := HKA.out.1; omega)]
      obtain ⟨ua, ul, uc, rfl, n9, t9⟩ := kb_set HK.out hk hx
      obtain ⟨d0, d1, d2, d3⟩ := HK.out.bx.c4
      obtain ⟨r0, r1, r2, r3⟩ := (show Bx wr KR #[.int .i64 0, .string ⟨#[]⟩, .string ⟨#[]⟩, .slice none 0 0] 24 from HK.out.rb).c4
      have z0 := HK.out.rb.fz 0
      have z1 := HK.out.rb.fz 1
      have z2 := HK.out.rb.fz 2
      have z3 := HK.out.rb.fz 3
      have HB9 : Hid (Below w.heap.size w ((((wr.setCell ⟨KR, 0, none⟩ (.int .i64 k)).setCell ⟨KR, 1, none⟩ (.string (mk x))).setCell ⟨KR, 2, none⟩ (.string ⟨#[]⟩)).setCell ⟨KR, 3, none⟩ (.slice ua ul uc))) := (((HB.out.setCell (p := ⟨KR, 0, none⟩) HKR.out _).setCell (p := ⟨KR, 1, none⟩) HKR.out _).setCell (p := ⟨KR, 2, none⟩) HKR.out _).setCell (p := ⟨KR, 3, none⟩) HKR.out _
      have HT9 : Hid (TrP (K2 + 1) _ (d + 1) _ _) := t9
      have HN9 : Hid (Bx _ KR _ _) := n9
      have hne : K2 ≠ KR := by have := HK.out.h1; omega
      have HLE : Hid (w.heap.size ≤ K2 + 1) := by have := HK.out.h1; have := HKR.out; show _ ≤ _; omega
      clear t9 n9 HK HB hcf
      go_wp2
      generalize (((wr.setCell ⟨KR, 0, none⟩ (.int .i64 k)).setCell ⟨KR, 1, none⟩ (.string (mk x))).setCell ⟨KR, 2, none⟩ (.string ⟨#[]⟩)).setCell ⟨KR, 3, none⟩ (.slice ua ul uc) = W9 at HB9 HT9 HN9 ⊢
      obtain ⟨g0, g1, g2, g3⟩ := HN9.out.c4
      refine bodyPost_ret (v := .agg #[.int .i64 k, .string (mk x), .string ⟨#[]⟩, .slice ua ul uc]) (by simp [results, Tryz.results20, go_sem, g0, g1, g2, g3]) rfl ?_
      refine ⟨k, mk x, ⟨#[]⟩, ua, ul, uc, rfl, ?_, HB9⟩
      rw [HRE.out]
      exact HT9.out.mono HLE.out
theorem kids_tsz {d : Nat} : ∀ (ks : List Tr), (∀ t ∈ ks, 1 ≤ tsz d t) → ks.length ≤ (ks.map (tsz d)).sum
  | [], _ => Nat.le_refl _
  | t :: ks, h => by
    rw [List.map_cons, List.sum_cons, List.length_cons]
    have := h t (by simp)
    have := kids_tsz ks (fun u hu => h u (by simp [hu]))
    omega
theorem tsz_mem {d : Nat} {ks : List Tr} {t : Tr} (h : t ∈ ks) : tsz d t ≤ (ks.map (tsz d)).sum := by
  induction ks with
  | nil => cases h
  | cons u ks ih =>
    rw [List.map_cons, List.sum_cons]
    rcases List.mem_cons.1 h with rfl | h
    · omega
    · have := ih h; omega
theorem tsz_pos {w : World} {d : Nat} {v : Value} {t : Tr} (h : TrV w d v t) : 1 ≤ tsz d t := by
  cases d with
  | zero => exact h.elim
  | succ d => rw [tsz]; omega
theorem bare_any : ∀ {w : World} {d : Nat} {v : Value} {t : Tr}, TrV w d v t → tsz d t ≤ 1000000 → Calls Tryz.prog 20 #[v] w (BRes w d (br d t))
  | w, 0, v, t, h, _ => h.elim
  | w, d + 1, v, t, h, hz => by
    obtain ⟨ad, len, cap, rfl, hl, hc, hm, hzz, hk⟩ := h
    obtain ⟨k, x, a, ks⟩ := t
    rw [tsz] at hz
    simp only at hz hl
    have hlk : ks.length ≤ (ks.map (tsz d)).sum := kids_tsz ks fun u hu => by
      obtain ⟨i, hi, rfl⟩ := List.getElem_of_mem hu
      obtain ⟨b, off, ha, hlt, hcell⟩ := hk (by omega)
      obtain ⟨c0, c1, c2, c3, h0, h1, h2, h3, ht⟩ := hcell i (by omega)
      rw [List.getD_eq_getElem?_getD, List.getElem?_eq_getElem hi, Option.getD_some] at ht
      exact tsz_pos ht
    refine bare_core ⟨hzz.1, hzz.2.1⟩ hzz.2.2.1 (by omega) ⟨hl, hk⟩ (fun W v' t' b h' hm' => bare_any (h'.later b (Nat.le_refl _)) (by have := tsz_mem (d := d) hm'; omega))
end Go.Proofs.YtahmnpfmccipbaaGreatDoor.Grp
