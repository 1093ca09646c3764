/- Several texts as one: LayLd, LayTp, LayFit. -/
import Derived.Test.YtaphijgbebhdlaaGreatDoorV19LaySz
import Derived.Test.YtaphijgbebhdlaaGreatDoorV20LayTr
import Derived.Test.YtaphijgbebhdlaaGreatDoorV17LayGo
import Derived.Test.YtaphijgbebhdlaaGreatDoorV14GraphGo
import Derived.Deep.RegionWith
import Derived.Test.YtaphijgbebhdlaaGreatDoorV16GraphTop2I
import Derived.Test.YtaphijgbebhdlaaGreatDoorV22GraphPlc2
section
/- Package lay's laid, by its contract. -/
namespace Go.Proofs.YtaphijgbebhdlaaGreatDoor.Grp
open Utf Rws Pln Flw
open Go.RowKit
set_option linter.unusedSimpArgs false
set_option linter.unusedVariables false
set_option maxRecDepth 100000
set_option maxHeartbeats 4000000

theorem nmG_len (ns : List Nd) (r a : Nat) (h : (odG ns r).length ≤ 1000000000) : (nmG ns r a).length ≤ 65536 := by
  unfold nmG
  split
  · rename_i hm
    have h1 : (shL ns r).idxOf a < (shL ns r).length := List.idxOf_lt_length_of_mem hm
    have h2 := sh_len ns r
    have h3 := Pln.itoa_len (((shL ns r).idxOf a + 1 : Nat) : Int) (by constructor <;> omega)
    rw [List.length_cons]
    omega
  · simp
/-- what anchorsOf leaves -/
structure AnR (w W W' : World) (KN CA len : Nat) (nm : Nat → Ln) : Prop where
  a : Bx W' CA (sA nm len) 9
  ex : Ex KN W W'
  bl : Below w.heap.size w W'
  h2 : W.heap.size ≤ CA
/-- closed under what each waits for -/
def clo (dp : List (List Nat)) (s : List Bool) : Prop := ∀ i d, d ∈ dp.getD i [] → s.getD i false = true → s.getD d false = true
theorem clo_nil (dp : List (List Nat)) (n : Nat) : clo dp (List.replicate n false) := fun i d _ h => by
  rw [List.getD_eq_getElem?_getD, List.getElem?_replicate] at h
  split at h <;> simp at h
theorem clo_set {dp : List (List Nat)} {s : List Bool} (h : clo dp s) {i : Nat} (hi : i < s.length) (hd : ∀ d ∈ dp.getD i [], s.getD d false = true) : clo dp (s.set i true) := fun j d hdj hj => by
  have key : s.getD d false = true → (s.set i true).getD d false = true := fun hs => by
    rw [List.getD_eq_getElem?_getD, List.getElem?_set]
    split
    · first | rfl | (split <;> first | rfl | omega)
    · rw [← List.getD_eq_getElem?_getD]; exact hs
  by_cases e : i = j
  · subst e
    exact key (hd d hdj)
  · refine key (h j d hdj ?_)
    rw [List.getD_eq_getElem?_getD, List.getElem?_set, if_neg e, ← List.getD_eq_getElem?_getD] at hj
    exact hj
theorem wpOp_call {P : Program} {ops : Array Oper} {Q : Exit → Act → World → Prop} {j : Nat} {o : Oper} {Kk : Act → World → Prop} {a : Act} {w : World} (ho : ops[j]? = some o) (hg : o.guard = none) (f : FuncId) (xs : Array Operand) (ts : Array TypeId)
    (hop : o.op = .call { callee := .value (.func f), args := xs, argTypes := ts }) (vs : Array Value) (hcf : (callFunc f vs).run P w = .ok (.enter f vs) w) (hv : xs.map a.eval = vs) {R : Ending → World → Prop} (hc : Calls P f vs w R) (hR : ∀ e w', R e w' → ∃ v, e = .returned v ∧ Kk (a.put o.dst v) w') : wpOp P ops Q j Kk a w := by
  refine wpOp_at ho (by simp [Region.wanted, hg]) ?_
  subst hv
  unfold Oper.wp
  simp [execOp, hop, resolve, invoke, Result.andThen, Act.eval, Deferred.ofValue]
  rw [hcf]
  exact hc.mono fun e w' hr => by obtain ⟨v, rfl, hk⟩ := hR e w' hr; exact hk
structure LdE where
  KN : Nat
  CA : Nat
  CC : Nat
  K : Nat
  W : World
/-- the boxes of laid's own, and what was there -/
structure LdB (w W0 W : World) (K0 KR : Nat) (g0 g1 : Value) : Prop where
  g : Bx W K0 #[g0, g1] 24
  r : Bx W KR zT 29
  bl : Below w.heap.size w W
  sz : W0.heap.size ≤ W.heap.size
  k0 : K0 < W0.heap.size
  kr : KR < W0.heap.size
theorem LdB.later {w W0 W W' : World} {K0 KR : Nat} {g0 g1 : Value} (h : LdB w W0 W K0 KR g0 g1) (hb : Below W.heap.size W W') : LdB w W0 W' K0 KR g0 g1 :=
  ⟨h.g.later hb, h.r.later hb, h.bl.trans (hb.mono h.bl.size), Nat.le_trans h.sz hb.size, h.k0, h.kr⟩
theorem LdB.ex {w W0 W W' : World} {K0 KR KN : Nat} {g0 g1 : Value} (h : LdB w W0 W K0 KR g0 g1) (hx : Ex KN W W') (hb : Below w.heap.size w W') (hk : W0.heap.size ≤ KN) : LdB w W0 W' K0 KR g0 g1 := by
  have h1 := h.k0
  have h2 := h.kr
  exact ⟨hx.bx h.g (by omega), hx.bx h.r (by omega), hb, Nat.le_trans h.sz hx.size, h1, h2⟩
def laidDp : List (List Nat) := [[], [0], [], [], [3], [2, 4], [], [6], [7], [8], [1, 5, 9], [10], [11]]
theorem laid_core {w : World} {b off len cap m : Nat} {ns : List Nd} (hq : rgG ⟨ns, (m : Int)⟩ = true) (hlen : len ≤ 4096) (hN : NAt w (some ⟨b, off, none⟩) len ns) (hS : Sml ns) (hT : Tb w) (hm : m < len) :
    Calls Tryz.prog 17 #[gv (some ⟨b, off, none⟩) len cap (m : Int)] w fun e w' => ∃ (k : Int) (x y : ByteArray) (ad : Option Addr) (l c : Nat), e = .returned (.agg #[.int .i64 k, .string x, .string y, .slice ad l c]) ∧ Hid (TrP w.heap.size w' (len + 1) (.agg #[.int .i64 k, .string x, .string y, .slice ad l c]) (lyT ns (nmG ns m) (len + 1) m []).1) ∧ Hid (Below w.heap.size w w') := by
  obtain ⟨f1, f2, f3⟩ := rgG_facts hq
  have hsum := (hS (by rw [← hN.1]; omega)).2
  obtain ⟨b', off', e0, HCN⟩ := cn_of hN (by omega) hsum
  obtain ⟨rfl, rfl⟩ : b = b' ∧ off = off' := by simpa using e0
  have f3' : ∀ n ∈ ns, ∀ a ∈ n.kids, isP len a = true := by rw [hN.1]; exact f3
  have hO : (odG ns m).length ≤ 1000000000 := by
    have h1 := len_le (odG_nd ns m) (odG_lt f3 (by rw [← hN.1]; exact hm))
    have := hN.1
    omega
  have HA : Hid (∀ W KN, Below w.heap.size w W → Bx W KN #[.int .i64 0] 79 → w.heap.size ≤ KN → Calls Tryz.prog 28 #[gv (some ⟨b, off, none⟩) len cap (m : Int), .func (.func 29) #[.pointer (some ⟨KN, 0, none⟩)] #[]] W fun e W' => ∃ CA, e = .returned (.slice (some ⟨CA, 0, none⟩) len len) ∧ Hid (AnR w W W' KN CA len (nmG ns m))) := fun W KN h1 h2 h3 =>
    (anchors_core hq hlen hN hS hT h1 h2 h3 hm).mono (fun e W' q => by
      obtain ⟨CA, v, rfl, q⟩ := q
      exact ⟨CA, rfl, ⟨q.a, q.ex, q.bl, q.h2⟩⟩)
  have HTr : Hid (∀ K CA CC W, LyS w W K CA CC (.slice (some ⟨b, off, none⟩) len cap) len (nmG ns m) [] → Calls Tryz.prog 30 #[.pointer (some ⟨K, 0, none⟩), .int .i64 (m : Int)] W (LRes w W K CA CC (.slice (some ⟨b, off, none⟩) len cap) len (nmG ns m) (len + 1) (lyT ns (nmG ns m) (len + 1) m []))) := fun K CA CC W h =>
    ltree_any K CA CC hlen (fun a => nmG_len ns m a hO) HCN f3' hN.1 (len + 1) m [] W ⟨List.nodup_nil, fun b hb => by cases hb⟩ hm (by simp) h
  have hmk := fun w' : World => run_make_row' (P := Tryz.prog) 54 4 (.bool false) 1 underBoolD infoBoolD rfl .i64 .i64 len (by omega) (by omega) w'
  generalize lyT ns (nmG ns m) (len + 1) m [] = R at *
  generalize nmG ns m = nm at *
  have b1 := below_alloc w (.cells #[.slice (some ⟨b, off, none⟩) len cap, .int .i64 (m : Int)] 24)
  have s1 : (w.alloc (.cells #[.slice (some ⟨b, off, none⟩) len cap, .int .i64 (m : Int)] 24)).heap.size = w.heap.size + 1 := World.size_alloc _ _
  clear hq hN hS hT f1 f2 f3 f3' hsum HCN hO e0
  go_enter Tryz.func17, Tryz.ntmps17
  go_upto_region 1 with fail
  have b2 := below_alloc (w.alloc (.cells #[.slice (some ⟨b, off, none⟩) len cap, .int .i64 (m : Int)] 24)) (.cells zT 29)
  have B0 : Hid (Below w.heap.size w ((w.alloc (.cells #[.slice (some ⟨b, off, none⟩) len cap, .int .i64 (m : Int)] 24)).alloc (.cells #[.int .i64 0, .string ⟨#[]⟩, .string ⟨#[]⟩, .slice none 0 0] 29))) := b1.trans (b2.mono b1.size)
  have N0 : Hid (Bx ((w.alloc (.cells #[.slice (some ⟨b, off, none⟩) len cap, .int .i64 (m : Int)] 24)).alloc (.cells #[.int .i64 0, .string ⟨#[]⟩, .string ⟨#[]⟩, .slice none 0 0] 29)) w.heap.size #[.slice (some ⟨b, off, none⟩) len cap, .int .i64 (m : Int)] 24) := (Bx.new w _ _).later b2
  have R0 : Hid (Bx ((w.alloc (.cells #[.slice (some ⟨b, off, none⟩) len cap, .int .i64 (m : Int)] 24)).alloc (.cells #[.int .i64 0, .string ⟨#[]⟩, .string ⟨#[]⟩, .slice none 0 0] 29)) (w.heap.size + 1) zT 29) := by
    have := Bx.new (w.alloc (.cells #[.slice (some ⟨b, off, none⟩) len cap, .int .i64 (m : Int)] 24)) zT 29
    rw [s1] at this
    exact this
  have s2 : ((w.alloc (.cells #[.slice (some ⟨b, off, none⟩) len cap, .int .i64 (m : Int)] 24)).alloc (.cells #[.int .i64 0, .string ⟨#[]⟩, .string ⟨#[]⟩, .slice none 0 0] 29)).heap.size = w.heap.size + 1 + 1 := by rw [World.size_alloc, s1]
  generalize (w.alloc (.cells #[.slice (some ⟨b, off, none⟩) len cap, .int .i64 (m : Int)] 24)).alloc (.cells #[.int .i64 0, .string ⟨#[]⟩, .string ⟨#[]⟩, .slice none 0 0] 29) = W0 at B0 N0 R0 s2 ⊢
  clear b1 b2 s1
  have hKR : w.heap.size < w.heap.size + 1 := Nat.lt_succ_self _
  generalize hKRe : w.heap.size + 1 = KR at R0 s2 hKR ⊢
  obtain ⟨K0, hK0⟩ : ∃ K0, K0 = w.heap.size := ⟨_, rfl⟩
  rw [← hK0] at N0
  have hK0b : w.heap.size ≤ K0 ∧ K0 < KR ∧ KR < W0.heap.size := by omega
  rw [← hK0]
  clear hKRe
  obtain ⟨c0, c1⟩ := N0.out.c2
  obtain ⟨hk1, hk2, hk3⟩ := hK0b
  have hk4 : K0 < W0.heap.size := by omega
  have HK0 : Hid (K0 = w.heap.size) := hK0
  clear hK0 hKR s2
  have hmix : Tryz.prog.follows .mixedOrders = true := by kernel_rfl
  have hw0 : w.heap.size ≤ W0.heap.size := B0.out.size
  have jb0 : Hid (LdB w W0 W0.drew K0 KR (.slice (some ⟨b, off, none⟩) len cap) (.int .i64 (m : Int))) := ⟨N0.out, R0.out, B0.out.drew, Nat.le_refl _, hk4, hk3⟩
  clear B0 N0 R0 c0 c1
  refine wp_region_E hmix (N := 13) (dp := laidDp) (by kernel_rfl) (E := LdE) (fun (e : LdE) (s : List Bool) => Hid (LdB w W0 e.W K0 KR (.slice (some ⟨b, off, none⟩) len cap) (.int .i64 (m : Int))) ∧ (s.getD 3 false = true → Hid (W0.heap.size ≤ e.KN ∧ e.KN < e.W.heap.size ∧ (s.getD 5 false = false → Bx e.W e.KN #[.int .i64 0] 79))) ∧ (s.getD 5 false = true → Hid (W0.heap.size ≤ e.CA ∧ Bx e.W e.CA (sA nm len) 9)) ∧ (s.getD 9 false = true → Hid (W0.heap.size ≤ e.CC ∧ Bx e.W e.CC (bM [] len) 4)) ∧ Hid ((s.getD 3 false = true → s.getD 9 false = true → e.KN ≠ e.CC) ∧ (s.getD 5 false = true → s.getD 9 false = true → e.CA ≠ e.CC)) ∧ (s.getD 11 false = true → Hid (LyS w e.W e.K e.CA e.CC (.slice (some ⟨b, off, none⟩) len cap) len nm [])) ∧ clo laidDp s) (fun (e : LdE) (s : List Bool) => { tmps := #[gv (some ⟨b, off, none⟩) len cap (m : Int), .pointer (some ⟨K0, 0, none⟩), .pointer (some ⟨KR, 0, none⟩), slu (s.getD 12 false) (.pointer (some ⟨e.K, 0, none⟩)) undef, slu (s.getD 0 false) (.pointer (some ⟨K0, 0, none⟩)) undef, slu (s.getD 1 false) (.slice (some ⟨b, off, none⟩) len cap) undef, slu (s.getD 2 false) (.agg #[.slice (some ⟨b, off, none⟩) len cap, .int .i64 (m : Int)]) undef, slu (s.getD 3 false) (.pointer (some ⟨e.KN, 0, none⟩)) undef, slu (s.getD 4 false) (.func (.func 29) #[.pointer (some ⟨e.KN, 0, none⟩)] #[]) undef, slu (s.getD 5 false) (.slice (some ⟨e.CA, 0, none⟩) len len) undef, slu (s.getD 6 false) (.pointer (some ⟨K0, 0, none⟩)) undef, slu (s.getD 7 false) (.slice (some ⟨b, off, none⟩) len cap) undef, slu (s.getD 8 false) (.int .i64 (len : Int)) undef, slu (s.getD 9 false) (.slice (some ⟨e.CC, 0, none⟩) len len) undef, slu (s.getD 10 false) (.agg #[.slice (some ⟨b, off, none⟩) len cap, .slice (some ⟨e.CA, 0, none⟩) len len, .slice (some ⟨e.CC, 0, none⟩) len len]) undef, slu (s.getD 11 false) (.pointer (some ⟨e.K, 0, none⟩)) undef, undef, undef, undef, undef], defers := [] }) (fun (e : LdE) (s : List Bool) => e.W) ?hS ?hF ⟨0, 0, 0, 0, W0.drew⟩ ⟨jb0, fun h => absurd h (by decide), fun h => absurd h (by decide), fun h => absurd h (by decide), ⟨fun h => absurd h (by decide), fun h => absurd h (by decide)⟩, fun h => absurd h (by decide), clo_nil _ _⟩ rfl rfl
  case hS =>
    rintro e s hJ hl i hi' hbi hd Kk hK
    have hcl := clo_set hJ.2.2.2.2.2.2 (i := i) (by rw [hl]; exact hi') hd
    match s, hl with
    | [b0, b1, b2, b3, b4, b5, b6, b7, b8, b9, b10, b11, b12], _ =>
      obtain ⟨JB, J3, J5, J9, JN, JL, JC⟩ := hJ
      simp only [List.getD_cons_zero, List.getD_cons_succ] at J3 J5 J9 JN JL ⊢
      have hi2 : i = 0 ∨ i = 1 ∨ i = 2 ∨ i = 3 ∨ i = 4 ∨ i = 5 ∨ i = 6 ∨ i = 7 ∨ i = 8 ∨ i = 9 ∨ i = 10 ∨ i = 11 ∨ i = 12 := by omega
      rcases hi2 with rfl | rfl | rfl | rfl | rfl | rfl | rfl | rfl | rfl | rfl | rfl | rfl | rfl
      · have g0 : b0 = false := hbi
        subst g0
        obtain ⟨y0, y1⟩ := JB.out.g.c2
        have hK2 := hK e ⟨JB, J3, J5, J9, JN, JL, hcl⟩
        clear hK hd hbi hcl JB J3 J5 J9 JN JL JC
        simp only [List.set_cons_zero, List.set_cons_succ, List.getD_cons_zero, List.getD_cons_succ, slu_t, slu_f] at hK2 ⊢
        refine wpOp_if rfl ?_
        go_simp
        exact hK2
      · have g1 : b1 = false := hbi
        have e0 : b0 = true := hd 0 (by simp [laidDp])
        subst g1 e0
        obtain ⟨y0, y1⟩ := JB.out.g.c2
        have hK2 := hK e ⟨JB, J3, J5, J9, JN, JL, hcl⟩
        clear hK hd hbi hcl JB J3 J5 J9 JN JL JC
        simp only [List.set_cons_zero, List.set_cons_succ, List.getD_cons_zero, List.getD_cons_succ, slu_t, slu_f] at hK2 ⊢
        refine wpOp_if rfl ?_
        go_simp
        exact hK2
      · have g2 : b2 = false := hbi
        subst g2
        obtain ⟨y0, y1⟩ := JB.out.g.c2
        have hK2 := hK e ⟨JB, J3, J5, J9, JN, JL, hcl⟩
        clear hK hd hbi hcl JB J3 J5 J9 JN JL JC
        simp only [List.set_cons_zero, List.set_cons_succ, List.getD_cons_zero, List.getD_cons_succ, slu_t, slu_f] at hK2 ⊢
        refine wpOp_if rfl ?_
        go_simp
        exact hK2
      · have g3 : b3 = false := hbi
        have f4 : b4 = false := by cases hb : b4 with | false => rfl | true => exact absurd (show b3 = true from (JC 4 3 (by simp [laidDp]) hb)) (by rw [g3]; simp)
        have f5 : b5 = false := by cases hb : b5 with | false => rfl | true => exact absurd (show b3 = true from (JC 4 3 (by simp [laidDp]) (JC 5 4 (by simp [laidDp]) hb))) (by rw [g3]; simp)
        have f10 : b10 = false := by cases hb : b10 with | false => rfl | true => exact absurd (show b3 = true from (JC 4 3 (by simp [laidDp]) (JC 5 4 (by simp [laidDp]) (JC 10 5 (by simp [laidDp]) hb)))) (by rw [g3]; simp)
        have f11 : b11 = false := by cases hb : b11 with | false => rfl | true => exact absurd (show b3 = true from (JC 4 3 (by simp [laidDp]) (JC 5 4 (by simp [laidDp]) (JC 10 5 (by simp [laidDp]) (JC 11 10 (by simp [laidDp]) hb))))) (by rw [g3]; simp)
        have f12 : b12 = false := by cases hb : b12 with | false => rfl | true => exact absurd (show b3 = true from (JC 4 3 (by simp [laidDp]) (JC 5 4 (by simp [laidDp]) (JC 10 5 (by simp [laidDp]) (JC 11 10 (by simp [laidDp]) (JC 12 11 (by simp [laidDp]) hb)))))) (by rw [g3]; simp)
        subst g3 f4 f5 f10 f11 f12
        have bA := below_alloc e.W (.cells #[.int .i64 0] 79)
        have hs := World.size_alloc e.W (.cells #[.int .i64 0] 79)
        have hK2 := hK ⟨e.W.heap.size, e.CA, e.CC, e.K, e.W.alloc (.cells #[.int .i64 0] 79)⟩ ⟨JB.out.later bA, fun _ => ⟨JB.out.sz, by show e.W.heap.size < _; rw [hs]; omega, fun _ => Bx.new _ _ _⟩, fun h => absurd h (by simp), fun h => ⟨(J9 h).out.1, (J9 h).out.2.later bA⟩, ⟨fun _ h => Nat.ne_of_gt (J9 h).out.2.lt, fun h => absurd h (by simp)⟩, fun h => absurd h (by simp), hcl⟩
        clear hK hd hbi hcl JB J3 J5 J9 JN JL JC bA hs
        simp only [List.set_cons_zero, List.set_cons_succ, List.getD_cons_zero, List.getD_cons_succ, slu_t, slu_f] at hK2 ⊢
        refine wpOp_if rfl ?_
        go_simp
        exact hK2
      · have g4 : b4 = false := hbi
        have e3 : b3 = true := hd 3 (by simp [laidDp])
        subst g4 e3
        obtain ⟨y0, y1⟩ := JB.out.g.c2
        have hK2 := hK e ⟨JB, J3, J5, J9, JN, JL, hcl⟩
        clear hK hd hbi hcl JB J3 J5 J9 JN JL JC
        simp only [List.set_cons_zero, List.set_cons_succ, List.getD_cons_zero, List.getD_cons_succ, slu_t, slu_f] at hK2 ⊢
        refine wpOp_if rfl ?_
        go_simp
        exact hK2
      · have g5 : b5 = false := hbi
        have e2 : b2 = true := hd 2 (by simp [laidDp])
        have e4 : b4 = true := hd 4 (by simp [laidDp])
        have f10 : b10 = false := by cases hb : b10 with | false => rfl | true => exact absurd (show b5 = true from (JC 10 5 (by simp [laidDp]) hb)) (by rw [g5]; simp)
        have f11 : b11 = false := by cases hb : b11 with | false => rfl | true => exact absurd (show b5 = true from (JC 10 5 (by simp [laidDp]) (JC 11 10 (by simp [laidDp]) hb))) (by rw [g5]; simp)
        have f12 : b12 = false := by cases hb : b12 with | false => rfl | true => exact absurd (show b5 = true from (JC 10 5 (by simp [laidDp]) (JC 11 10 (by simp [laidDp]) (JC 12 11 (by simp [laidDp]) hb)))) (by rw [g5]; simp)
        have e3 : b3 = true := (JC 4 3 (by simp [laidDp]) e4)
        subst g5 e2 e4 f10 f11 f12 e3
        obtain ⟨k1, k2, k3⟩ := (J3 rfl).out
        have hc := HA.out e.W e.KN JB.out.bl (k3 rfl) (Nat.le_trans hw0 k1)
        refine wpOp_call rfl rfl _ _ _ rfl #[.agg #[.slice (some ⟨b, off, none⟩) len cap, .int .i64 (m : Int)], .func (.func 29) #[.pointer (some ⟨e.KN, 0, none⟩)] #[]] (enters_of Tryz.func28 (by kernel_rfl) rfl _ _) (by simp [Act.eval, slu_t]) hc (fun ee w' hR => ?_)
        obtain ⟨CA, rfl, HR⟩ := hR
        have hx := HR.out.ex
        exact ⟨_, rfl, hK ⟨e.KN, CA, e.CC, e.K, w'⟩ ⟨JB.out.ex hx HR.out.bl (by omega), fun _ => ⟨k1, Nat.lt_of_lt_of_le k2 hx.size, fun h => absurd h (by simp)⟩, fun _ => ⟨by have := HR.out.h2; have := JB.out.sz; show _ ≤ CA; omega, HR.out.a⟩, fun h => ⟨(J9 h).out.1, hx.bx (J9 h).out.2 (Ne.symm (JN.out.1 rfl h))⟩, ⟨JN.out.1, fun _ h => by have h1 := (J9 h).out.2.lt; have h2 := HR.out.h2; show CA ≠ e.CC; omega⟩, fun h => absurd h (by simp), hcl⟩⟩
      · have g6 : b6 = false := hbi
        subst g6
        obtain ⟨y0, y1⟩ := JB.out.g.c2
        have hK2 := hK e ⟨JB, J3, J5, J9, JN, JL, hcl⟩
        clear hK hd hbi hcl JB J3 J5 J9 JN JL JC
        simp only [List.set_cons_zero, List.set_cons_succ, List.getD_cons_zero, List.getD_cons_succ, slu_t, slu_f] at hK2 ⊢
        refine wpOp_if rfl ?_
        go_simp
        exact hK2
      · have g7 : b7 = false := hbi
        have e6 : b6 = true := hd 6 (by simp [laidDp])
        subst g7 e6
        obtain ⟨y0, y1⟩ := JB.out.g.c2
        have hK2 := hK e ⟨JB, J3, J5, J9, JN, JL, hcl⟩
        clear hK hd hbi hcl JB J3 J5 J9 JN JL JC
        simp only [List.set_cons_zero, List.set_cons_succ, List.getD_cons_zero, List.getD_cons_succ, slu_t, slu_f] at hK2 ⊢
        refine wpOp_if rfl ?_
        go_simp
        exact hK2
      · have g8 : b8 = false := hbi
        have e7 : b7 = true := hd 7 (by simp [laidDp])
        subst g8 e7
        obtain ⟨y0, y1⟩ := JB.out.g.c2
        have hK2 := hK e ⟨JB, J3, J5, J9, JN, JL, hcl⟩
        clear hK hd hbi hcl JB J3 J5 J9 JN JL JC
        simp only [List.set_cons_zero, List.set_cons_succ, List.getD_cons_zero, List.getD_cons_succ, slu_t, slu_f] at hK2 ⊢
        refine wpOp_if rfl ?_
        go_simp
        exact hK2
      · have g9 : b9 = false := hbi
        have e8 : b8 = true := hd 8 (by simp [laidDp])
        have f10 : b10 = false := by cases hb : b10 with | false => rfl | true => exact absurd (show b9 = true from (JC 10 9 (by simp [laidDp]) hb)) (by rw [g9]; simp)
        have f11 : b11 = false := by cases hb : b11 with | false => rfl | true => exact absurd (show b9 = true from (JC 10 9 (by simp [laidDp]) (JC 11 10 (by simp [laidDp]) hb))) (by rw [g9]; simp)
        have f12 : b12 = false := by cases hb : b12 with | false => rfl | true => exact absurd (show b9 = true from (JC 10 9 (by simp [laidDp]) (JC 11 10 (by simp [laidDp]) (JC 12 11 (by simp [laidDp]) hb)))) (by rw [g9]; simp)
        subst g9 e8 f10 f11 f12
        have bA := below_alloc e.W (.cells (madeCells #[.bool false] len) 4)
        have hs := World.size_alloc e.W (.cells (madeCells #[.bool false] len) 4)
        have nb : Bx (e.W.alloc (.cells (madeCells #[.bool false] len) 4)) e.W.heap.size (bM [] len) 4 := by have := Bx.new e.W (madeCells #[.bool false] len) 4; rw [bM_made] at this ⊢; exact this
        have hK2 := hK ⟨e.KN, e.CA, e.W.heap.size, e.K, e.W.alloc (.cells (madeCells #[.bool false] len) 4)⟩ ⟨JB.out.later bA, fun h => ⟨(J3 h).out.1, by have := (J3 h).out.2.1; show e.KN < _; rw [hs]; omega, fun h5 => ((J3 h).out.2.2 h5).later bA⟩, fun h => ⟨(J5 h).out.1, (J5 h).out.2.later bA⟩, fun _ => ⟨JB.out.sz, nb⟩, ⟨fun h _ => Nat.ne_of_lt (J3 h).out.2.1, fun h _ => Nat.ne_of_lt (J5 h).out.2.lt⟩, fun h => absurd h (by simp), hcl⟩
        clear hK hd hbi hcl JB J3 J5 J9 JN JL JC bA hs nb
        simp only [List.set_cons_zero, List.set_cons_succ, List.getD_cons_zero, List.getD_cons_succ, slu_t, slu_f] at hK2 ⊢
        refine wpOp_if rfl ?_
        go_simp
        exact hK2
      · have g10 : b10 = false := hbi
        have e1 : b1 = true := hd 1 (by simp [laidDp])
        have e5 : b5 = true := hd 5 (by simp [laidDp])
        have e9 : b9 = true := hd 9 (by simp [laidDp])
        subst g10 e1 e5 e9
        obtain ⟨y0, y1⟩ := JB.out.g.c2
        have hK2 := hK e ⟨JB, J3, J5, J9, JN, JL, hcl⟩
        clear hK hd hbi hcl JB J3 J5 J9 JN JL JC
        simp only [List.set_cons_zero, List.set_cons_succ, List.getD_cons_zero, List.getD_cons_succ, slu_t, slu_f] at hK2 ⊢
        refine wpOp_if rfl ?_
        go_simp
        exact hK2
      · have g11 : b11 = false := hbi
        have e10 : b10 = true := hd 10 (by simp [laidDp])
        have f12 : b12 = false := by cases hb : b12 with | false => rfl | true => exact absurd (show b11 = true from (JC 12 11 (by simp [laidDp]) hb)) (by rw [g11]; simp)
        have x3 : b3 = true := (JC 4 3 (by simp [laidDp]) (JC 5 4 (by simp [laidDp]) (JC 10 5 (by simp [laidDp]) e10)))
        have x5 : b5 = true := (JC 10 5 (by simp [laidDp]) e10)
        have x9 : b9 = true := (JC 10 9 (by simp [laidDp]) e10)
        subst g11 e10 f12 x3 x5 x9
        have bA := below_alloc e.W (.cells #[.slice (some ⟨b, off, none⟩) len cap, .slice (some ⟨e.CA, 0, none⟩) len len, .slice (some ⟨e.CC, 0, none⟩) len len] 81)
        have hs := World.size_alloc e.W (.cells #[.slice (some ⟨b, off, none⟩) len cap, .slice (some ⟨e.CA, 0, none⟩) len len, .slice (some ⟨e.CC, 0, none⟩) len len] 81)
        obtain ⟨k5, n5⟩ := (J5 rfl).out
        obtain ⟨k9, n9⟩ := (J9 rfl).out
        obtain ⟨k3, k4, _⟩ := (J3 rfl).out
        have n59 := JN.out.2 rfl rfl
        have hK2 := hK ⟨e.KN, e.CA, e.CC, e.W.heap.size, e.W.alloc (.cells #[.slice (some ⟨b, off, none⟩) len cap, .slice (some ⟨e.CA, 0, none⟩) len len, .slice (some ⟨e.CC, 0, none⟩) len len] 81)⟩ ⟨JB.out.later bA, fun _ => ⟨k3, by show e.KN < _; rw [hs]; omega, fun h => absurd h (by simp)⟩, fun _ => ⟨k5, n5.later bA⟩, fun _ => ⟨k9, n9.later bA⟩, JN, fun _ => ⟨Bx.new _ _ _, n5.later bA, n9.later bA, (JB.out.later bA).bl, Nat.le_trans hw0 JB.out.sz, Nat.le_trans hw0 k5, Nat.le_trans hw0 k9, by have := n9.lt; show e.W.heap.size ≠ e.CC; omega, n59⟩, hcl⟩
        clear hK hd hbi hcl JB J3 J5 J9 JN JL JC bA hs n5 n9
        simp only [List.set_cons_zero, List.set_cons_succ, List.getD_cons_zero, List.getD_cons_succ, slu_t, slu_f] at hK2 ⊢
        refine wpOp_if rfl ?_
        go_simp
        exact hK2
      · have g12 : b12 = false := hbi
        have e11 : b11 = true := hd 11 (by simp [laidDp])
        subst g12 e11
        obtain ⟨y0, y1⟩ := JB.out.g.c2
        have hK2 := hK e ⟨JB, J3, J5, J9, JN, JL, hcl⟩
        clear hK hd hbi hcl JB J3 J5 J9 JN JL JC
        simp only [List.set_cons_zero, List.set_cons_succ, List.getD_cons_zero, List.getD_cons_succ, slu_t, slu_f] at hK2 ⊢
        refine wpOp_if rfl ?_
        go_simp
        exact hK2
  case hF =>
    rintro e ⟨JB, J3, J5, J9, JN, JL, JC⟩
    have HL := JL rfl
    simp only [show List.replicate 13 true = [true, true, true, true, true, true, true, true, true, true, true, true, true] from rfl, List.getD_cons_zero, List.getD_cons_succ, slu_t]
    obtain ⟨KN, CA, CC, K, W⟩ := e
    have hKC : W0.heap.size ≤ CC := (J9 rfl).out.1
    clear J3 J5 J9 JN JL JC HA hmk
    change Hid (LdB w W0 W K0 KR (.slice (some ⟨b, off, none⟩) len cap) (.int .i64 (m : Int))) at JB
    change Hid (LyS w W K CA CC (.slice (some ⟨b, off, none⟩) len cap) len nm []) at HL
    have hC := HTr.out K CA CC W HL.out
    obtain ⟨c0, c1⟩ := JB.out.g.c2
    have hwW : W0.heap.size ≤ W.heap.size := JB.out.sz
    have hcc : W0.heap.size ≤ CC := hKC
    dsimp only
    clear HTr
    go_wp2_with (go_at_call 30; refine hC.mono ?_; rintro r w9 ⟨rk, rx, ry, rad, rl, rc, rfl, HT9, HL9, HX9⟩; have HR9 := HX9.out.bx JB.out.r (by omega); obtain ⟨r0, r1, r2, r3⟩ := (show Bx w9 KR #[.int .i64 0, .string ⟨#[]⟩, .string ⟨#[]⟩, .slice none 0 0] 29 from HR9).c4; have z0 := HR9.fz 0; have z1 := HR9.fz 1; have z2 := HR9.fz 2; have z3 := HR9.fz 3)
    have hKRW : KR < W.heap.size := by omega
    have hwKR : w.heap.size ≤ KR := by omega
    have HB9 : Hid (Below w.heap.size w ((((w9.setCell ⟨KR, 0, none⟩ (.int .i64 rk)).setCell ⟨KR, 1, none⟩ (.string rx)).setCell ⟨KR, 2, none⟩ (.string ry)).setCell ⟨KR, 3, none⟩ (.slice rad rl rc))) := (((HL9.out.bl.setCell (p := ⟨KR, 0, none⟩) hwKR _).setCell (p := ⟨KR, 1, none⟩) hwKR _).setCell (p := ⟨KR, 2, none⟩) hwKR _).setCell (p := ⟨KR, 3, none⟩) hwKR _
    have HT8 := (((HT9.out.set (i := 0) (u := .int .i64 rk) hKRW).set (i := 1) (u := .string rx) hKRW).set (i := 2) (u := .string ry) hKRW).set (i := 3) (u := .slice rad rl rc) hKRW
    have HN9 : Hid (Bx ((((w9.setCell ⟨KR, 0, none⟩ (.int .i64 rk)).setCell ⟨KR, 1, none⟩ (.string rx)).setCell ⟨KR, 2, none⟩ (.string ry)).setCell ⟨KR, 3, none⟩ (.slice rad rl rc)) KR #[.int .i64 rk, .string rx, .string ry, .slice rad rl rc] 29) := (((HR9.set 0 _).set 1 _).set 2 _).set 3 _
    obtain ⟨g0, g1, g2, g3⟩ := HN9.out.c4
    refine bodyPost_ret (v := .agg #[.int .i64 rk, .string rx, .string ry, .slice rad rl rc]) (by simp [results, Tryz.results17, go_sem, g0, g1, g2, g3]) rfl ?_
    exact ⟨rk, rx, ry, rad, rl, rc, rfl, HT8.mono (by omega), HB9⟩
end Go.Proofs.YtaphijgbebhdlaaGreatDoor.Grp
end

section
/- Package lay's Tree, by its contract. -/
namespace Go.Proofs.YtaphijgbebhdlaaGreatDoor.Grp
open Utf Rws Pln Flw
open Go.RowKit
set_option linter.unusedSimpArgs false
set_option linter.unusedVariables false
set_option maxRecDepth 100000
set_option maxHeartbeats 4000000

/-- how deep, how many; the error; the tree, or none -/
def dpL (ns : List Nd) (r : Nat) : Nat := (dg ns (ns.length + 1) r 0 ([], 0)).2
def szG (ns : List Nd) (r : Nat) : Nat := szL ns (odG ns r)
def lyE (g : Gr) : Int := if rgG g = false then 1 else if 64 < dpL g.nodes g.root.toNat then 10 else if 4096 < szG g.nodes g.root.toNat then 5 else 0
def lyG (g : Gr) : Tr := if lyE g = 0 then (lyT g.nodes (nmG g.nodes g.root.toNat) (g.nodes.length + 1) g.root.toNat []).1 else tr0
/-- a tree and an error -/
def LTRes (w : World) (n : Nat) (er : Int) (t : Tr) (e : Ending) (w' : World) : Prop := ∃ (k : Int) (x y : ByteArray) (ad : Option Addr) (l c : Nat), e = .returned (.tuple #[.agg #[.int .i64 k, .string x, .string y, .slice ad l c], .int .i64 er]) ∧ Hid (TrP w.heap.size w' n (.agg #[.int .i64 k, .string x, .string y, .slice ad l c]) t) ∧ Hid (Below w.heap.size w w')
theorem trp_none (c n : Nat) (w : World) : TrP c w (n + 1) (.agg #[.int .i64 0, .string ⟨#[]⟩, .string ⟨#[]⟩, .slice none 0 0]) tr0 :=
  ⟨none, 0, 0, rfl, rfl, Nat.le_refl _, Nat.zero_le _, ⟨(by decide : (-9223372036854775808 : Int) ≤ 0), (by decide : (0 : Int) ≤ 9223372036854775807), by simp [tr0], by simp [tr0]⟩, fun h => absurd h (by omega)⟩
theorem dpL_bd (ns : List Nd) (r : Nat) : dpL ns r ≤ ns.length + 1 := dg_bd _ _ _ _ (Nat.zero_le _) (by omega)
/-- the boxes of a graph and an answer -/
structure TlS (w W : World) (K0 KR : Nat) (g0 g1 : Value) : Prop where
  g : Bx W K0 #[g0, g1] 24
  r : Bx W KR zT 29
  bl : Below w.heap.size w W
theorem TlS.later {w W W' : World} {K0 KR : Nat} {g0 g1 : Value} (h : TlS w W K0 KR g0 g1) (hb : Below W.heap.size W W') : TlS w W' K0 KR g0 g1 := ⟨h.g.later hb, h.r.later hb, h.bl.trans (hb.mono h.bl.size)⟩
theorem TlS.new (w : World) (g0 g1 : Value) : TlS w ((w.alloc (.cells #[g0, g1] 24)).alloc (.cells #[.int .i64 0, .string ⟨#[]⟩, .string ⟨#[]⟩, .slice none 0 0] 29)) w.heap.size (w.heap.size + 1) g0 g1 := by
  have b1 := below_alloc w (.cells #[g0, g1] 24)
  have s1 : (w.alloc (.cells #[g0, g1] 24)).heap.size = w.heap.size + 1 := World.size_alloc _ _
  have b2 := below_alloc (w.alloc (.cells #[g0, g1] 24)) (.cells zT 29)
  have n2 := Bx.new (w.alloc (.cells #[g0, g1] 24)) zT 29
  rw [s1] at n2
  exact ⟨(Bx.new w _ _).later b2, n2, b1.trans (b2.mono b1.size)⟩
/-- a tree stored in the answer's box -/
theorem TlS.store {w W : World} {K0 KR n : Nat} {g0 g1 : Value} {rk : Int} {rx ry : ByteArray} {rad : Option Addr} {rl rc : Nat} {t : Tr} (h : TlS w W K0 KR g0 g1) (hk : w.heap.size ≤ KR) (hT : TrP (KR + 1) W n (.agg #[.int .i64 rk, .string rx, .string ry, .slice rad rl rc]) t) :
    Bx ((((W.setCell ⟨KR, 0, none⟩ (.int .i64 rk)).setCell ⟨KR, 1, none⟩ (.string rx)).setCell ⟨KR, 2, none⟩ (.string ry)).setCell ⟨KR, 3, none⟩ (.slice rad rl rc)) KR #[.int .i64 rk, .string rx, .string ry, .slice rad rl rc] 29 ∧
    TrP w.heap.size ((((W.setCell ⟨KR, 0, none⟩ (.int .i64 rk)).setCell ⟨KR, 1, none⟩ (.string rx)).setCell ⟨KR, 2, none⟩ (.string ry)).setCell ⟨KR, 3, none⟩ (.slice rad rl rc)) n (.agg #[.int .i64 rk, .string rx, .string ry, .slice rad rl rc]) t ∧
    Below w.heap.size w ((((W.setCell ⟨KR, 0, none⟩ (.int .i64 rk)).setCell ⟨KR, 1, none⟩ (.string rx)).setCell ⟨KR, 2, none⟩ (.string ry)).setCell ⟨KR, 3, none⟩ (.slice rad rl rc)) := by
  have hK : KR < KR + 1 := Nat.lt_succ_self _
  exact ⟨(((h.r.set 0 _).set 1 _).set 2 _).set 3 _, ((((hT.set hK).set hK).set hK).set hK).mono (by omega), (((h.bl.setCell (p := ⟨KR, 0, none⟩) hk _).setCell (p := ⟨KR, 1, none⟩) hk _).setCell (p := ⟨KR, 2, none⟩) hk _).setCell (p := ⟨KR, 3, none⟩) hk _⟩
theorem ttree_core {w : World} {ad : Option Addr} {len cap : Nat} {r : Int} {ns : List Nd} (hlen : len ≤ 9223372036854775807) (hN : NAt w ad len ns) (hS : Sml ns) (hT : Tb w) :
    Calls Tryz.prog 7 #[gv ad len cap r] w (LTRes w (len + 1) (lyE ⟨ns, r⟩) (lyG ⟨ns, r⟩)) := by
  have h0 := TlS.new w (.slice ad len cap) (.int .i64 r)
  have HSz0 : ∀ W, TlS w W w.heap.size (w.heap.size + 1) (.slice ad len cap) (.int .i64 r) → Calls Tryz.prog 9 #[gv ad len cap r] W (SzRes W (rgG ⟨ns, r⟩) (szL ns (odG ns r.toNat))) := fun W h => size_core hlen (hN.later h.bl (Nat.le_refl _)) hS (hT.later h.bl)
  obtain ⟨KR, hKR⟩ : ∃ KR, KR = w.heap.size + 1 := ⟨_, rfl⟩
  have hwK : w.heap.size ≤ KR := by omega
  rw [← hKR] at h0 HSz0
  have HKR : Hid (w.heap.size + 1 = KR) := hKR.symm
  obtain ⟨K0, hK0⟩ : ∃ K0, K0 = w.heap.size := ⟨_, rfl⟩
  have HK0 : Hid (w.heap.size = K0) := hK0.symm
  have hK0R : K0 < KR := by omega
  rw [← hK0] at h0 HSz0
  clear hK0 hKR
  cases hq : rgG ⟨ns, r⟩
  case false =>
    have HE : Hid (lyE ⟨ns, r⟩ = 1) := by show _ = _; unfold lyE; rw [if_pos hq]
    have HG : Hid (lyG ⟨ns, r⟩ = tr0) := by show _ = _; unfold lyG; rw [HE.out]; rfl
    rw [HE.out, HG.out]
    have HSz : Hid (∀ W, Hid (TlS w W K0 KR (.slice ad len cap) (.int .i64 r)) → Calls Tryz.prog 9 #[gv ad len cap r] W fun e W' => e = .returned (.tuple #[.int .i64 0, .int .i64 1]) ∧ Hid (TlS w W' K0 KR (.slice ad len cap) (.int .i64 r))) := fun W h => (HSz0 W h.out).mono (fun e W' q => by
      obtain ⟨q1, q2⟩ := q
      rw [hq, if_neg (by decide)] at q1
      exact ⟨q1, h.out.later q2⟩)
    clear HSz0 hN hS hT hq HE HG
    go_enter Tryz.func7, Tryz.ntmps7
    go_upto_region 1 with fail
    try rw [HKR.out]
    try rw [HK0.out]
    generalize (w.alloc (.cells #[.slice ad len cap, .int .i64 r] 24)).alloc (.cells #[.int .i64 0, .string ⟨#[]⟩, .string ⟨#[]⟩, .slice none 0 0] 29) = W0 at h0 ⊢
    have H0 : Hid (TlS w W0 K0 KR (.slice ad len cap) (.int .i64 r)) := h0
    clear h0
    obtain ⟨c0, c1⟩ := H0.out.g.c2
    go_upto_region 3 with (go_at_call 9; refine (HSz.out _ H0).mono ?_; rintro e w1 ⟨rfl, H1⟩)
    clear H0 c0 c1 HSz
    have HT1 : TrP (KR + 1) w1 (len + 1) (.agg #[.int .i64 0, .string ⟨#[]⟩, .string ⟨#[]⟩, .slice none 0 0]) tr0 := trp_none _ _ _
    obtain ⟨n9, t9, b9⟩ := H1.out.store hwK HT1
    have HN9 : Hid (Bx _ KR _ _) := n9
    have HT9 : Hid (TrP w.heap.size _ _ _ _) := t9
    have HB9 : Hid (Below w.heap.size w _) := b9
    clear n9 t9 b9 HT1
    obtain ⟨r0, r1, r2, r3⟩ := (show Bx w1 KR #[.int .i64 0, .string ⟨#[]⟩, .string ⟨#[]⟩, .slice none 0 0] 29 from H1.out.r).c4
    have z0 := H1.out.r.fz 0
    have z1 := H1.out.r.fz 1
    have z2 := H1.out.r.fz 2
    have z3 := H1.out.r.fz 3
    clear H1
    go_wp2_with fail
    generalize (((w1.setCell ⟨KR, 0, none⟩ (.int .i64 0)).setCell ⟨KR, 1, none⟩ (.string ⟨#[]⟩)).setCell ⟨KR, 2, none⟩ (.string ⟨#[]⟩)).setCell ⟨KR, 3, none⟩ (.slice none 0 0) = W9 at HN9 HT9 HB9 ⊢
    obtain ⟨g0, g1, g2, g3⟩ := HN9.out.c4
    refine bodyPost_ret (v := .tuple #[.agg #[.int .i64 0, .string ⟨#[]⟩, .string ⟨#[]⟩, .slice none 0 0], .int .i64 1]) (by simp [results, Tryz.results7, go_sem, g0, g1, g2, g3]) rfl ?_
    exact ⟨0, ⟨#[]⟩, ⟨#[]⟩, none, 0, 0, rfl, HT9, HB9⟩
  case true =>
  obtain ⟨f1, f2, f3⟩ := rgG_facts hq
  have HLn : Hid (len = ns.length) := hN.1
  have hl4 : len ≤ 4096 := by have := HLn.out; omega
  obtain ⟨m, hm0, hm⟩ := isP_nat f2
  subst hm0
  rw [Int.toNat_natCast] at HSz0
  have hml : m < len := by rw [HLn.out]; exact hm
  obtain ⟨b, off, rfl, HCN⟩ := cn_of hN (by omega) (hS (by have := HLn.out; omega)).2
  have HSz : Hid (∀ W, Hid (TlS w W K0 KR (.slice (some ⟨b, off, none⟩) len cap) (.int .i64 (m : Int))) → Calls Tryz.prog 9 #[gv (some ⟨b, off, none⟩) len cap (m : Int)] W fun e W' => e = .returned (.tuple #[.int .i64 ((szG ns m : Nat) : Int), .int .i64 0]) ∧ Hid (TlS w W' K0 KR (.slice (some ⟨b, off, none⟩) len cap) (.int .i64 (m : Int)))) := fun W h => (HSz0 W h.out).mono (fun e W' q => by
    obtain ⟨q1, q2⟩ := q
    rw [hq, if_pos rfl] at q1
    exact ⟨q1, h.out.later q2⟩)
  have HDp : Hid (∀ W, Hid (TlS w W K0 KR (.slice (some ⟨b, off, none⟩) len cap) (.int .i64 (m : Int))) → Calls Tryz.prog 16 #[gv (some ⟨b, off, none⟩) len cap (m : Int)] W fun e W' => e = .returned (.int .i64 ((dpL ns m : Nat) : Int)) ∧ Hid (TlS w W' K0 KR (.slice (some ⟨b, off, none⟩) len cap) (.int .i64 (m : Int)))) := fun W h => by
    obtain ⟨b', off', e0, HCW⟩ := cn_of (hN.later h.out.bl (Nat.le_refl _)) (by omega) (hS (by have := HLn.out; omega)).2
    obtain ⟨rfl, rfl⟩ : b = b' ∧ off = off' := by simpa using e0
    refine (deepest_core hl4 HCW (by rw [HLn.out]; exact f3) HLn.out hml).mono (fun e W' q => ⟨?_, h.out.later q.2.out⟩)
    rw [q.1, HLn.out]
    rfl
  have HLd : Hid (∀ W, Hid (TlS w W K0 KR (.slice (some ⟨b, off, none⟩) len cap) (.int .i64 (m : Int))) → Calls Tryz.prog 17 #[gv (some ⟨b, off, none⟩) len cap (m : Int)] W fun e W' => ∃ (k : Int) (x y : ByteArray) (ad : Option Addr) (l c : Nat), e = .returned (.agg #[.int .i64 k, .string x, .string y, .slice ad l c]) ∧ Hid (TrP (KR + 1) W' (len + 1) (.agg #[.int .i64 k, .string x, .string y, .slice ad l c]) (lyT ns (nmG ns m) (len + 1) m []).1) ∧ Hid (TlS w W' K0 KR (.slice (some ⟨b, off, none⟩) len cap) (.int .i64 (m : Int)))) := fun W h => (laid_core hq hl4 (hN.later h.out.bl (Nat.le_refl _)) hS (hT.later h.out.bl) hml).mono (fun e W' q => by
    obtain ⟨k, x, y, ad, l, c, q1, q2, q3⟩ := q
    exact ⟨k, x, y, ad, l, c, q1, q2.out.mono (by have := h.out.r.lt; omega), h.out.later q3.out⟩)
  have hDb : dpL ns m ≤ 5000 := by have := dpL_bd ns m; have := HLn.out; omega
  by_cases hd : 64 < dpL ns m
  · have HE : Hid (lyE ⟨ns, (m : Int)⟩ = 10) := by show _ = _; unfold lyE; rw [if_neg (by rw [hq]; decide), if_pos (by exact hd)]
    have HG : Hid (lyG ⟨ns, (m : Int)⟩ = tr0) := by show _ = _; unfold lyG; rw [HE.out]; rfl
    rw [HE.out, HG.out]
    generalize dpL ns m = D at *
    generalize szG ns m = Z at *
    have hd2 : (64 : Int) < (D : Int) := by omega
    clear HSz0 hN hS hT hq HE HG HLd HCN f1 f2 f3 hm
    go_enter Tryz.func7, Tryz.ntmps7
    go_upto_region 1 with fail
    try rw [HKR.out]
    try rw [HK0.out]
    generalize (w.alloc (.cells #[.slice (some ⟨b, off, none⟩) len cap, .int .i64 (m : Int)] 24)).alloc (.cells #[.int .i64 0, .string ⟨#[]⟩, .string ⟨#[]⟩, .slice none 0 0] 29) = W0 at h0 ⊢
    have H0 : Hid (TlS w W0 K0 KR (.slice (some ⟨b, off, none⟩) len cap) (.int .i64 (m : Int))) := h0
    clear h0
    obtain ⟨c0, c1⟩ := H0.out.g.c2
    go_upto_region 5 with (first | (go_at_call 9; refine (HSz.out _ H0).mono ?_; rintro e w1 ⟨rfl, H1⟩; obtain ⟨d0, d1⟩ := H1.out.g.c2) | (go_at_call 16; refine (HDp.out _ H1).mono ?_; rintro e w2 ⟨rfl, H2⟩))
    clear H0 c0 c1 HSz HDp H1 d0 d1
    have HT1 : TrP (KR + 1) w2 (len + 1) (.agg #[.int .i64 0, .string ⟨#[]⟩, .string ⟨#[]⟩, .slice none 0 0]) tr0 := trp_none _ _ _
    obtain ⟨n9, t9, b9⟩ := H2.out.store hwK HT1
    have HN9 : Hid (Bx _ KR _ _) := n9
    have HT9 : Hid (TrP w.heap.size _ _ _ _) := t9
    have HB9 : Hid (Below w.heap.size w _) := b9
    clear n9 t9 b9 HT1
    obtain ⟨r0, r1, r2, r3⟩ := (show Bx w2 KR #[.int .i64 0, .string ⟨#[]⟩, .string ⟨#[]⟩, .slice none 0 0] 29 from H2.out.r).c4
    have z0 := H2.out.r.fz 0
    have z1 := H2.out.r.fz 1
    have z2 := H2.out.r.fz 2
    have z3 := H2.out.r.fz 3
    clear H2
    go_wp2_with fail
    generalize (((w2.setCell ⟨KR, 0, none⟩ (.int .i64 0)).setCell ⟨KR, 1, none⟩ (.string ⟨#[]⟩)).setCell ⟨KR, 2, none⟩ (.string ⟨#[]⟩)).setCell ⟨KR, 3, none⟩ (.slice none 0 0) = W9 at HN9 HT9 HB9 ⊢
    obtain ⟨g0, g1, g2, g3⟩ := HN9.out.c4
    refine bodyPost_ret (v := .tuple #[.agg #[.int .i64 0, .string ⟨#[]⟩, .string ⟨#[]⟩, .slice none 0 0], .int .i64 10]) (by simp [results, Tryz.results7, go_sem, g0, g1, g2, g3]) rfl ?_
    exact ⟨0, ⟨#[]⟩, ⟨#[]⟩, none, 0, 0, rfl, HT9, HB9⟩
  by_cases hs : 4096 < szG ns m
  · have HE : Hid (lyE ⟨ns, (m : Int)⟩ = 5) := by show _ = _; unfold lyE; rw [if_neg (by rw [hq]; decide), if_neg (by exact hd), if_pos (by exact hs)]
    have HG : Hid (lyG ⟨ns, (m : Int)⟩ = tr0) := by show _ = _; unfold lyG; rw [HE.out]; rfl
    rw [HE.out, HG.out]
    generalize dpL ns m = D at *
    generalize szG ns m = Z at *
    have hd2 : ¬ (64 : Int) < (D : Int) := by omega
    have hs2 : (4096 : Int) < (Z : Int) := by omega
    clear HSz0 hN hS hT hq HE HG HLd HCN f1 f2 f3 hm
    go_enter Tryz.func7, Tryz.ntmps7
    go_upto_region 1 with fail
    try rw [HKR.out]
    try rw [HK0.out]
    generalize (w.alloc (.cells #[.slice (some ⟨b, off, none⟩) len cap, .int .i64 (m : Int)] 24)).alloc (.cells #[.int .i64 0, .string ⟨#[]⟩, .string ⟨#[]⟩, .slice none 0 0] 29) = W0 at h0 ⊢
    have H0 : Hid (TlS w W0 K0 KR (.slice (some ⟨b, off, none⟩) len cap) (.int .i64 (m : Int))) := h0
    clear h0
    obtain ⟨c0, c1⟩ := H0.out.g.c2
    go_upto_region 7 with (first | (go_at_call 9; refine (HSz.out _ H0).mono ?_; rintro e w1 ⟨rfl, H1⟩; obtain ⟨d0, d1⟩ := H1.out.g.c2) | (go_at_call 16; refine (HDp.out _ H1).mono ?_; rintro e w2 ⟨rfl, H2⟩))
    clear H0 c0 c1 HSz HDp H1 d0 d1
    have HT1 : TrP (KR + 1) w2 (len + 1) (.agg #[.int .i64 0, .string ⟨#[]⟩, .string ⟨#[]⟩, .slice none 0 0]) tr0 := trp_none _ _ _
    obtain ⟨n9, t9, b9⟩ := H2.out.store hwK HT1
    have HN9 : Hid (Bx _ KR _ _) := n9
    have HT9 : Hid (TrP w.heap.size _ _ _ _) := t9
    have HB9 : Hid (Below w.heap.size w _) := b9
    clear n9 t9 b9 HT1
    obtain ⟨r0, r1, r2, r3⟩ := (show Bx w2 KR #[.int .i64 0, .string ⟨#[]⟩, .string ⟨#[]⟩, .slice none 0 0] 29 from H2.out.r).c4
    have z0 := H2.out.r.fz 0
    have z1 := H2.out.r.fz 1
    have z2 := H2.out.r.fz 2
    have z3 := H2.out.r.fz 3
    clear H2
    go_wp2_with fail
    generalize (((w2.setCell ⟨KR, 0, none⟩ (.int .i64 0)).setCell ⟨KR, 1, none⟩ (.string ⟨#[]⟩)).setCell ⟨KR, 2, none⟩ (.string ⟨#[]⟩)).setCell ⟨KR, 3, none⟩ (.slice none 0 0) = W9 at HN9 HT9 HB9 ⊢
    obtain ⟨g0, g1, g2, g3⟩ := HN9.out.c4
    refine bodyPost_ret (v := .tuple #[.agg #[.int .i64 0, .string ⟨#[]⟩, .string ⟨#[]⟩, .slice none 0 0], .int .i64 5]) (by simp [results, Tryz.results7, go_sem, g0, g1, g2, g3]) rfl ?_
    exact ⟨0, ⟨#[]⟩, ⟨#[]⟩, none, 0, 0, rfl, HT9, HB9⟩
  · have HE : Hid (lyE ⟨ns, (m : Int)⟩ = 0) := by show _ = _; unfold lyE; rw [if_neg (by rw [hq]; decide), if_neg (by exact hd), if_neg (by exact hs)]
    have HG : Hid (lyG ⟨ns, (m : Int)⟩ = (lyT ns (nmG ns m) (len + 1) m []).1) := by show _ = _; unfold lyG; rw [HE.out, if_pos rfl, HLn.out]; rfl
    rw [HE.out, HG.out]
    generalize (lyT ns (nmG ns m) (len + 1) m []).1 = T at *
    generalize dpL ns m = D at *
    generalize szG ns m = Z at *
    have hd2 : ¬ (64 : Int) < (D : Int) := by omega
    have hs2 : ¬ (4096 : Int) < (Z : Int) := by omega
    clear HSz0 hN hS hT hq HE HG HCN f1 f2 f3 hm
    go_enter Tryz.func7, Tryz.ntmps7
    go_upto_region 1 with fail
    try rw [HKR.out]
    try rw [HK0.out]
    generalize (w.alloc (.cells #[.slice (some ⟨b, off, none⟩) len cap, .int .i64 (m : Int)] 24)).alloc (.cells #[.int .i64 0, .string ⟨#[]⟩, .string ⟨#[]⟩, .slice none 0 0] 29) = W0 at h0 ⊢
    have H0 : Hid (TlS w W0 K0 KR (.slice (some ⟨b, off, none⟩) len cap) (.int .i64 (m : Int))) := h0
    clear h0
    obtain ⟨c0, c1⟩ := H0.out.g.c2
    go_upto_region 8 with (first | (go_at_call 9; refine (HSz.out _ H0).mono ?_; rintro e w1 ⟨rfl, H1⟩; obtain ⟨d0, d1⟩ := H1.out.g.c2) | (go_at_call 16; refine (HDp.out _ H1).mono ?_; rintro e w2 ⟨rfl, H2⟩; obtain ⟨e0, e1⟩ := H2.out.g.c2))
    clear H0 c0 c1 HSz HDp H1 d0 d1
    go_wp2_with (go_at_call 17; refine (HLd.out _ H2).mono ?_; rintro r w3 ⟨rk, rx, ry, rad, rl, rc, rfl, HT3, H3⟩; obtain ⟨n9, t9, b9⟩ := H3.out.store hwK HT3.out; have HN9 : Hid (Bx _ KR _ _) := n9; have HT9 : Hid (TrP w.heap.size _ _ _ _) := t9; have HB9 : Hid (Below w.heap.size w _) := b9; clear n9 t9 b9; obtain ⟨r0, r1, r2, r3⟩ := (show Bx w3 KR #[.int .i64 0, .string ⟨#[]⟩, .string ⟨#[]⟩, .slice none 0 0] 29 from H3.out.r).c4; have z0 := H3.out.r.fz 0; have z1 := H3.out.r.fz 1; have z2 := H3.out.r.fz 2; have z3 := H3.out.r.fz 3)
    generalize (((w3.setCell ⟨KR, 0, none⟩ (.int .i64 rk)).setCell ⟨KR, 1, none⟩ (.string rx)).setCell ⟨KR, 2, none⟩ (.string ry)).setCell ⟨KR, 3, none⟩ (.slice rad rl rc) = W9 at HN9 HT9 HB9 ⊢
    obtain ⟨g0, g1, g2, g3⟩ := HN9.out.c4
    refine bodyPost_ret (v := .tuple #[.agg #[.int .i64 rk, .string rx, .string ry, .slice rad rl rc], .int .i64 0]) (by simp [results, Tryz.results7, go_sem, g0, g1, g2, g3]) rfl ?_
    exact ⟨rk, rx, ry, rad, rl, rc, rfl, HT9, HB9⟩
theorem ttree_any {w : World} {v : Value} {g : Gr} (h : GrV w v g) (hS : Sml g.nodes) (hT : Tb w) : Calls Tryz.prog 7 #[v] w (LTRes w (g.nodes.length + 1) (lyE g) (lyG g)) := by
  obtain ⟨ad, len, cap, rfl, h1, h2, h3, h4⟩ := h
  have : maxLen = 9223372036854775807 := rfl
  rw [← h4.1]
  exact ttree_core (by omega) h4 hS hT
end Go.Proofs.YtaphijgbebhdlaaGreatDoor.Grp
end

section
/- The tree of a graph that may be: it may be, and is composed to the Canon. -/
namespace Go.Proofs.YtaphijgbebhdlaaGreatDoor.Grp
open Utf Rws Pln Flw
set_option linter.unusedSimpArgs false
set_option linter.unusedVariables false

theorem ral_one {k : Int} {x : Ln} (h : rAl k x = true) : ral k x [] 0 = true := by
  unfold rAl rgh at h
  rw [alw] at h
  by_cases c : 0 + 1 > 4096 ∨ (if isLst ⟨k, x, [], []⟩ = true then 0 + 1 else 0) > 64 ∨ ral k x [] ([] : List Tr).length = false
  · simp only at h
    rw [if_pos c] at h
    cases h
  · have : ¬ ral k x [] 0 = false := fun e => c (.inr (.inr e))
    cases e : ral k x [] 0 with
    | true => rfl
    | false => exact absurd e this
theorem ral_of {ns : List Nd} {k : Int} {x : Ln} {l : List Int} (h : rAl k x = true) (h2 : rKd ns k l = true) : k ≠ 7 ∧ ral k x [] l.length = true := by
  have h1 := ral_one h
  unfold ral at h1 ⊢
  rw [Bool.and_eq_true, Bool.and_eq_true] at h1
  have h7 : k ≠ 7 := by
    have := h1.1.2
    unfold ran at this
    rw [if_pos rfl] at this
    exact of_decide_eq_true this
  refine ⟨h7, ?_⟩
  rw [h1.1.1, h1.1.2]
  unfold rKd at h2
  rw [Bool.and_eq_true, Bool.and_eq_true] at h2
  have h3 := h1.1.1
  unfold rct
  by_cases k5 : k = 5
  · rw [if_pos k5]; rfl
  · rw [if_neg k5]
    by_cases k6 : k = 6
    · rw [if_pos k6]
      have := h2.1.2
      rw [decide_eq_true k6] at this
      simp at this
      simp [this]
    · rw [if_neg k6]
      have hs : sca k = true := by
        unfold rtx at h3
        unfold sca
        by_cases c1 : k = 1
        · subst c1; rfl
        · by_cases c2 : k = 2
          · subst c2; rfl
          · by_cases c3 : k = 3
            · subst c3; rfl
            · by_cases c4 : k = 4
              · subst c4; rfl
              · rw [if_neg (by omega), if_neg (by omega), if_neg c4] at h3
                cases h3
      have := h2.1.1
      rw [hs] at this
      simp at this
      simp [this]
end Go.Proofs.YtaphijgbebhdlaaGreatDoor.Grp
end
