/- Several texts as one: GraphTop2I, GraphFacts, GraphFacts2, GraphAgS, LayPlain, LayRgt, LayAnc, LayNam, LayDep. -/
import Derived.Test.YtaphijgbebhdlaaGreatDoorV15GraphCanZ
import Derived.Test.YtaphijgbebhdlaaGreatDoorV09FlowAllow
import Derived.Test.YtaphijgbebhdlaaGreatDoorV10GraphPlain
section
/- Package graph's Order and Depth, by their contracts. -/
namespace Go.Proofs.YtaphijgbebhdlaaGreatDoor.Grp
open Utf Rws Pln Flw
open Go.RowKit
set_option linter.unusedSimpArgs false
set_option linter.unusedVariables false
set_option maxRecDepth 100000
set_option maxHeartbeats 4000000

/-- what Order answers -/
def ORes (w : World) (q : Bool) (O : List Nat) (e : Ending) (w' : World) : Prop := (if q = true then ∃ ad cap, e = .returned (.tuple #[.slice ad O.length cap, .int .i64 0]) ∧ IAt w' ad O.length (O.map fun a : Nat => (a : Int)) ∧ O.length ≤ 5000 else e = .returned (.tuple #[.slice none 0 0, .int .i64 1])) ∧ Below w.heap.size w w'
theorem WkS.ord {w0 W : World} {K C : Nat} {nsl : Value} {len : Nat} {out : List Nat} {m : Nat} (h : WkS w0 W K C nsl len out m) (hl : ∀ a ∈ out, a < len) (hn : len ≤ 4096) : ∃ ad cap, W.cell? ⟨K, 1, none⟩ = some (.slice ad out.length cap) ∧ IAt W ad out.length (out.map fun a : Nat => (a : Int)) := by
  obtain ⟨ov, hb, ho⟩ := h.s
  obtain ⟨ad, cap, rfl⟩ := own_shape ho
  rw [map_nat] at ho
  exact ⟨ad, cap, hb.cell 1, (iat_own ho (fun a ha => by obtain ⟨x, hx, rfl⟩ := List.mem_map.1 ha; have := hl x hx; constructor <;> omega)).1.1⟩
theorem order_core {w : World} {ad : Option Addr} {len cap : Nat} {r : Int} {ns : List Nd} (hlen : len ≤ 9223372036854775807) (hN : NAt w ad len ns) (hS : Sml ns) (hT : Tb w) :
    Calls Tryz.prog 20 #[gv ad len cap r] w (ORes w (rgG ⟨ns, r⟩) (odG ns r.toNat)) := by
  have HLn : Hid (len = ns.length) := hN.1
  have h0 : RS w (w.alloc (.cells #[.slice ad len cap, .int .i64 r] 24)) w.heap.size (.slice ad len cap) (.int .i64 r) := ⟨Bx.new _ _ _, below_alloc _ _⟩
  have HR : Hid (∀ w', Hid (RS w w' w.heap.size (.slice ad len cap) (.int .i64 r)) → Calls Tryz.prog 32 #[gv ad len cap r] w' fun e w'' => e = .returned (.bool (rgG ⟨ns, r⟩)) ∧ Hid (RS w w'' w.heap.size (.slice ad len cap) (.int .i64 r))) :=
    fun w' h => (right_core hlen (hN.later h.out.bl (Nat.le_refl _)) hS (hT.later h.out.bl)).mono (fun e w'' q => ⟨q.1, h.out.later q.2⟩)
  cases hq : rgG ⟨ns, r⟩
  · rw [hq] at HR
    go_enter Tryz.func20, Tryz.ntmps20
    go_wp2_with fail
    generalize w.alloc (.cells #[.slice ad len cap, .int .i64 r] 24) = W0 at h0 ⊢
    refine (HR.out _ h0).mono ?_
    rintro e w1 ⟨rfl, H1⟩
    clear HR hS hT hN h0
    go_wp2
    go_ret2
    exact ⟨by rw [if_neg (by decide)]; rfl, H1.out.bl⟩
  · obtain ⟨f1, f2, f3⟩ := rgG_facts hq
    have f4 := f3
    rw [← HLn.out] at f1 f2 f3
    obtain ⟨m, rfl, hm⟩ := isP_nat f2
    have hsum := (hS (by have := HLn.out; omega)).2
    rw [Int.toNat_natCast]
    rw [hq] at HR
    have HW : Hid (∀ w', Hid (RS w w' w.heap.size (.slice ad len cap) (.int .i64 (m : Int))) → Calls Tryz.prog 33 #[gv ad len cap (m : Int)] w' fun e w'' => ∃ K C oa oc, e = .returned (.pointer (some ⟨K, 0, none⟩)) ∧ w''.cell? ⟨K, 1, none⟩ = some (.slice oa (odG ns m).length oc) ∧ Hid (IAt w'' oa (odG ns m).length ((odG ns m).map fun a : Nat => (a : Int)) ∧ (odG ns m).length ≤ 5000 ∧ Below w.heap.size w w'')) :=
      fun w' h => walk_graph f1 (hN.later h.out.bl (Nat.le_refl _)) hm f3 hsum (fun K C w'' hw => by
        obtain ⟨oa, oc, e1, e2⟩ := hw.ord (fun a ha => by rw [HLn.out]; exact odG_lt f4 (by rw [← HLn.out]; exact hm) a ha) f1
        have h5 := hw.h5
        exact ⟨K, C, oa, oc, rfl, e1, e2, by omega, h.out.bl.trans (hw.bl.mono h.out.bl.size)⟩)
    clear hS hT f1 f2 f3 hsum hN f4
    go_enter Tryz.func20, Tryz.ntmps20
    go_wp2_with fail
    generalize w.alloc (.cells #[.slice ad len cap, .int .i64 (m : Int)] 24) = W0 at h0 ⊢
    refine (HR.out _ h0).mono ?_
    rintro e w1 ⟨rfl, H1⟩
    obtain ⟨c0, c1⟩ := H1.out.g.c2
    go_wp2_with (go_at_call 33; refine (HW.out _ H1).mono ?_; rintro e w2 ⟨K, C, oa, oc, rfl, d1, H2⟩)
    go_ret2
    exact ⟨by rw [if_pos rfl]; exact ⟨oa, oc, rfl, H2.out.1, H2.out.2.1⟩, H2.out.2.2⟩
end Go.Proofs.YtaphijgbebhdlaaGreatDoor.Grp
end

section
/- The Canon of a graph that may be may be, is its own Canon, in the order of its places, and as deep. -/
namespace Go.Proofs.YtaphijgbebhdlaaGreatDoor.Grp
open Utf Rws Pln Flw
open Go.RowKit
set_option linter.unusedSimpArgs false
set_option linter.unusedVariables false

/-! ### how many places came -/
theorem lft_all (len : Nat) : ∀ (l out : List Nat), (out ++ l).Nodup → (∀ a ∈ l, a < len) → (out ++ l).length + lft len (out ++ l) = out.length + lft len out
  | [], out, _, _ => by rw [List.append_nil]
  | a :: l, out, hn, hl => by
    have e : out ++ a :: l = (out ++ [a]) ++ l := by simp
    rw [e] at hn ⊢
    have h1 := lft_all len l (out ++ [a]) hn (fun b hb => hl b (by simp [hb]))
    have hna : a ∉ out := by
      have := (List.nodup_append.1 hn).1
      intro h
      exact (List.nodup_append.1 this).2.2 a h a (by simp) rfl
    have h2 := lft_snoc hna (hl a (by simp))
    rw [h1, List.length_append, List.length_singleton]
    omega
theorem len_le {O : List Nat} {len : Nat} (hn : O.Nodup) (hl : ∀ a ∈ O, a < len) : O.length ≤ len := by
  have h := lft_all len O [] (by simpa using hn) hl
  simp only [List.nil_append, List.length_nil, lft_nil] at h
  omega
/-! ### how often a place is a Kid -/
def cnt (l : List Int) (x : Nat) : Nat := (l.map Int.toNat).count x
theorem bmps_eq : ∀ (l : List Int) (T : Nat → Nat) (x : Nat), bmps T l x = T x + cnt l x
  | [], T, x => rfl
  | a :: l, T, x => by
    have e : bmps T (a :: l) x = bmps (bump T a.toNat) l x := rfl
    rw [e, bmps_eq l, cnt, cnt, List.map_cons, List.count_cons, bump]
    by_cases h : x = a.toNat
    · rw [if_pos h, if_pos (by simp [h])]; omega
    · rw [if_neg h, if_neg (by simpa using (fun e => h e.symm))]; omega
theorem timN_eq : ∀ (ns : List Nd) (T : Nat → Nat) (x : Nat), timN T ns x = T x + (ns.map (fun n => cnt n.kids x)).sum
  | [], T, x => rfl
  | n :: ns, T, x => by
    have e : timN T (n :: ns) x = timN (bmps T n.kids) ns x := rfl
    rw [e, timN_eq ns, bmps_eq, List.map_cons, List.sum_cons]
    omega
theorem map_range (ns : List Nd) (f : Nd → Nat) : (ns.map f).sum = ((List.range ns.length).map (fun a => f (ns.getD a nd0))).sum := by
  congr 1
  apply List.ext_getElem
  · simp
  · intro i h1 h2
    have hi : i < ns.length := by simpa using h1
    simp only [List.getElem_map, List.getElem_range, List.getD_eq_getElem?_getD, List.getElem?_eq_getElem hi, Option.getD_some]
/-! ### the Canon -/
theorem cnN_len (ns : List Nd) (O : List Nat) : (cnN ns O).length = O.length := by unfold cnN; rw [List.length_map]
theorem odG_nd (ns : List Nd) (m : Nat) : (odG ns m).Nodup := ord_nodup _ _ _
end Go.Proofs.YtaphijgbebhdlaaGreatDoor.Grp
end

section
/- What is reached from a place that is no key's, as a graph, may be. -/
namespace Go.Proofs.YtaphijgbebhdlaaGreatDoor.Grp
open Utf Rws Pln Flw
open Go.RowKit
set_option linter.unusedSimpArgs false
set_option linter.unusedVariables false

theorem al1_iff (ns : List Nd) : ∀ ms : List Nd, al1 ns ms = true ↔ ∀ n ∈ ms, rAl n.kind n.text = true ∧ rKd ns n.kind n.kids = true
  | [] => by simp [al1]
  | m :: t => by rw [al1, Bool.and_eq_true, Bool.and_eq_true, al1_iff ns t]; simp
theorem al2_iff (ns : List Nd) : ∀ ms : List Nd, al2 ns ms = true ↔ ∀ n ∈ ms, dif ((kys n.kind 0 n.kids).map (kp ns)) = true
  | [] => by simp [al2]
  | m :: t => by rw [al2, Bool.and_eq_true, al2_iff ns t]; simp
theorem kNe_iff (T : Nat → Nat) : ∀ ms : List Nd, kNe T ms = true ↔ ∀ n ∈ ms, ∀ a ∈ kys n.kind 0 n.kids, T a.toNat ≤ 1
  | [] => by simp [kNe]
  | m :: t => by rw [kNe, Bool.and_eq_true, kNe_iff T t, List.all_eq_true]; simp
theorem isKy_iff (a : Int) : ∀ ms : List Nd, isKy ms a = true ↔ ∃ n ∈ ms, a ∈ kys n.kind 0 n.kids
  | [] => by simp [isKy]
  | m :: t => by rw [isKy, Bool.or_eq_true, isKy_iff a t, List.contains_iff_mem]; simp
theorem kdOk_iff (ns : List Nd) (k : Int) : ∀ (i : Nat) (l : List Int), kdOk ns k i l = true ↔ (∀ a ∈ l, isP ns.length a = true) ∧ ∀ a ∈ kys k i l, sca (ns.getD a.toNat nd0).kind = true
  | _, [] => by simp [kdOk, kys]
  | i, a :: t => by
    rw [kdOk, Bool.and_eq_true, Bool.and_eq_true, kdOk_iff ns k (i + 1) t, Bool.or_eq_true, Bool.not_eq_true', kys]
    cases hk : kyP k i
    · simp only [true_or, and_true, Bool.false_eq_true, if_false, List.mem_cons, forall_eq_or_imp]
      exact ⟨fun h => ⟨⟨h.1, h.2.1⟩, h.2.2⟩, fun h => ⟨h.1.1, h.1.2, h.2⟩⟩
    · simp only [Bool.true_eq_false, false_or, if_true, List.mem_cons, forall_eq_or_imp]
      exact ⟨fun h => ⟨⟨h.1.1, h.2.1⟩, h.1.2, h.2.2⟩, fun h => ⟨⟨h.1.1, h.2.1⟩, h.1.2, h.2.2⟩⟩
theorem kid_count {ns : List Nd} {n : Nd} {b : Int} (hn : n ∈ ns) (hb : b ∈ n.kids) : 1 ≤ (ns.map (fun n => cnt n.kids b.toNat)).sum := by
  have h1 : 1 ≤ cnt n.kids b.toNat := List.one_le_count_iff.2 (List.mem_map_of_mem hb)
  have h2 : ∀ ms : List Nd, n ∈ ms → cnt n.kids b.toNat ≤ (ms.map (fun n => cnt n.kids b.toNat)).sum := by
    intro ms
    induction ms with
    | nil => intro h; cases h
    | cons q t ih =>
      intro h
      rw [List.map_cons, List.sum_cons]
      rcases List.mem_cons.1 h with rfl | h
      · omega
      · have := ih h; omega
  have := h2 ns hn
  omega
end Go.Proofs.YtaphijgbebhdlaaGreatDoor.Grp
end

section
/- A graph in its box; a Canon is no larger. -/
namespace Go.Proofs.YtaphijgbebhdlaaGreatDoor.Grp
open Utf Rws Pln Flw
open Go.RowKit
set_option linter.unusedSimpArgs false
set_option linter.unusedVariables false
set_option maxRecDepth 100000
set_option maxHeartbeats 4000000

/-- a graph in its box -/
structure AgS (w W : World) (K : Nat) (ad : Option Addr) (len cap : Nat) (r : Int) (ns : List Nd) : Prop where
  b : Bx W K #[.slice ad len cap, .int .i64 r] 24
  bl : Below w.heap.size w W
  g : GrV W (gv ad len cap r) ⟨ns, r⟩
theorem AgS.later {w W W' : World} {K : Nat} {ad : Option Addr} {len cap : Nat} {r : Int} {ns : List Nd} (h : AgS w W K ad len cap r ns) (hb : Below W.heap.size W W') : AgS w W' K ad len cap r ns := ⟨h.b.later hb, h.bl.trans (hb.mono h.bl.size), h.g.later hb (Nat.le_refl _)⟩
theorem AgS.new {w W : World} {ad : Option Addr} {len cap : Nat} {r : Int} {ns : List Nd} (hb : Below w.heap.size w W) (h : GrV W (gv ad len cap r) ⟨ns, r⟩) : AgS w (W.alloc (.cells #[.slice ad len cap, .int .i64 r] 24)) W.heap.size ad len cap r ns := by
  have b1 := below_alloc W (.cells #[.slice ad len cap, .int .i64 r] 24)
  exact ⟨Bx.new _ _ _, hb.trans (b1.mono hb.size), h.later b1 (Nat.le_refl _)⟩
end Go.Proofs.YtaphijgbebhdlaaGreatDoor.Grp
end

section
/- A graph's tree, as plain functions, and what it is composed to. -/
namespace Go.Proofs.YtaphijgbebhdlaaGreatDoor.Grp
open Utf Rws Pln Flw
set_option linter.unusedSimpArgs false
set_option linter.unusedVariables false

/-- the trees of places, one behind the other; what was gone to; all goings -/
def lyK (f : Nat → List Nat → Tr × List Nat × List Nat) : List Nat → List Nat → List Tr × List Nat × List Nat
  | [], out => ([], out, [])
  | b :: l, out => ((f b out).1 :: (lyK f l (f b out).2.1).1, (lyK f l (f b out).2.1).2.1, (f b out).2.2 ++ (lyK f l (f b out).2.1).2.2)
/-- a place's tree: nm tells the Anchors -/
def lyT (ns : List Nd) (nm : Nat → Ln) : Nat → Nat → List Nat → Tr × List Nat × List Nat
  | 0, _, out => (tr0, out, [])
  | d + 1, a, out => if a ∈ out then (⟨7, [], nm a, []⟩, out, [a]) else
      (⟨(ns.getD a nd0).kind, (ns.getD a nd0).text, nm a, (lyK (lyT ns nm d) (kd ns a) (out ++ [a])).1⟩, (lyK (lyT ns nm d) (kd ns a) (out ++ [a])).2.1, a :: (lyK (lyT ns nm d) (kd ns a) (out ++ [a])).2.2)
theorem ly_old {ns : List Nd} {nm : Nat → Ln} {d a : Nat} {out : List Nat} (h : a ∈ out) : lyT ns nm (d + 1) a out = (⟨7, [], nm a, []⟩, out, [a]) := by rw [lyT, if_pos h]
theorem ly_new {ns : List Nd} {nm : Nat → Ln} {d a : Nat} {out : List Nat} (h : a ∉ out) : lyT ns nm (d + 1) a out = (⟨(ns.getD a nd0).kind, (ns.getD a nd0).text, nm a, (lyK (lyT ns nm d) (kd ns a) (out ++ [a])).1⟩, (lyK (lyT ns nm d) (kd ns a) (out ++ [a])).2.1, a :: (lyK (lyT ns nm d) (kd ns a) (out ++ [a])).2.2) := by rw [lyT, if_neg h]
structure OkO (N : Nat) (out : List Nat) : Prop where
  nd : out.Nodup
  lt : ∀ b ∈ out, b < N
theorem OkO.le {N : Nat} {out : List Nat} (h : OkO N out) : out.length ≤ N := len_le h.nd h.lt
theorem OkO.snoc {N a : Nat} {out : List Nat} (h : OkO N out) (ha : a < N) (hn : a ∉ out) : OkO N (out ++ [a]) := by
  refine ⟨?_, fun b hb => ?_⟩
  · rw [List.nodup_append]
    refine ⟨h.nd, by simp, fun x hx y hy e => ?_⟩
    simp at hy
    subst hy
    subst e
    exact hn hx
  · rcases List.mem_append.1 hb with hb | hb
    · exact h.lt b hb
    · simp at hb; omega
/-- what goings leave -/
structure LyR (ns : List Nd) (N : Nat) (l out out' lg nw : List Nat) : Prop where
  e : out' = out ++ nw
  ok : OkO N out'
  kid : ∀ b ∈ l, b ∈ out'
  mem : ∀ b, b ∈ out' ↔ b ∈ out ∨ b ∈ lg
  cl : ∀ x ∈ nw, ∀ b ∈ kd ns x, b ∈ out'
  cn : ∀ b, lg.count b = l.count b + (nw.map (fun x => (kd ns x).count b)).sum
  ln : lg.length = l.length + (nw.map (fun x => (kd ns x).length)).sum
theorem ly_k {ns : List Nd} {N d : Nat} {f : Nat → List Nat → Tr × List Nat × List Nat} (hf : ∀ a out, OkO N out → a < N → N < d + out.length → ∃ nw, LyR ns N [a] out (f a out).2.1 (f a out).2.2 nw) :
    ∀ (l out : List Nat), OkO N out → (∀ b ∈ l, b < N) → N < d + out.length → ∃ nw, LyR ns N l out (lyK f l out).2.1 (lyK f l out).2.2 nw
  | [], out, ho, _, _ => ⟨[], by simp [lyK], ho, fun b hb => (by cases hb), fun b => by simp [lyK], fun x hx => (by cases hx), fun b => by simp [lyK], by simp [lyK]⟩
  | b :: l, out, ho, hl, hd => by
    obtain ⟨n1, R1⟩ := hf b out ho (hl b (by simp)) hd
    have h1 := R1.e
    obtain ⟨n2, R2⟩ := ly_k hf l (f b out).2.1 R1.ok (fun c hc => hl c (by simp [hc])) (by rw [h1, List.length_append]; omega)
    have h2 := R2.e
    have hsub : ∀ c, c ∈ (f b out).2.1 → c ∈ (lyK f l (f b out).2.1).2.1 := fun c hc => by rw [h2]; exact List.mem_append_left _ hc
    refine ⟨n1 ++ n2, ?_, R2.ok, fun c hc => ?_, fun c => ?_, fun x hx c hc => ?_, fun c => ?_, ?_⟩
    · show (lyK f l (f b out).2.1).2.1 = _
      rw [h2, h1, List.append_assoc]
    · rcases List.mem_cons.1 hc with rfl | hc
      · exact hsub _ (R1.kid _ (by simp))
      · exact R2.kid c hc
    · show c ∈ (lyK f l (f b out).2.1).2.1 ↔ c ∈ out ∨ c ∈ (f b out).2.2 ++ (lyK f l (f b out).2.1).2.2
      rw [R2.mem c, R1.mem c, List.mem_append]
      exact or_assoc
    · rcases List.mem_append.1 hx with hx | hx
      · exact hsub _ (R1.cl x hx c hc)
      · exact R2.cl x hx c hc
    · show ((f b out).2.2 ++ (lyK f l (f b out).2.1).2.2).count c = _
      rw [List.count_append, R1.cn c, R2.cn c, List.map_append, List.sum_append, List.count_cons, List.count_cons, List.count_nil]
      omega
    · show ((f b out).2.2 ++ (lyK f l (f b out).2.1).2.2).length = _
      rw [List.length_append, R1.ln, R2.ln, List.map_append, List.sum_append, List.length_cons, List.length_cons, List.length_nil]
      omega
theorem ly_t {ns : List Nd} {nm : Nat → Ln} {N : Nat} (hk : ∀ a, a < N → ∀ b ∈ kd ns a, b < N) : ∀ (d a : Nat) (out : List Nat), OkO N out → a < N → N < d + out.length → ∃ nw, LyR ns N [a] out (lyT ns nm d a out).2.1 (lyT ns nm d a out).2.2 nw
  | 0, a, out, ho, _, hd => absurd ho.le (by omega)
  | d + 1, a, out, ho, ha, hd => by
    by_cases h : a ∈ out
    · rw [ly_old h]
      have hm : ∀ b, b ∈ out ↔ b ∈ out ∨ b ∈ [a] := fun b => by
        constructor
        · exact .inl
        · rintro (h' | h')
          · exact h'
          · simp at h'; subst h'; exact h
      exact ⟨[], by simp, ho, fun b hb => (by simp at hb; subst hb; exact h), hm, fun x hx => (by cases hx), fun b => by simp, by simp⟩
    · rw [ly_new h]
      obtain ⟨n1, R⟩ := ly_k (ly_t hk d) (kd ns a) (out ++ [a]) (ho.snoc ha h) (hk a ha) (by rw [List.length_append, List.length_singleton]; omega)
      have h1 := R.e
      have ha2 : a ∈ (lyK (lyT ns nm d) (kd ns a) (out ++ [a])).2.1 := by rw [h1]; simp
      refine ⟨a :: n1, by rw [h1]; simp, R.ok, fun b hb => (by simp at hb; subst hb; exact ha2), fun b => ?_, fun x hx b hb => ?_, fun b => ?_, ?_⟩
      · show b ∈ (lyK (lyT ns nm d) (kd ns a) (out ++ [a])).2.1 ↔ b ∈ out ∨ b ∈ a :: (lyK (lyT ns nm d) (kd ns a) (out ++ [a])).2.2
        rw [R.mem b, List.mem_append, List.mem_singleton, List.mem_cons]
        exact or_assoc
      · rcases List.mem_cons.1 hx with rfl | hx
        · exact R.kid b hb
        · exact R.cl x hx b hb
      · show (a :: (lyK (lyT ns nm d) (kd ns a) (out ++ [a])).2.2).count b = _
        rw [List.count_cons, R.cn b, List.count_cons, List.count_nil, List.map_cons, List.sum_cons]
        omega
      · show (a :: (lyK (lyT ns nm d) (kd ns a) (out ++ [a])).2.2).length = _
        rw [List.length_cons, R.ln, List.length_cons, List.length_nil, List.map_cons, List.sum_cons]
        omega
end Go.Proofs.YtaphijgbebhdlaaGreatDoor.Grp
end

section
/- A graph's tree may be. -/
namespace Go.Proofs.YtaphijgbebhdlaaGreatDoor.Grp
open Utf Rws Pln Flw
set_option linter.unusedSimpArgs false
set_option linter.unusedVariables false

end Go.Proofs.YtaphijgbebhdlaaGreatDoor.Grp
end

section
/- How many Anchors and Aliases a graph's tree has. -/
namespace Go.Proofs.YtaphijgbebhdlaaGreatDoor.Grp
open Utf Rws Pln Flw
set_option linter.unusedSimpArgs false
set_option linter.unusedVariables false

/-- Anchors and Aliases of a tree -/
def anT : Nat → Tr → Nat × Nat
  | 0, _ => (0, 0)
  | d + 1, t => ((if t.kind = 7 then 0 else if t.anc = [] then 0 else 1) + (t.kids.map fun k => (anT d k).1).sum, (if t.kind = 7 then 1 else 0) + (t.kids.map fun k => (anT d k).2).sum)
end Go.Proofs.YtaphijgbebhdlaaGreatDoor.Grp
end

section
/- The Anchors' names: a and a number, by the order of what is shared. -/
namespace Go.Proofs.YtaphijgbebhdlaaGreatDoor.Grp
open Utf Rws Pln Flw
set_option linter.unusedSimpArgs false
set_option linter.unusedVariables false

/-- how often a place is gone to -/
def tmG (ns : List Nd) (r b : Nat) : Nat := (if r = b then 1 else 0) + ((odG ns r).map fun x => (kd ns x).count b).sum
/-- what is shared, in order -/
def shL (ns : List Nd) (r : Nat) : List Nat := (odG ns r).filter fun b => decide (1 < tmG ns r b)
/-- a place's Anchor -/
def nmG (ns : List Nd) (r b : Nat) : Ln := if b ∈ shL ns r then 97 :: Lib.itoa (((shL ns r).idxOf b + 1 : Nat) : Int) else []
theorem sh_len (ns : List Nd) (r : Nat) : (shL ns r).length ≤ (odG ns r).length := List.length_filter_le _ _
end Go.Proofs.YtaphijgbebhdlaaGreatDoor.Grp
end

section
/- How deep a graph is gone down, as plain functions. -/
namespace Go.Proofs.YtaphijgbebhdlaaGreatDoor.Grp
open Utf Rws Pln Flw
set_option linter.unusedSimpArgs false
set_option linter.unusedVariables false

/-- one more, if it is a list -/
def lsN (ns : List Nd) (a : Nat) : Nat := if (ns.getD a nd0).kind = 5 ∨ (ns.getD a nd0).kind = 6 then 1 else 0
def dgK (f : Nat → List Nat × Nat → List Nat × Nat) : List Nat → List Nat × Nat → List Nat × Nat
  | [], s => s
  | b :: l, s => dgK f l (f b s)
/-- going down: what was gone to, and how deep it was -/
def dg (ns : List Nd) : Nat → Nat → Nat → List Nat × Nat → List Nat × Nat
  | 0, _, _, s => s
  | d + 1, a, e, s => if a ∈ s.1 then s else dgK (fun b => dg ns d b (e + lsN ns a)) (kd ns a) (s.1 ++ [a], max s.2 (e + lsN ns a))
theorem dg_old {ns : List Nd} {d a e : Nat} {s : List Nat × Nat} (h : a ∈ s.1) : dg ns (d + 1) a e s = s := by rw [dg, if_pos h]
theorem dg_new {ns : List Nd} {d a e : Nat} {s : List Nat × Nat} (h : a ∉ s.1) : dg ns (d + 1) a e s = dgK (fun b => dg ns d b (e + lsN ns a)) (kd ns a) (s.1 ++ [a], max s.2 (e + lsN ns a)) := by rw [dg, if_neg h]
theorem dgK_out {f : Nat → List Nat × Nat → List Nat × Nat} {g : Nat → List Nat → Tr × List Nat × List Nat} (h : ∀ b s, (f b s).1 = (g b s.1).2.1) : ∀ (l : List Nat) (s : List Nat × Nat), (dgK f l s).1 = (lyK g l s.1).2.1
  | [], s => rfl
  | b :: l, s => by
    show (dgK f l (f b s)).1 = (lyK g l (g b s.1).2.1).2.1
    rw [dgK_out h l, h]
theorem dg_out {ns : List Nd} (nm : Nat → Ln) : ∀ (d a e : Nat) (s : List Nat × Nat), (dg ns d a e s).1 = (lyT ns nm d a s.1).2.1
  | 0, a, e, s => rfl
  | d + 1, a, e, s => by
    by_cases h : a ∈ s.1
    · rw [ly_old h, dg_old h]
    · rw [ly_new h, dg_new h]
      exact dgK_out (fun b s => dg_out nm d b _ s) _ _
theorem dgK_le {f : Nat → List Nat × Nat → List Nat × Nat} (h : ∀ b s, s.2 ≤ (f b s).2) : ∀ (l : List Nat) (s : List Nat × Nat), s.2 ≤ (dgK f l s).2
  | [], s => Nat.le_refl _
  | b :: l, s => Nat.le_trans (h b s) (dgK_le h l (f b s))
theorem dg_le {ns : List Nd} : ∀ (d a e : Nat) (s : List Nat × Nat), s.2 ≤ (dg ns d a e s).2
  | 0, a, e, s => Nat.le_refl _
  | d + 1, a, e, s => by
    by_cases h : a ∈ s.1
    · rw [dg_old h]; exact Nat.le_refl _
    · rw [dg_new h]
      exact Nat.le_trans (Nat.le_max_left s.2 (e + lsN ns a)) (dgK_le (f := fun b => dg ns d b (e + lsN ns a)) (fun b s => dg_le d b (e + lsN ns a) s) (kd ns a) (s.1 ++ [a], max s.2 (e + lsN ns a)))
theorem dgK_bd {f : Nat → List Nat × Nat → List Nat × Nat} {B : Nat} (h : ∀ b s, s.2 ≤ B → (f b s).2 ≤ B) : ∀ (l : List Nat) (s : List Nat × Nat), s.2 ≤ B → (dgK f l s).2 ≤ B
  | [], s, hs => hs
  | b :: l, s, hs => dgK_bd h l (f b s) (h b s hs)
theorem lsN_le (ns : List Nd) (a : Nat) : lsN ns a ≤ 1 := by unfold lsN; split <;> omega
theorem dg_bd {ns : List Nd} {B : Nat} : ∀ (d a e : Nat) (s : List Nat × Nat), s.2 ≤ B → e + d ≤ B → (dg ns d a e s).2 ≤ B
  | 0, a, e, s, hs, _ => hs
  | d + 1, a, e, s, hs, he => by
    have hl := lsN_le ns a
    by_cases h : a ∈ s.1
    · rw [dg_old h]; exact hs
    · rw [dg_new h]
      exact dgK_bd (fun b s hs => dg_bd d b _ s hs (by omega)) _ _ (Nat.max_le.2 ⟨hs, by omega⟩)
end Go.Proofs.YtaphijgbebhdlaaGreatDoor.Grp
end
