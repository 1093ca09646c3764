/- Several texts as one: GraphTop, GraphTop2. -/
import Derived.Test.YtfohbiohleekbaaGreatDoorQGraphCan
section
/- Package graph's Canon, Order, Depth and Sub, by their contracts. -/
namespace Go.Proofs.YtfohbiohleekbaaGreatDoor.Grp
open Utf Rws Pln Flw
open Go.RowKit
set_option linter.unusedSimpArgs false
set_option linter.unusedVariables false
set_option maxRecDepth 100000
set_option maxHeartbeats 4000000

theorem rgG_facts {ns : List Nd} {r : Int} (h : rgG ⟨ns, r⟩ = true) : ns.length ≤ 4096 ∧ isP ns.length r = true ∧ (∀ n ∈ ns, ∀ a ∈ n.kids, isP ns.length a = true) := by
  unfold rgG at h
  simp only [Bool.and_eq_true, decide_eq_true_eq] at h
  exact ⟨h.1.1.1.1, h.1.1.1.2, fun n hn a ha => rKd_all (al1_all ns ns h.1.1.2 n hn).2 a ha⟩
/-- the order of a graph's nodes, from a place -/
def odG (ns : List Nd) (r : Nat) : List Nat := ord (kd ns) (ful (kd ns) ns.length) r
def dpG (ns : List Nd) (r : Nat) : Nat := dep (kd ns) (ful (kd ns) ns.length) r
theorem odG_lt {ns : List Nd} (hk : ∀ n ∈ ns, ∀ a ∈ n.kids, isP ns.length a = true) {r : Nat} (hr : r < ns.length) : ∀ a ∈ odG ns r, a < ns.length := ord_lt (kd_lt hk rfl) hr
/-- walked, then graph -/
theorem walk_graph {w : World} {ad : Option Addr} {len cap : Nat} {ns : List Nd} {r : Nat} (hlen : len ≤ 4096) (hN : NAt w ad len ns) (hr : r < len) (hK : ∀ n ∈ ns, ∀ a ∈ n.kids, isP len a = true) (hsum : sumK ns ≤ 1000000000) {P : Ending → World → Prop}
    (hP : ∀ K C w', WkS w w' K C (.slice ad len cap) len (odG ns r) (dpG ns r) → P (.returned (.pointer (some ⟨K, 0, none⟩))) w') : Calls Tryz.prog 31 #[gv ad len cap (r : Int)] w P := by
  have hl : len = ns.length := hN.1
  refine (walked_any hlen hN hr hK hsum).mono ?_
  rintro e w' ⟨K, C, rfl, h⟩
  refine hP K C w' ?_
  unfold odG dpG
  rw [← hl]
  exact h
/-- the boxes of a graph and of an answer -/
structure CaS (w W : World) (K0 K2 : Nat) (g0 g1 : Value) : Prop where
  g : Bx W K0 #[g0, g1] 30
  r : Bx W K2 #[.slice none 0 0, .int .i64 0] 30
  bl : Below w.heap.size w W
  hk : w.heap.size ≤ K2
theorem CaS.later {w W W' : World} {K0 K2 : Nat} {g0 g1 : Value} (h : CaS w W K0 K2 g0 g1) (hb : Below W.heap.size W W') : CaS w W' K0 K2 g0 g1 := ⟨h.g.later hb, h.r.later hb, h.bl.trans (hb.mono h.bl.size), h.hk⟩
theorem CaS.new (w : World) (g0 g1 : Value) : CaS w ((w.alloc (.cells #[g0, g1] 30)).alloc (.cells #[.slice none 0 0, .int .i64 0] 30)) w.heap.size (w.heap.size + 1) g0 g1 := by
  have b1 := below_alloc w (.cells #[g0, g1] 30)
  have s1 : (w.alloc (.cells #[g0, g1] 30)).heap.size = w.heap.size + 1 := World.size_alloc _ _
  have b2 := below_alloc (w.alloc (.cells #[g0, g1] 30)) (.cells #[.slice none 0 0, .int .i64 0] 30)
  have n2 := Bx.new (w.alloc (.cells #[g0, g1] 30)) #[.slice none 0 0, .int .i64 0] 30
  rw [s1] at n2
  exact ⟨(Bx.new w _ _).later b2, n2, b1.trans (b2.mono b1.size), by omega⟩
/-- what is answered: nothing and an error, or a graph -/
def GRes (w : World) (q : Bool) (er : Int) (g : Gr) (e : Ending) (w' : World) : Prop := (if q = true then ∃ v, e = .returned (.tuple #[v, .int .i64 0]) ∧ GrP w.heap.size w' v g else e = .returned (.tuple #[gv none 0 0 0, .int .i64 er])) ∧ Below w.heap.size w w'
theorem GrV.set {W : World} {K : Nat} {v u : Value} {g : Gr} {i : Nat} (h : GrV W v g) (hK : W.heap.size ≤ K) : GrV (W.setCell ⟨K, i, none⟩ u) v g := h.later (B := W.heap.size) ((Below.refl _ W).setCell (p := ⟨K, i, none⟩) hK _) (Nat.le_refl _)
end Go.Proofs.YtfohbiohleekbaaGreatDoor.Grp
end

section
/- Package graph's Order and Depth, by their contracts. -/
namespace Go.Proofs.YtfohbiohleekbaaGreatDoor.Grp
open Utf Rws Pln Flw
open Go.RowKit
set_option linter.unusedSimpArgs false
set_option linter.unusedVariables false
set_option maxRecDepth 100000
set_option maxHeartbeats 4000000

/-- what Order answers -/
def ORes (w : World) (q : Bool) (O : List Nat) (e : Ending) (w' : World) : Prop := (if q = true then ∃ ad cap, e = .returned (.tuple #[.slice ad O.length cap, .int .i64 0]) ∧ IAt w' ad O.length (O.map fun a : Nat => (a : Int)) ∧ O.length ≤ 5000 else e = .returned (.tuple #[.slice none 0 0, .int .i64 1])) ∧ Below w.heap.size w w'
theorem WkS.ord {w0 W : World} {K C : Nat} {nsl : Value} {len : Nat} {out : List Nat} {m : Nat} (h : WkS w0 W K C nsl len out m) (hl : ∀ a ∈ out, a < len) (hn : len ≤ 4096) : ∃ ad cap, W.cell? ⟨K, 1, none⟩ = some (.slice ad out.length cap) ∧ IAt W ad out.length (out.map fun a : Nat => (a : Int)) := by
  obtain ⟨ov, hb, ho⟩ := h.s
  obtain ⟨ad, cap, rfl⟩ := own_shape ho
  rw [map_nat] at ho
  exact ⟨ad, cap, hb.cell 1, (iat_own ho (fun a ha => by obtain ⟨x, hx, rfl⟩ := List.mem_map.1 ha; have := hl x hx; constructor <;> omega)).1.1⟩
theorem order_core {w : World} {ad : Option Addr} {len cap : Nat} {r : Int} {ns : List Nd} (hlen : len ≤ 9223372036854775807) (hN : NAt w ad len ns) (hS : Sml ns) (hT : Tb w) :
    Calls Tryz.prog 12 #[gv ad len cap r] w (ORes w (rgG ⟨ns, r⟩) (odG ns r.toNat)) := by
  have HLn : Hid (len = ns.length) := hN.1
  have h0 : RS w (w.alloc (.cells #[.slice ad len cap, .int .i64 r] 30)) w.heap.size (.slice ad len cap) (.int .i64 r) := ⟨Bx.new _ _ _, below_alloc _ _⟩
  have HR : Hid (∀ w', Hid (RS w w' w.heap.size (.slice ad len cap) (.int .i64 r)) → Calls Tryz.prog 16 #[gv ad len cap r] w' fun e w'' => e = .returned (.bool (rgG ⟨ns, r⟩)) ∧ Hid (RS w w'' w.heap.size (.slice ad len cap) (.int .i64 r))) :=
    fun w' h => (right_core hlen (hN.later h.out.bl (Nat.le_refl _)) hS (hT.later h.out.bl)).mono (fun e w'' q => ⟨q.1, h.out.later q.2⟩)
  cases hq : rgG ⟨ns, r⟩
  · rw [hq] at HR
    go_enter Tryz.func12, Tryz.ntmps12
    go_wp2_with fail
    generalize w.alloc (.cells #[.slice ad len cap, .int .i64 r] 30) = W0 at h0 ⊢
    refine (HR.out _ h0).mono ?_
    rintro e w1 ⟨rfl, H1⟩
    clear HR hS hT hN h0
    go_wp2
    go_ret2
    exact ⟨by rw [if_neg (by decide)]; rfl, H1.out.bl⟩
  · obtain ⟨f1, f2, f3⟩ := rgG_facts hq
    have f4 := f3
    rw [← HLn.out] at f1 f2 f3
    obtain ⟨m, rfl, hm⟩ := isP_nat f2
    have hsum := (hS (by have := HLn.out; omega)).2
    rw [Int.toNat_natCast]
    rw [hq] at HR
    have HW : Hid (∀ w', Hid (RS w w' w.heap.size (.slice ad len cap) (.int .i64 (m : Int))) → Calls Tryz.prog 31 #[gv ad len cap (m : Int)] w' fun e w'' => ∃ K C oa oc, e = .returned (.pointer (some ⟨K, 0, none⟩)) ∧ w''.cell? ⟨K, 1, none⟩ = some (.slice oa (odG ns m).length oc) ∧ Hid (IAt w'' oa (odG ns m).length ((odG ns m).map fun a : Nat => (a : Int)) ∧ (odG ns m).length ≤ 5000 ∧ Below w.heap.size w w'')) :=
      fun w' h => walk_graph f1 (hN.later h.out.bl (Nat.le_refl _)) hm f3 hsum (fun K C w'' hw => by
        obtain ⟨oa, oc, e1, e2⟩ := hw.ord (fun a ha => by rw [HLn.out]; exact odG_lt f4 (by rw [← HLn.out]; exact hm) a ha) f1
        have h5 := hw.h5
        exact ⟨K, C, oa, oc, rfl, e1, e2, by omega, h.out.bl.trans (hw.bl.mono h.out.bl.size)⟩)
    clear hS hT f1 f2 f3 hsum hN f4
    go_enter Tryz.func12, Tryz.ntmps12
    go_wp2_with fail
    generalize w.alloc (.cells #[.slice ad len cap, .int .i64 (m : Int)] 30) = W0 at h0 ⊢
    refine (HR.out _ h0).mono ?_
    rintro e w1 ⟨rfl, H1⟩
    obtain ⟨c0, c1⟩ := H1.out.g.c2
    go_wp2_with (go_at_call 31; refine (HW.out _ H1).mono ?_; rintro e w2 ⟨K, C, oa, oc, rfl, d1, H2⟩)
    go_ret2
    exact ⟨by rw [if_pos rfl]; exact ⟨oa, oc, rfl, H2.out.1, H2.out.2.1⟩, H2.out.2.2⟩
/-- what Depth answers -/
def DRes (w : World) (q : Bool) (d : Nat) (e : Ending) (w' : World) : Prop := (if q = true then e = .returned (.tuple #[.int .i64 (d : Int), .int .i64 0]) else e = .returned (.tuple #[.int .i64 0, .int .i64 1])) ∧ Below w.heap.size w w'
theorem depth_core {w : World} {ad : Option Addr} {len cap : Nat} {r : Int} {ns : List Nd} (hlen : len ≤ 9223372036854775807) (hN : NAt w ad len ns) (hS : Sml ns) (hT : Tb w) :
    Calls Tryz.prog 14 #[gv ad len cap r] w (DRes w (rgG ⟨ns, r⟩) (dpG ns r.toNat)) := by
  have HLn : Hid (len = ns.length) := hN.1
  have h0 : RS w (w.alloc (.cells #[.slice ad len cap, .int .i64 r] 30)) w.heap.size (.slice ad len cap) (.int .i64 r) := ⟨Bx.new _ _ _, below_alloc _ _⟩
  have HR : Hid (∀ w', Hid (RS w w' w.heap.size (.slice ad len cap) (.int .i64 r)) → Calls Tryz.prog 16 #[gv ad len cap r] w' fun e w'' => e = .returned (.bool (rgG ⟨ns, r⟩)) ∧ Hid (RS w w'' w.heap.size (.slice ad len cap) (.int .i64 r))) :=
    fun w' h => (right_core hlen (hN.later h.out.bl (Nat.le_refl _)) hS (hT.later h.out.bl)).mono (fun e w'' q => ⟨q.1, h.out.later q.2⟩)
  cases hq : rgG ⟨ns, r⟩
  · rw [hq] at HR
    go_enter Tryz.func14, Tryz.ntmps14
    go_wp2_with fail
    generalize w.alloc (.cells #[.slice ad len cap, .int .i64 r] 30) = W0 at h0 ⊢
    refine (HR.out _ h0).mono ?_
    rintro e w1 ⟨rfl, H1⟩
    clear HR hS hT hN h0
    go_wp2
    go_ret2
    exact ⟨by rw [if_neg (by decide)]; rfl, H1.out.bl⟩
  · obtain ⟨f1, f2, f3⟩ := rgG_facts hq
    rw [← HLn.out] at f1 f2 f3
    obtain ⟨m, rfl, hm⟩ := isP_nat f2
    have hsum := (hS (by have := HLn.out; omega)).2
    rw [Int.toNat_natCast]
    rw [hq] at HR
    have HW : Hid (∀ w', Hid (RS w w' w.heap.size (.slice ad len cap) (.int .i64 (m : Int))) → Calls Tryz.prog 31 #[gv ad len cap (m : Int)] w' fun e w'' => ∃ K C, e = .returned (.pointer (some ⟨K, 0, none⟩)) ∧ w''.cell? ⟨K, 3, none⟩ = some (.int .i64 (dpG ns m : Int)) ∧ Hid (Below w.heap.size w w'')) :=
      fun w' h => walk_graph f1 (hN.later h.out.bl (Nat.le_refl _)) hm f3 hsum (fun K C w'' hw => by
        obtain ⟨ov, hb, _⟩ := hw.s
        exact ⟨K, C, rfl, hb.cell 3, h.out.bl.trans (hw.bl.mono h.out.bl.size)⟩)
    clear hS hT f1 f2 f3 hsum hN
    generalize dpG ns m = D at *
    go_enter Tryz.func14, Tryz.ntmps14
    go_wp2_with fail
    generalize w.alloc (.cells #[.slice ad len cap, .int .i64 (m : Int)] 30) = W0 at h0 ⊢
    refine (HR.out _ h0).mono ?_
    rintro e w1 ⟨rfl, H1⟩
    obtain ⟨c0, c1⟩ := H1.out.g.c2
    go_wp2_with (go_at_call 31; refine (HW.out _ H1).mono ?_; rintro e w2 ⟨K, C, rfl, d1, H2⟩)
    go_ret2
    exact ⟨by rw [if_pos rfl]; rfl, H2.out⟩
theorem order_any {w : World} {v : Value} {g : Gr} (h : GrV w v g) (hS : Sml g.nodes) (hT : Tb w) : Calls Tryz.prog 12 #[v] w (ORes w (rgG g) (odG g.nodes g.root.toNat)) := by
  obtain ⟨ad, len, cap, rfl, h1, h2, h3, h4⟩ := h
  have : maxLen = 9223372036854775807 := rfl
  exact order_core (by omega) h4 hS hT
theorem depth_any {w : World} {v : Value} {g : Gr} (h : GrV w v g) (hS : Sml g.nodes) (hT : Tb w) : Calls Tryz.prog 14 #[v] w (DRes w (rgG g) (dpG g.nodes g.root.toNat)) := by
  obtain ⟨ad, len, cap, rfl, h1, h2, h3, h4⟩ := h
  have : maxLen = 9223372036854775807 := rfl
  exact depth_core (by omega) h4 hS hT
end Go.Proofs.YtfohbiohleekbaaGreatDoor.Grp
end
