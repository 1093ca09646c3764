/- Several texts as one: GraphTop, GraphTop2. -/
import Derived.Test.YtfohbiohleekbaaGreatDoorQGraphCan
section
/- . -/
namespace Go.Proofs.YtfohbiohleekbaaGreatDoor.Grp
open Utf Rws Pln Flw
open Go.RowKit
set_option linter.unusedSimpArgs false
set_option linter.unusedVariables false
set_option maxRecDepth 100000
set_option maxHeartbeats 4000000
theorem rgG_facts {ns : List Nd} {r : Int} (h : rgG ⟨ns, r⟩ = true) : ns.length ≤ 4096 ∧ isP ns.length r = true ∧ (∀ n ∈ ns, ∀ a ∈ n.kids, isP ns.length a = true) := by
 unfold rgG at h
 simp only [Bool.and_eq_true, decide_eq_true_eq] at h
 exact ⟨h.1.1.1.1, h.1.1.1.2, fun n hn a ha => rKd_all (al1_all ns ns h.1.1.2 n hn).2 a ha⟩
def odG (ns : List Nd) (r : Nat) : List Nat := ord (kd ns) (ful (kd ns) ns.length) r
def dpG (ns : List Nd) (r : Nat) : Nat := dep (kd ns) (ful (kd ns) ns.length) r
theorem odG_lt {ns : List Nd} (hk : ∀ n ∈ ns, ∀ a ∈ n.kids, isP ns.length a = true) {r : Nat} (hr : r < ns.length) : ∀ a ∈ odG ns r, a < ns.length := ord_lt (kd_lt hk rfl) hr
theorem odG_cl {ns : List Nd} (hk : ∀ n ∈ ns, ∀ a ∈ n.kids, isP ns.length a = true) {r : Nat} (hr : r < ns.length) : ∀ a ∈ odG ns r, ∀ b ∈ kd ns a, b ∈ odG ns r := ord_closed (kd_lt hk rfl) hr (mea_ful _ _ _ _)
theorem walk_graph {w : World} {ad : Option Addr} {len cap : Nat} {ns : List Nd} {r : Nat} (hlen : len ≤ 4096) (hN : NAt w ad len ns) (hr : r < len) (hK : ∀ n ∈ ns, ∀ a ∈ n.kids, isP len a = true) (hsum : sumK ns ≤ 1000000000) {P : Ending → World → Prop}
  (hP : ∀ K C w', WkS w w' K C (.slice ad len cap) len (odG ns r) (dpG ns r) → P (.returned (.pointer (some ⟨K, 0, none⟩))) w') : Calls Tryz.prog 31 #[gv ad len cap (r : Int)] w P := by
 have hl : len = ns.length := hN.1
 refine (walked_any hlen hN hr hK hsum).mono ?_
 rintro e w' ⟨K, C, rfl, h⟩
 refine hP K C w' ?_
 unfold odG dpG
 rw [← hl]
 exact h
theorem graph_of {w w1 : World} {K C : Nat} {ad : Option Addr} {len cap : Nat} {ns : List Nd} {r : Nat} (hlen : len ≤ 4096) (hN : NAt w ad len ns) (hr : r < len) (hK : ∀ n ∈ ns, ∀ a ∈ n.kids, isP len a = true) (hsum : sumK ns ≤ 1000000000)
  (hW : WkS w w1 K C (.slice ad len cap) len (odG ns r) (dpG ns r)) : Calls Tryz.prog 42 #[.pointer (some ⟨K, 0, none⟩)] w1 fun e w' => (∃ ad' len' cap', e = .returned (gv ad' len' cap' 0) ∧ GrP w1.heap.size w' (gv ad' len' cap' 0) ⟨cnN ns (odG ns r), 0⟩) ∧ Below w1.heap.size w1 w' := by
 have hl : len = ns.length := hN.1
 subst hl
 refine (graph_any hlen (hN.later hW.bl (Nat.le_refl _)) hW (odG_lt hK hr) (odG_cl hK hr) hK hsum).mono ?_
 rintro e w' ⟨⟨v, rfl, hG⟩, hb⟩
 obtain ⟨ad', len', cap', rfl, h⟩ := hG.v
 exact ⟨⟨ad', len', cap', rfl, hG⟩, hb⟩
structure CaS (w W : World) (K0 K2 : Nat) (g0 g1 : Value) : Prop where
 g : Bx W K0 #[g0, g1] 30
 r : Bx W K2 #[.slice none 0 0, .int .i64 0] 30
 bl : Below w.heap.size w W
 hk : w.heap.size ≤ K2
theorem CaS.later {w W W' : World} {K0 K2 : Nat} {g0 g1 : Value} (h : CaS w W K0 K2 g0 g1) (hb : Below W.heap.size W W') : CaS w W' K0 K2 g0 g1 := ⟨h.g.later hb, h.r.later hb, h.bl.trans (hb.mono h.bl.size), h.hk⟩
theorem CaS.new (w : World) (g0 g1 : Value) : CaS w ((w.alloc (.cells #[g0, g1] 30)).alloc (.cells #[.slice none 0 0, .int .i64 0] 30)) w.heap.size (w.heap.size + 1) g0 g1 := by
 have b1 := below_alloc w (.cells #[g0, g1] 30)
 have s1 : (w.alloc (.cells #[g0, g1] 30)).heap.size = w.heap.size + 1 := World.size_alloc _ _
 have b2 := below_alloc (w.alloc (.cells #[g0, g1] 30)) (.cells #[.slice none 0 0, .int .i64 0] 30)
 have n2 := Bx.new (w.alloc (.cells #[g0, g1] 30)) #[.slice none 0 0, .int .i64 0] 30
 rw [s1] at n2
 exact ⟨(Bx.new w _ _).later b2, n2, b1.trans (b2.mono b1.size), by omega⟩
def GRes (w : World) (q : Bool) (er : Int) (g : Gr) (e : Ending) (w' : World) : Prop := (if q = true then ∃ v, e = .returned (.tuple #[v, .int .i64 0]) ∧ GrP w.heap.size w' v g else e = .returned (.tuple #[gv none 0 0 0, .int .i64 er])) ∧ Below w.heap.size w w'
theorem GrV.set {W : World} {K : Nat} {v u : Value} {g : Gr} {i : Nat} (h : GrV W v g) (hK : W.heap.size ≤ K) : GrV (W.setCell ⟨K, i, none⟩ u) v g := h.later (B := W.heap.size) ((Below.refl _ W).setCell (p := ⟨K, i, none⟩) hK _) (Nat.le_refl _)
theorem canon_core {w : World} {ad : Option Addr} {len cap : Nat} {r : Int} {ns : List Nd} (hlen : len ≤ 9223372036854775807) (hN : NAt w ad len ns) (hS : Sml ns) (hT : Tb w) :
  Calls Tryz.prog 20 #[gv ad len cap r] w (GRes w (rgG ⟨ns, r⟩) 1 ⟨cnN ns (odG ns r.toNat), 0⟩) := by
 have HLn : Hid (len = ns.length) := hN.1
 have h0 := CaS.new w (.slice ad len cap) (.int .i64 r)
 have HN : Hid (NAt w ad len ns) := hN
 have HR : Hid (∀ w', Hid (CaS w w' w.heap.size (w.heap.size + 1) (.slice ad len cap) (.int .i64 r)) → Calls Tryz.prog 16 #[gv ad len cap r] w' fun e w'' => e = .returned (.bool (rgG ⟨ns, r⟩)) ∧ Hid (CaS w w'' w.heap.size (w.heap.size + 1) (.slice ad len cap) (.int .i64 r))) :=
  fun w' h => (right_core hlen (hN.later h.out.bl (Nat.le_refl _)) hS (hT.later h.out.bl)).mono (fun e w'' q => ⟨q.1, h.out.later q.2⟩)
 cases hq : rgG ⟨ns, r⟩
 ·rw [hq] at HR
  go_enter Tryz.func20, Tryz.ntmps20
  go_wp2_with fail
  generalize (w.alloc (.cells #[.slice ad len cap, .int .i64 r] 30)).alloc (.cells #[.slice none 0 0, .int .i64 0] 30) = W0 at h0 ⊢
  refine (HR.out _ h0).mono ?_
  rintro e w1 ⟨rfl, H1⟩
  obtain ⟨c0, c1⟩ := H1.out.r.c2
  have z0 := H1.out.r.fz 0
  have z1 := H1.out.r.fz 1
  have HB : Hid (_ ∧ _) := ⟨(H1.out.r.set 0 (.slice none 0 0)).set 1 (.int .i64 0), (H1.out.bl.setCell (p := ⟨w.heap.size + 1, 0, none⟩) H1.out.hk (.slice none 0 0)).setCell (p := ⟨w.heap.size + 1, 1, none⟩) H1.out.hk (.int .i64 0)⟩
  clear H1 h0 HR hS hT HN
  go_wp2
  generalize (w1.setCell ⟨w.heap.size + 1, 0, none⟩ (.slice none 0 0)).setCell ⟨w.heap.size + 1, 1, none⟩ (.int .i64 0) = W9 at HB ⊢
  have g0 : W9.cell? ⟨w.heap.size + 1, 0, none⟩ = some (.slice none 0 0) := HB.out.1.cell 0
  have g1 : W9.cell? ⟨w.heap.size + 1, 1, none⟩ = some (.int .i64 0) := HB.out.1.cell 1
  refine bodyPost_ret (v := .tuple #[gv none 0 0 0, .int .i64 1]) (by simp [results, Tryz.results20, go_sem, g0, g1]) rfl ?_
  exact ⟨by rw [if_neg (by decide)], HB.out.2⟩
 ·obtain ⟨f1, f2, f3⟩ := rgG_facts hq
  rw [← HLn.out] at f1 f2 f3
  obtain ⟨m, rfl, hm⟩ := isP_nat f2
  have hsum := (hS (by have := HLn.out; omega)).2
  rw [Int.toNat_natCast]
  rw [hq] at HR
  have HW : Hid (∀ w', Hid (CaS w w' w.heap.size (w.heap.size + 1) (.slice ad len cap) (.int .i64 (m : Int))) → Calls Tryz.prog 31 #[gv ad len cap (m : Int)] w' fun e w'' => ∃ K C, e = .returned (.pointer (some ⟨K, 0, none⟩)) ∧ Hid (WkS w' w'' K C (.slice ad len cap) len (odG ns m) (dpG ns m)) ∧ Hid (CaS w w'' w.heap.size (w.heap.size + 1) (.slice ad len cap) (.int .i64 (m : Int)))) :=
   fun w' h => walk_graph f1 (hN.later h.out.bl (Nat.le_refl _)) hm f3 hsum (fun K C w'' hw => ⟨K, C, rfl, hw, h.out.later hw.bl⟩)
  have HG : Hid (∀ w' w'' K C, Hid (CaS w w' w.heap.size (w.heap.size + 1) (.slice ad len cap) (.int .i64 (m : Int))) → Hid (WkS w' w'' K C (.slice ad len cap) len (odG ns m) (dpG ns m)) → Hid (CaS w w'' w.heap.size (w.heap.size + 1) (.slice ad len cap) (.int .i64 (m : Int))) → Calls Tryz.prog 42 #[.pointer (some ⟨K, 0, none⟩)] w'' fun e w3 => ∃ ad' len' cap', e = .returned (gv ad' len' cap' 0) ∧ Hid (GrP (w.heap.size + 1 + 1) w3 (gv ad' len' cap' 0) ⟨cnN ns (odG ns m), 0⟩) ∧ Hid (CaS w w3 w.heap.size (w.heap.size + 1) (.slice ad len cap) (.int .i64 (m : Int))) ∧ w3.cell? ⟨w.heap.size + 1, 0, none⟩ = some (.slice none 0 0) ∧ w3.cell? ⟨w.heap.size + 1, 1, none⟩ = some (.int .i64 0) ∧ w3.frozen? ⟨w.heap.size + 1, 0, none⟩ = false ∧ w3.frozen? ⟨w.heap.size + 1, 1, none⟩ = false) :=
   fun w' w'' K C h hw h2 => (graph_of f1 (hN.later h.out.bl (Nat.le_refl _)) hm f3 hsum hw.out).mono (fun e w3 ⟨⟨ad', len', cap', he, hg⟩, hb⟩ => ⟨ad', len', cap', he, hg.mono (by have := h2.out.r.lt; omega), h2.out.later hb, (h2.out.later hb).r.c2.1, (h2.out.later hb).r.c2.2, (h2.out.later hb).r.fz 0, (h2.out.later hb).r.fz 1⟩)
  clear hS hT f1 f2 f3 hsum hN
  go_enter Tryz.func20, Tryz.ntmps20
  go_wp2_with fail
  generalize (w.alloc (.cells #[.slice ad len cap, .int .i64 (m : Int)] 30)).alloc (.cells #[.slice none 0 0, .int .i64 0] 30) = W0 at h0 ⊢
  refine (HR.out _ h0).mono ?_
  rintro e w1 ⟨rfl, H1⟩
  obtain ⟨c0, c1⟩ := H1.out.g.c2
  go_wp2_with (first | (go_at_call 31; refine (HW.out _ H1).mono ?_; rintro e w2 ⟨K, C, rfl, H2, H3⟩) | (go_at_call 42; refine (HG.out _ _ _ _ H1 H2 H3).mono ?_; rintro e w3 ⟨ad', len', cap', rfl, H4, H5, d0, d1, z0, z1⟩))
  have HB : Hid (_ ∧ _ ∧ _) := ⟨(H5.out.r.set 0 (.slice ad' len' cap')).set 1 (.int .i64 0), (H5.out.bl.setCell (p := ⟨w.heap.size + 1, 0, none⟩) H5.out.hk (.slice ad' len' cap')).setCell (p := ⟨w.heap.size + 1, 1, none⟩) H5.out.hk (.int .i64 0), (H4.out.set (i := 0) (u := .slice ad' len' cap') (K := w.heap.size + 1) (by omega)).set (i := 1) (u := .int .i64 0) (K := w.heap.size + 1) (by omega)⟩
  generalize (w3.setCell ⟨w.heap.size + 1, 0, none⟩ (.slice ad' len' cap')).setCell ⟨w.heap.size + 1, 1, none⟩ (.int .i64 0) = W9 at HB ⊢
  have g0 : W9.cell? ⟨w.heap.size + 1, 0, none⟩ = some (.slice ad' len' cap') := HB.out.1.cell 0
  have g1 : W9.cell? ⟨w.heap.size + 1, 1, none⟩ = some (.int .i64 0) := HB.out.1.cell 1
  refine bodyPost_ret (v := .tuple #[gv ad' len' cap' 0, .int .i64 0]) (by simp [results, Tryz.results20, go_sem, g0, g1]) rfl ?_
  exact ⟨by rw [if_pos rfl]; exact ⟨_, rfl, HB.out.2.2.mono (by omega)⟩, HB.out.2.1⟩
theorem canon_any {w : World} {v : Value} {g : Gr} (h : GrV w v g) (hS : Sml g.nodes) (hT : Tb w) : Calls Tryz.prog 20 #[v] w (GRes w (rgG g) 1 ⟨cnN g.nodes (odG g.nodes g.root.toNat), 0⟩) := by
 obtain ⟨ad, len, cap, rfl, h1, h2, h3, h4⟩ := h
 have : maxLen = 9223372036854775807 := rfl
 exact canon_core (by omega) h4 hS hT
end Go.Proofs.YtfohbiohleekbaaGreatDoor.Grp
end

section
/- . -/
namespace Go.Proofs.YtfohbiohleekbaaGreatDoor.Grp
open Utf Rws Pln Flw
open Go.RowKit
set_option linter.unusedSimpArgs false
set_option linter.unusedVariables false
set_option maxRecDepth 100000
set_option maxHeartbeats 4000000
theorem WkS.ord {w0 W : World} {K C : Nat} {nsl : Value} {len : Nat} {out : List Nat} {m : Nat} (h : WkS w0 W K C nsl len out m) (hl : ∀ a ∈ out, a < len) (hn : len ≤ 4096) : ∃ ad cap, W.cell? ⟨K, 1, none⟩ = some (.slice ad out.length cap) ∧ IAt W ad out.length (out.map fun a : Nat => (a : Int)) := by
 obtain ⟨ov, hb, ho⟩ := h.s
 obtain ⟨ad, cap, rfl⟩ := own_shape ho
 rw [map_nat] at ho
 exact ⟨ad, cap, hb.cell 1, (iat_own ho (fun a ha => by obtain ⟨x, hx, rfl⟩ := List.mem_map.1 ha; have := hl x hx; constructor <;> omega)).1.1⟩
end Go.Proofs.YtfohbiohleekbaaGreatDoor.Grp
end
