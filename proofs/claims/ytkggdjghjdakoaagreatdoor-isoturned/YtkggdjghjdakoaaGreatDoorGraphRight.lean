/- Package graph's Right, by its contract. -/
import Derived.Test.YtkggdjghjdakoaaGreatDoorGraphDif
namespace Go.Proofs.YtkggdjghjdakoaaGreatDoor.Grp
open Utf Rws Pln Flw
open Go.RowKit
set_option linter.unusedSimpArgs false
set_option linter.unusedVariables false
set_option maxRecDepth 100000
set_option maxHeartbeats 4000000

def al1 (ns : List Nd) : List Nd → Bool
  | [] => true
  | n :: t => (rAl n.kind n.text && rKd ns n.kind n.kids) && al1 ns t
def al2 (ns : List Nd) : List Nd → Bool
  | [] => true
  | n :: t => dif ((kys n.kind 0 n.kids).map (kp ns)) && al2 ns t
theorem al1_at (ns ms : List Nd) (j : Nat) (h : j < ms.length) : al1 ns (ms.drop j) = ((rAl (ms.getD j nd0).kind (ms.getD j nd0).text && rKd ns (ms.getD j nd0).kind (ms.getD j nd0).kids) && al1 ns (ms.drop (j + 1))) := by
  rw [List.drop_eq_getElem_cons h, List.getD_eq_getElem?_getD, List.getElem?_eq_getElem h]
  rfl
theorem al2_at (ns ms : List Nd) (j : Nat) (h : j < ms.length) : al2 ns (ms.drop j) = (dif ((kys (ms.getD j nd0).kind 0 (ms.getD j nd0).kids).map (kp ns)) && al2 ns (ms.drop (j + 1))) := by
  rw [List.drop_eq_getElem_cons h, List.getD_eq_getElem?_getD, List.getElem?_eq_getElem h]
  rfl
theorem al1_all (ns : List Nd) : ∀ ms : List Nd, al1 ns ms = true → ∀ n ∈ ms, rAl n.kind n.text = true ∧ rKd ns n.kind n.kids = true
  | [], _, n, hn => absurd hn (by simp)
  | m :: t, h, n, hn => by
    rw [al1, Bool.and_eq_true, Bool.and_eq_true] at h
    rcases List.mem_cons.1 hn with rfl | hn
    · exact h.1
    · exact al1_all ns t h.2 n hn
theorem kdOk_all (ns : List Nd) (k : Int) : ∀ (i : Nat) (l : List Int), kdOk ns k i l = true → ∀ a ∈ l, isP ns.length a = true
  | _, [], _, a, ha => absurd ha (by simp)
  | i, b :: t, h, a, ha => by
    rw [kdOk, Bool.and_eq_true, Bool.and_eq_true] at h
    rcases List.mem_cons.1 ha with rfl | ha
    · exact h.1.1
    · exact kdOk_all ns k (i + 1) t h.2 a ha
theorem rKd_all {ns : List Nd} {k : Int} {l : List Int} (h : rKd ns k l = true) : ∀ a ∈ l, isP ns.length a = true := by
  rw [rKd, Bool.and_eq_true] at h
  exact kdOk_all ns k 0 l h.2
/-- may a graph be? -/
def rgG (g : Gr) : Bool := decide (g.nodes.length ≤ 4096) && isP g.nodes.length g.root && al1 g.nodes g.nodes && kNe (timN (bump (fun _ => 0) g.root.toNat) g.nodes) g.nodes && al2 g.nodes g.nodes
/-- not too large for the model -/
def Sml (ns : List Nd) : Prop := ns.length ≤ 4096 → (∀ n ∈ ns, n.text.length ≤ 2147483648) ∧ sumK ns ≤ 1000000000
theorem kids_sum {ns : List Nd} {n : Nd} (h : n ∈ ns) : n.kids.length ≤ sumK ns := by
  induction ns with
  | nil => cases h
  | cons m t ih =>
    have e : sumK (m :: t) = m.kids.length + sumK t := by simp [sumK]
    rcases List.mem_cons.1 h with rfl | h
    · omega
    · have := ih h; omega
structure RS (w W : World) (K0 : Nat) (g0 g1 : Value) : Prop where
  g : Bx W K0 #[g0, g1] 24
  bl : Below w.heap.size w W
theorem RS.later {w W W' : World} {K0 : Nat} {g0 g1 : Value} (h : RS w W K0 g0 g1) (hb : Below W.heap.size W W') : RS w W' K0 g0 g1 := ⟨h.g.later hb, h.bl.trans (hb.mono h.bl.size)⟩
structure RN (w W : World) (K0 KK : Nat) (g0 g1 n0 n1 n2 : Value) : Prop where
  s : RS w W K0 g0 g1
  n : Bx W KK #[n0, n1, n2] 38
theorem RN.later {w W W' : World} {K0 KK : Nat} {g0 g1 n0 n1 n2 : Value} (h : RN w W K0 KK g0 g1 n0 n1 n2) (hb : Below W.heap.size W W') : RN w W' K0 KK g0 g1 n0 n1 n2 := ⟨h.s.later hb, h.n.later hb⟩
theorem right_core {w : World} {ad : Option Addr} {len cap : Nat} {r : Int} {ns : List Nd} (hlen : len ≤ 9223372036854775807) (hN : NAt w ad len ns) (hS : Sml ns) (hT : Tb w) :
    Calls Tryz.prog 9 #[gv ad len cap r] w fun e w' => e = .returned (.bool (rgG ⟨ns, r⟩)) ∧ Below w.heap.size w w' := by
  have HLn : Hid (len = ns.length) := hN.1
  obtain ⟨q, HQ⟩ : ∃ q, Hid (q = (decide (ns.length ≤ 4096) && isP ns.length r && al1 ns ns && kNe (timN (bump (fun _ => 0) r.toNat) ns) ns && al2 ns ns)) := ⟨_, rfl⟩
  rw [show rgG ⟨ns, r⟩ = q from HQ.out.symm]
  rw [← HLn.out] at HQ
  have HN : Hid (NAt w ad len ns) := hN
  have HTb : Hid (Tb w) := hT
  clear hN hT
  have h0 : RS w (w.alloc (.cells #[.slice ad len cap, .int .i64 r] 24)) w.heap.size (.slice ad len cap) (.int .i64 r) := ⟨Bx.new _ _ _, below_alloc _ _⟩
  by_cases hl : 4096 < len
  · have HE : Hid (q = false) := by
      rw [HQ.out, decide_eq_false (show ¬ len ≤ 4096 by omega)]; exact rfl
    have hl' : (4096 : Int) < (len : Int) := by omega
    go_enter Tryz.func9, Tryz.ntmps9
    go_wp2
    go_ret
    exact ⟨by rw [HE.out]; rfl, h0.bl⟩
  have hl' : ¬ (4096 : Int) < (len : Int) := by omega
  have HSm : Hid ((∀ n ∈ ns, n.text.length ≤ 2147483648) ∧ sumK ns ≤ 1000000000) := hS (by have := HLn.out; omega)
  rw [decide_eq_true (show len ≤ 4096 by omega), Bool.true_and] at HQ
  clear hS
  go_enter Tryz.func9, Tryz.ntmps9
  go_wp2_with fail
  generalize w.alloc (.cells #[.slice ad len cap, .int .i64 r] 24) = W0 at h0 ⊢
  generalize w.heap.size = K0 at h0 ⊢
  refine (isPlace_any hlen).mono ?_
  rintro e w1 ⟨rfl, hb1⟩
  have h1 := h0.later hb1
  have HS1 : Hid (RS w w1 K0 (.slice ad len cap) (.int .i64 r)) := h1
  obtain ⟨c0, c1⟩ := h1.g.c2
  clear h0 hb1 h1
  cases hp : isP len r
  · have HE : Hid (q = false) := by rw [HQ.out, hp]; exact rfl
    go_wp2
    go_ret
    exact ⟨by rw [HE.out]; rfl, HS1.out.bl⟩
  rw [hp, Bool.true_and] at HQ
  have HQ0 : Hid (q = (al1 ns (ns.drop 0) && kNe (timN (bump (fun _ => 0) r.toNat) ns) ns && al2 ns ns)) := HQ
  go_wp2_with fail
  clear c0 c1 HQ
  go_loopw [21] (fun i wr => ∃ j : Nat, j ≤ len ∧ i = .int .i64 j ∧ Hid (RS w wr K0 (.slice ad len cap) (.int .i64 r)) ∧ Hid (q = (al1 ns (ns.drop j) && kNe (timN (bump (fun _ => 0) r.toNat) ns) ns && al2 ns ns)) ∧ Hid (∀ i, i < j → rKd ns (ns.getD i nd0).kind (ns.getD i nd0).kids = true)) (fun i _ => len - (intOf i).toNat)
  case atStart => exact ⟨0, Nat.zero_le _, rfl, HS1, HQ0, fun i hi => absurd hi (Nat.not_lt_zero _)⟩
  case round =>
    obtain ⟨j, hj, rfl, HS, HJ, HA⟩ := hrel
    clear HS1 HQ0
    by_cases hlt : j < len
    · have hjl : j < ns.length := by have := HLn.out; omega
      obtain ⟨b, off, rfl, hb, hc⟩ := HN.out.2 (by omega)
      obtain ⟨kad, klen, kcap, hk1, hk2, hk3, _, hI, y0, y1, y2⟩ := hc j hlt
      have HJ2 : Hid (q = (((rAl (ns.getD j nd0).kind (ns.getD j nd0).text && rKd ns (ns.getD j nd0).kind (ns.getD j nd0).kids) && al1 ns (ns.drop (j + 1))) && kNe (timN (bump (fun _ => 0) r.toNat) ns) ns && al2 ns ns)) := by
        rw [HJ.out, al1_at ns ns j hjl]; exact rfl
      have hx : (ns.getD j nd0).text.length ≤ 2147483648 := HSm.out.1 _ (mem_getD hjl)
      have HA2 : Hid (rKd ns (ns.getD j nd0).kind (ns.getD j nd0).kids = true → ∀ i, i < j + 1 → rKd ns (ns.getD i nd0).kind (ns.getD i nd0).kids = true) := fun h i hi => by
        by_cases e : i = j
        · rw [e]; exact h
        · exact HA.out i (by omega)
      clear hjl HJ HA hc
      generalize ns.getD j nd0 = nd at *
      obtain ⟨nk, nx, nl⟩ := nd
      simp only at y0 y1 y2 HJ2 hI hx HA2 hk3
      have x0 := (HS.out.bl.cell (p := ⟨b, off + j * 3, none⟩) hb).trans y0
      have x1 := (HS.out.bl.cell (p := ⟨b, off + j * 3 + 1, none⟩) hb).trans y1
      have x2 := (HS.out.bl.cell (p := ⟨b, off + j * 3 + 2, none⟩) hb).trans y2
      have hkl : klen ≤ 9223372036854775807 := by have : maxLen = 9223372036854775807 := rfl; omega
      have HNN : Hid (RN w (wr.alloc (.cells #[.int .i64 nk, .string (mk nx), .slice kad klen kcap] 38)) K0 wr.heap.size (.slice (some ⟨b, off, none⟩) len cap) (.int .i64 r) (.int .i64 nk) (.string (mk nx)) (.slice kad klen kcap)) := ⟨HS.out.later (below_alloc _ _), Bx.new _ _ _⟩
      have HI : Hid (IAt w kad klen nl) := hI
      clear y0 y1 y2 hI HS
      go_upto_region 6 with fail
      clear x0 x1 x2
      generalize wr.alloc (.cells #[.int .i64 nk, .string (mk nx), .slice kad klen kcap] 38) = W1 at HNN ⊢
      generalize wr.heap.size = KK at HNN ⊢
      obtain ⟨c0, c1⟩ := HNN.out.s.g.c2
      obtain ⟨d0, d1, d2⟩ := HNN.out.n.c3
      have H1 : Hid (Calls Tryz.prog 18 #[nv nk nx kad klen kcap] W1 fun e w' => e = .returned (.bool (rAl nk nx)) ∧ Hid (RN w w' K0 KK (.slice (some ⟨b, off, none⟩) len cap) (.int .i64 r) (.int .i64 nk) (.string (mk nx)) (.slice kad klen kcap)) ∧ w'.cell? ⟨K0, 0, none⟩ = some (.slice (some ⟨b, off, none⟩) len cap) ∧ w'.cell? ⟨K0, 1, none⟩ = some (.int .i64 r) ∧ w'.cell? ⟨KK, 0, none⟩ = some (.int .i64 nk) ∧ w'.cell? ⟨KK, 1, none⟩ = some (.string (mk nx)) ∧ w'.cell? ⟨KK, 2, none⟩ = some (.slice kad klen kcap)) :=
        (alone_any hk3 hx (HTb.out.later HNN.out.s.bl)).mono (fun e w' h => ⟨h.1, HNN.out.later h.2, (HNN.out.later h.2).s.g.c2.1, (HNN.out.later h.2).s.g.c2.2, (HNN.out.later h.2).n.c3⟩)
      have H2 : Hid (∀ w', Hid (RN w w' K0 KK (.slice (some ⟨b, off, none⟩) len cap) (.int .i64 r) (.int .i64 nk) (.string (mk nx)) (.slice kad klen kcap)) → Calls Tryz.prog 19 #[gv (some ⟨b, off, none⟩) len cap r, nv nk nx kad klen kcap] w' fun e w'' => e = .returned (.bool (rKd ns nk nl)) ∧ Hid (RS w w'' K0 (.slice (some ⟨b, off, none⟩) len cap) (.int .i64 r))) :=
        fun w' h => (rightKids_any hlen hkl (HN.out.later h.out.s.bl (Nat.le_refl _)) (HI.out.later h.out.s.bl (Nat.le_refl _))).mono (fun e w'' h' => ⟨h'.1, h.out.s.later h'.2⟩)
      generalize rAl nk nx = q1 at *
      generalize rKd ns nk nl = q2 at *
      cases q1
      · go_wp2_with (go_at_call 18; refine H1.out.mono ?_; rintro e w3 ⟨rfl, H3, e0, e1, e2, e3, e4⟩)
        go_ret
        exact ⟨by rw [HJ2.out]; rfl, H3.out.s.bl⟩
      cases q2
      · go_wp2_with (first | (go_at_call 18; refine H1.out.mono ?_; rintro e w3 ⟨rfl, H3, e0, e1, e2, e3, e4⟩) | (go_at_call 19; refine (H2.out _ H3).mono ?_; rintro e w4 ⟨rfl, H4⟩))
        go_ret
        exact ⟨by rw [HJ2.out]; rfl, H4.out.bl⟩
      · go_wp2_with (first | (go_at_call 18; refine H1.out.mono ?_; rintro e w3 ⟨rfl, H3, e0, e1, e2, e3, e4⟩) | (go_at_call 19; refine (H2.out _ H3).mono ?_; rintro e w4 ⟨rfl, H4⟩))
        go_roundw
        case rel => exact ⟨j + 1, by omega, by go_num, H4, by rw [HJ2.out]; exact rfl, HA2.out (by trivial)⟩
        case measure => simp [intOf]; omega
    · have HJ3 : Hid (q = (kNe (timN (bump (fun _ => 0) r.toNat) ns) ns && al2 ns ns)) := by
        rw [HJ.out, List.drop_of_length_le (by have := HLn.out; omega)]; exact rfl
      have HKI : Hid (∀ n ∈ ns, ∀ a ∈ n.kids, isP len a = true) := fun n hn a ha => by
        obtain ⟨i, hi, e⟩ := List.getElem_of_mem hn
        have h := HA.out i (by have := HLn.out; omega)
        rw [List.getD_eq_getElem?_getD, List.getElem?_eq_getElem hi] at h
        simp only [Option.getD_some, e] at h
        rw [HLn.out]
        exact rKd_all h a ha
      obtain ⟨c0, c1⟩ := HS.out.g.c2
      have H1 : Hid (Calls Tryz.prog 20 #[gv ad len cap r] wr fun e w' => e = .returned (.bool (kNe (timN (bump (fun _ => 0) r.toNat) ns) ns)) ∧ Hid (RS w w' K0 (.slice ad len cap) (.int .i64 r)) ∧ w'.cell? ⟨K0, 0, none⟩ = some (.slice ad len cap) ∧ w'.cell? ⟨K0, 1, none⟩ = some (.int .i64 r)) :=
        (nothing_any (by omega) (HN.out.later HS.out.bl (Nat.le_refl _)) hp HKI.out (by have := HSm.out.2; omega)).mono (fun e w' h => ⟨h.1, HS.out.later h.2, (HS.out.later h.2).g.c2⟩)
      generalize kNe (timN (bump (fun _ => 0) r.toNat) ns) ns = q1 at *
      clear HJ HA
      cases q1
      · go_wp2_with (go_at_call 20; refine H1.out.mono ?_; rintro e w3 ⟨rfl, H3, e0, e1⟩)
        go_ret
        exact ⟨by rw [HJ3.out]; rfl, H3.out.bl⟩
      have HJ4 : Hid (q = al2 ns (ns.drop 0)) := by rw [HJ3.out]; exact rfl
      go_wp2_with (go_at_call 20; refine H1.out.mono ?_; rintro e w3 ⟨rfl, H3, e0, e1⟩)
      clear e0 e1 c0 c1 H1 HJ3 HS
      go_loopw [41] (fun i wr => ∃ j : Nat, j ≤ len ∧ i = .int .i64 j ∧ Hid (RS w wr K0 (.slice ad len cap) (.int .i64 r)) ∧ Hid (q = al2 ns (ns.drop j))) (fun i _ => len - (intOf i).toNat)
      case atStart => exact ⟨0, Nat.zero_le _, rfl, H3, HJ4⟩
      case round =>
        obtain ⟨i, hi, rfl, HS, HJ⟩ := hrel
        clear HJ4
        by_cases hlt2 : i < len
        · have hjl : i < ns.length := by have := HLn.out; omega
          obtain ⟨b, off, rfl, hb, hc⟩ := HN.out.2 (by omega)
          obtain ⟨kad, klen, kcap, hk1, hk2, hk3, _, hI, y0, y1, y2⟩ := hc i hlt2
          have HJ2 : Hid (q = (dif ((kys (ns.getD i nd0).kind 0 (ns.getD i nd0).kids).map (kp ns)) && al2 ns (ns.drop (i + 1)))) := by
            rw [HJ.out, al2_at ns ns i hjl]; exact rfl
          have hkn : (ns.getD i nd0).kids.length ≤ 1000000000 := Nat.le_trans (kids_sum (mem_getD hjl)) HSm.out.2
          have HKJ : Hid (∀ a ∈ (ns.getD i nd0).kids, isP len a = true) := HKI.out _ (mem_getD hjl)
          clear hjl HJ hc
          generalize ns.getD i nd0 = nd at *
          obtain ⟨nk, nx, nl⟩ := nd
          simp only at y0 y1 y2 HJ2 hI hkn HKJ
          have x0 := (HS.out.bl.cell (p := ⟨b, off + i * 3, none⟩) hb).trans y0
          have x1 := (HS.out.bl.cell (p := ⟨b, off + i * 3 + 1, none⟩) hb).trans y1
          have x2 := (HS.out.bl.cell (p := ⟨b, off + i * 3 + 2, none⟩) hb).trans y2
          have hkl : klen ≤ 1000000000 := by have := hI.1; omega
          have HNN : Hid (RN w (wr.alloc (.cells #[.int .i64 nk, .string (mk nx), .slice kad klen kcap] 38)) K0 wr.heap.size (.slice (some ⟨b, off, none⟩) len cap) (.int .i64 r) (.int .i64 nk) (.string (mk nx)) (.slice kad klen kcap)) := ⟨HS.out.later (below_alloc _ _), Bx.new _ _ _⟩
          have HI : Hid (IAt w kad klen nl) := hI
          clear y0 y1 y2 hI HS hkn
          go_upto_region 14 with fail
          clear x0 x1 x2
          generalize wr.alloc (.cells #[.int .i64 nk, .string (mk nx), .slice kad klen kcap] 38) = W1 at HNN ⊢
          generalize wr.heap.size = KK at HNN ⊢
          obtain ⟨c0, c1⟩ := HNN.out.s.g.c2
          obtain ⟨d0, d1, d2⟩ := HNN.out.n.c3
          have H2 : Hid (Calls Tryz.prog 21 #[gv (some ⟨b, off, none⟩) len cap r, nv nk nx kad klen kcap] W1 fun e w'' => e = .returned (.bool (dif ((kys nk 0 nl).map (kp ns)))) ∧ Hid (RS w w'' K0 (.slice (some ⟨b, off, none⟩) len cap) (.int .i64 r))) :=
            (differ_any hlen hkl (HN.out.later HNN.out.s.bl (Nat.le_refl _)) (HI.out.later HNN.out.s.bl (Nat.le_refl _)) HKJ.out).mono (fun e w'' h' => ⟨h'.1, HNN.out.s.later h'.2⟩)
          generalize dif ((kys nk 0 nl).map (kp ns)) = q2 at *
          cases q2
          · go_wp2_with (go_at_call 21; refine H2.out.mono ?_; rintro e w4 ⟨rfl, H4⟩)
            go_ret
            exact ⟨by rw [HJ2.out]; rfl, H4.out.bl⟩
          · go_wp2_with (go_at_call 21; refine H2.out.mono ?_; rintro e w4 ⟨rfl, H4⟩)
            go_roundw
            case rel => exact ⟨i + 1, by omega, by go_num, H4, by rw [HJ2.out]; exact rfl⟩
            case measure => simp [intOf]; omega
        · have HE : Hid (q = true) := by
            rw [HJ.out, List.drop_of_length_le (by have := HLn.out; omega)]; exact rfl
          go_wp2
          go_ret
          exact ⟨by rw [HE.out]; rfl, HS.out.bl⟩
theorem right_gr {w : World} {v : Value} {g : Gr} (h : GrV w v g) (hS : Sml g.nodes) (hT : Tb w) : Calls Tryz.prog 9 #[v] w fun e w' => e = .returned (.bool (rgG g)) ∧ Below w.heap.size w w' := by
  obtain ⟨ad, len, cap, rfl, h1, h2, h3, h4⟩ := h
  have : maxLen = 9223372036854775807 := rfl
  exact right_core (by omega) h4 hS hT
end Go.Proofs.YtkggdjghjdakoaaGreatDoor.Grp
