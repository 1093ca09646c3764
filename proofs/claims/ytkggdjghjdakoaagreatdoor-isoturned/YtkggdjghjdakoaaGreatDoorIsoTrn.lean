/- IsoTurned, the walk. -/
import Derived.Test.YtkggdjghjdakoaaGreatDoorIbF
import Derived.Test.YtkggdjghjdakoaaGreatDoorIbM
import Derived.Test.YtkggdjghjdakoaaGreatDoorIbK
import Derived.Test.YtkggdjghjdakoaaGreatDoorIbIJ
namespace Go.Proofs.YtkggdjghjdakoaaGreatDoor.Alk
open Utf Rws Pln Flw Grp
open Go.RowKit Go.Shelf
set_option linter.unusedSimpArgs false
set_option linter.unusedVariables false
set_option maxRecDepth 100000
set_option maxHeartbeats 8000000
attribute [local go_sem ↓] Go.wp_at_zero Go.wp_at_succ

theorem mv_mod {N s x : Nat} : ((x : Int) + (s : Int)).tmod (N : Int) = ((mvN N s x : Nat) : Int) := by
  unfold mvN
  rw [Int.tmod_eq_emod_of_nonneg (by omega)]
  simp
/-- the new graph's box and its row of nodes, in one order or the other -/
def TnB (W : World) (n : Nat) (m : Value) (i j : Nat) (w' : World) : Prop := NRow w' i n (fun _ => z3v) ∧ Bx w' j #[.slice (some ⟨i, 0, none⟩) n n, m] 24 ∧ Below W.heap.size W w' ∧ W.heap.size ≤ i ∧ W.heap.size ≤ j ∧ j ≠ i ∧ i < W.heap.size + 2 ∧ j < W.heap.size + 2 ∧ w'.heap.size = W.heap.size + 2
theorem cell_one1 (w : World) (a : Value) (t : TypeId) : ∀ j u, [a][j]? = some u → (w.alloc (.cells #[a] t)).cell? ((⟨w.heap.size, 0, none⟩ : Addr).add j) = some u := by
  intro j u hj
  have e : (⟨w.heap.size, 0, none⟩ : Addr).add j = ⟨w.heap.size, j, none⟩ := by simp [Addr.add]; intro h; exact h.symm
  rw [e, World.cell?_alloc_new]
  match j, hj with
  | 0, hj => simpa using hj
/-- two graphs in their boxes at the end -/
structure FnS (w W : World) (K0 K6 : Nat) (a0 a1 b0 b1 : Value) (g h : Gr) : Prop where
  a : Bx W K0 #[a0, a1] 24
  b : Bx W K6 #[b0, b1] 24
  g : GrV W (.agg #[a0, a1]) g
  h : GrV W (.agg #[b0, b1]) h
  bl : Below w.heap.size w W
theorem FnS.later {w W W' : World} {K0 K6 : Nat} {a0 a1 b0 b1 : Value} {g h : Gr} (H : FnS w W K0 K6 a0 a1 b0 b1 g h) (hb : Below W.heap.size W W') : FnS w W' K0 K6 a0 a1 b0 b1 g h := ⟨H.a.later hb, H.b.later hb, H.g.later hb (Nat.le_refl _), H.h.later hb (Nat.le_refl _), H.bl.trans (hb.mono H.bl.size)⟩
theorem tn_a (W : World) (n : Nat) (m : Value) : TnB W n m W.heap.size (W.heap.size + 1) ((W.alloc (.cells (madeCells #[.int .i64 0, .string ⟨#[]⟩, .slice none 0 0] (n * 3)) 38)).alloc (.cells #[.slice (some ⟨W.heap.size, 0, none⟩) n n, m] 24)).drew := by
  have b1 := below_alloc W (.cells (madeCells #[.int .i64 0, .string ⟨#[]⟩, .slice none 0 0] (n * 3)) 38)
  have n1 := NRow.made W n
  have s1 : (W.alloc (.cells (madeCells #[.int .i64 0, .string ⟨#[]⟩, .slice none 0 0] (n * 3)) 38)).heap.size = W.heap.size + 1 := World.size_alloc _ _
  generalize W.alloc (.cells (madeCells #[.int .i64 0, .string ⟨#[]⟩, .slice none 0 0] (n * 3)) 38) = W1 at *
  have b2 := below_alloc W1 (.cells #[.slice (some ⟨W.heap.size, 0, none⟩) n n, m] 24)
  have n2 := Bx.new W1 #[.slice (some ⟨W.heap.size, 0, none⟩) n n, m] 24
  have s2 : (W1.alloc (.cells #[.slice (some ⟨W.heap.size, 0, none⟩) n n, m] 24)).drew.heap.size = W1.heap.size + 1 := World.size_alloc _ _
  have bk := b2.block _ n1.lt
  rw [s1] at n2
  exact ⟨n1.later bk, n2, (b1.trans (b2.mono b1.size)).drew, Nat.le_refl _, by omega, by omega, by omega, by omega, by omega⟩
theorem tn_b (W : World) (n : Nat) (m : Value) : TnB W n m (W.heap.size + 1) W.heap.size ((W.alloc (.cells #[.slice (some ⟨W.heap.size + 1, 0, none⟩) n n, m] 24)).alloc (.cells (madeCells #[.int .i64 0, .string ⟨#[]⟩, .slice none 0 0] (n * 3)) 38)).drew := by
  have b1 := below_alloc W (.cells #[.slice (some ⟨W.heap.size + 1, 0, none⟩) n n, m] 24)
  have n1 := Bx.new W #[.slice (some ⟨W.heap.size + 1, 0, none⟩) n n, m] 24
  have s1 : (W.alloc (.cells #[.slice (some ⟨W.heap.size + 1, 0, none⟩) n n, m] 24)).heap.size = W.heap.size + 1 := World.size_alloc _ _
  generalize W.alloc (.cells #[.slice (some ⟨W.heap.size + 1, 0, none⟩) n n, m] 24) = W1 at *
  have b2 := below_alloc W1 (.cells (madeCells #[.int .i64 0, .string ⟨#[]⟩, .slice none 0 0] (n * 3)) 38)
  have n2 := NRow.made W1 n
  have s2 : (W1.alloc (.cells (madeCells #[.int .i64 0, .string ⟨#[]⟩, .slice none 0 0] (n * 3)) 38)).drew.heap.size = W1.heap.size + 1 := World.size_alloc _ _
  rw [s1] at n2
  have n3 := n1.later b2
  exact ⟨n2, n3, (b1.trans (b2.mono b1.size)).drew, by omega, Nat.le_refl _, by omega, by omega, by omega, by omega⟩
theorem turned_core {w : World} {ad : Option Addr} {len cap : Nat} {r a : Int} {ns : List Nd} (hG : GrV w (gv ad len cap r) ⟨ns, r⟩) (ha : i64 a) (hT : Tb w) :
    Calls Tryz.prog 6 #[gv ad len cap r, .int .i64 a] w fun e w' => e = .returned (.bool true) ∧ Below w.heap.size w w' := by
  have h0 : Hid (AgS w (w.alloc (.cells #[.slice ad len cap, .int .i64 r] 24)) w.heap.size ad len cap r ns) := AgS.new (Below.refl _ _) hG
  have HA : Hid (∀ W, Below w.heap.size w W → Calls Tryz.prog 10 #[] W fun e W' => e = .returned (.bool true) ∧ Hid (Below w.heap.size w W')) := fun W b => (alive_any (hT.later b)).mono (fun e W' q => ⟨q.1, b.trans (q.2.mono b.size)⟩)
  have HLG : Hid (∀ W, Hid (AgS w W w.heap.size ad len cap r ns) → Calls Tryz.prog 8 #[gv ad len cap r] W fun e W' => e = .returned (.bool (lgB ns)) ∧ Hid (AgS w W' w.heap.size ad len cap r ns)) := fun W h => (large_any h.out.g).mono (fun e W' q => ⟨q.1, h.out.later q.2⟩)
  have HL : Hid (len = ns.length) := by obtain ⟨_, _, _, e, _, _, _, hN, _⟩ := hG; cases e; exact hN
  cases hl : lgB ns
  case true =>
    rw [hl] at HLG
    clear hT hG
    go_enter Tryz.func6, Tryz.ntmps6
    go_wp2_with (first | (go_at_call 8; refine (HLG.out _ (by assumption)).mono ?_; rintro e w1 ⟨rfl, H1⟩; obtain ⟨d0, d1⟩ := H1.out.b.c2) | (go_at_call 9; refine (HRG.out _ H1).mono ?_; rintro e w2 ⟨rfl, H2⟩; obtain ⟨d0, d1⟩ := H2.out.b.c2) | (go_at_call 10; refine (HA.out _ (by first | exact H2.out.bl | exact H1.out.bl)).mono ?_; rintro e w9 ⟨rfl, HZ⟩))
    go_ret
    exact ⟨rfl, HZ.out⟩
  case false =>
  have hS := lgB_sml hl
  rw [hl] at HLG
  have HRG : Hid (∀ W, Hid (AgS w W w.heap.size ad len cap r ns) → Calls Tryz.prog 9 #[gv ad len cap r] W fun e W' => e = .returned (.bool (rgG ⟨ns, r⟩)) ∧ Hid (AgS w W' w.heap.size ad len cap r ns)) := fun W h => (right_gr h.out.g hS (hT.later h.out.bl)).mono (fun e W' q => ⟨q.1, h.out.later q.2⟩)
  cases hq : rgG ⟨ns, r⟩
  case false =>
    rw [hq] at HRG
    clear hT hG hq hl hS
    go_enter Tryz.func6, Tryz.ntmps6
    go_wp2_with (first | (go_at_call 8; refine (HLG.out _ (by assumption)).mono ?_; rintro e w1 ⟨rfl, H1⟩; obtain ⟨d0, d1⟩ := H1.out.b.c2) | (go_at_call 9; refine (HRG.out _ H1).mono ?_; rintro e w2 ⟨rfl, H2⟩; obtain ⟨d0, d1⟩ := H2.out.b.c2) | (go_at_call 10; refine (HA.out _ (by first | exact H2.out.bl | exact H1.out.bl)).mono ?_; rintro e w9 ⟨rfl, HZ⟩))
    go_ret
    exact ⟨rfl, HZ.out⟩
  case true =>
  rw [hq] at HRG
  have hcap : len ≤ 4096 := by have := (rgG_facts hq).1; rw [HL.out]; exact this
  obtain ⟨x, rfl, hxl⟩ := isP_nat (rgG_facts hq).2.1
  have hxn : x < len := by rw [HL.out]; exact hxl
  have hlp : 0 < len := by omega
  have hln : (0 : Int) < (len : Int) := by omega
  have hlz : (len : Int) ≠ 0 := by omega
  obtain ⟨s, hs, hsn⟩ : ∃ s : Nat, (wrap64 (a.tmod len + len)).tmod len = (s : Int) ∧ s < len := by
    have t1 : (-(len : Int)) < a.tmod len ∧ a.tmod len < (len : Int) := by
      have h1 := Int.tmod_lt_of_pos a (b := (len : Int)) (by omega)
      have h2 := Int.lt_tmod_of_pos a (b := (len : Int)) (by omega)
      exact ⟨h2, h1⟩
    have e1 : wrap64 (a.tmod len + len) = a.tmod len + len := by unfold wrap64; omega
    rw [e1]
    refine ⟨((a.tmod len + len).tmod len).toNat, ?_, ?_⟩
    · have := Int.tmod_nonneg (a := a.tmod len + len) (len : Int) (by omega)
      omega
    · have h1 := Int.tmod_lt_of_pos (a.tmod len + len) (b := (len : Int)) (by omega)
      have := Int.tmod_nonneg (a := a.tmod len + len) (len : Int) (by omega)
      omega
  obtain ⟨rm, hrm⟩ : ∃ rm : Nat, rm = mvN len s x := ⟨_, rfl⟩
  have hrt : ((x : Int) + (s : Int)).tmod (len : Int) = (rm : Int) := by rw [hrm]; exact mv_mod
  have HRM : Hid (rm = mvN len s x) := hrm
  have hwx : IntKind.i64.wrap ((x : Int) + (s : Int)) = (x : Int) + (s : Int) := by
    have e : ((x + s : Nat) : Int) = (x : Int) + (s : Int) := by omega
    rw [← e]
    exact Utf.wrap_small (x + s) (by omega)
  have hrl : rm < len := by rw [HRM.out]; exact mv_lt hxn
  have hwr2 : IntKind.i64.wrap (rm : Int) = (rm : Int) := Utf.wrap_small rm (by omega)
  have hlz2 : len ≠ 0 := by omega
  obtain ⟨i1, hi1, hy0, hy1, hy2⟩ := info_parts Tryz.infoInt
  obtain ⟨i0, hi, hz0, hz1, hz2⟩ := info_parts Tryz.infoNode
  have hmk := fun w' : World => run_make (P := Tryz.prog) w' 22 38 i0 _ Tryz.underNodes hi hz0 .i64 .i64 (len : Int) (len : Int) (by omega) (by omega) (by rw [hz2]; omega) (by omega)
  rw [hz1] at hmk
  simp only [Int.toNat_natCast, Value.cells] at hmk
  clear hrm
  go_enter Tryz.func6, Tryz.ntmps6
  go_upto_region 4 with (first | (go_at_call 8; refine (HLG.out _ (by assumption)).mono ?_; rintro e w1 ⟨rfl, H1⟩; obtain ⟨d0, d1⟩ := H1.out.b.c2) | (go_at_call 9; refine (HRG.out _ H1).mono ?_; rintro e w2 ⟨rfl, H2⟩; obtain ⟨d0, d1⟩ := H2.out.b.c2) | (go_at_call 10; refine (HA.out _ (by first | exact H2.out.bl | exact H1.out.bl)).mono ?_; rintro e w9 ⟨rfl, HZ⟩))
  go_upto_region 5 with fail
  apply wp_two (I := TnB w2 len (.int .i64 (rm : Int)))
  case h1 =>
    have y1 : w2.cell? ⟨w.heap.size, 1, none⟩ = some (.int .i64 (x : Int)) := d1
    go_region_held3 (fun w' => w'.cell? ⟨w.heap.size, 1, none⟩ = some (.int .i64 (x : Int))) (go_keep) (fail)
    all_goals first | refine ⟨rfl, _, _, ?_, tn_a _ _ _⟩ | refine ⟨rfl, _, _, ?_, tn_b _ _ _⟩
    all_goals
      generalize w2.heap.size + 1 = j
      generalize w2.heap.size = i
      exact rfl
  rintro Nb K6 W3 hTB
  obtain ⟨K0, HK0⟩ : ∃ K0, Hid (K0 = w.heap.size) := ⟨_, rfl⟩
  obtain ⟨B1, HB1⟩ : ∃ B1, Hid (B1 = w2.heap.size + 2) := ⟨_, rfl⟩
  have HO : Hid (OuS w W3 K0 Nb K6 B1 len 0 s (.slice ad len cap) (.int .i64 (x : Int)) (.int .i64 (rm : Int)) ns (fun _ => z3v)) := by
    obtain ⟨t1, t2, t3, t4, t5, t6, t7, t8, t9⟩ := hTB
    have hk := H2.out.b.lt
    have hs2 := H2.out.bl.size
    rw [HK0.out, HB1.out]
    exact OuS.new (H2.out.b.later t3) t2 t1 (H2.out.bl.trans (t3.mono hs2)) (by refine ⟨?_, ?_, ?_, ?_, ?_, ?_, ?_, ?_, ?_⟩ <;> omega)
  rw [← HK0.out]
  have hgn := hG
  obtain ⟨_, _, _, e, hlc, hcm, hr64, hN⟩ := hgn
  cases e
  obtain ⟨b, off, rfl, hb, hc⟩ := hN.2 hlp
  have HCN : Hid (∀ p, p < len → ∃ pad plen pcap, plen ≤ pcap ∧ pcap ≤ maxLen ∧ plen = (ns.getD p nd0).kids.length ∧ i64 (ns.getD p nd0).kind ∧ (ns.getD p nd0).text.length ≤ 9223372036854775807 ∧ (0 < plen → ∃ kb koff, pad = some ⟨kb, koff, none⟩ ∧ ∀ W, Below w.heap.size w W → ∀ i, i < plen → W.cell? ⟨kb, koff + i, none⟩ = some (.int .i64 ((ns.getD p nd0).kids.getD i 0))) ∧ ∀ W, Below w.heap.size w W → W.cell? ⟨b, off + p * 3, none⟩ = some (.int .i64 (ns.getD p nd0).kind) ∧ W.cell? ⟨b, off + p * 3 + 1, none⟩ = some (.string (mk (ns.getD p nd0).text)) ∧ W.cell? ⟨b, off + p * 3 + 2, none⟩ = some (.slice pad plen pcap)) := fun p hp => by
    obtain ⟨pad, plen, pcap, q1, q2, q3, q4, q5, z0, z1, z2⟩ := hc p hp
    refine ⟨pad, plen, pcap, q1, q2, q5.1, q3, q4, fun hpp => ?_, fun W h => ⟨(h.cell (p := ⟨b, off + p * 3, none⟩) hb).trans z0, (h.cell (p := ⟨b, off + p * 3 + 1, none⟩) hb).trans z1, (h.cell (p := ⟨b, off + p * 3 + 2, none⟩) hb).trans z2⟩⟩
    obtain ⟨kb, koff, e, hkb, hkc⟩ := q5.2 hpp
    exact ⟨kb, koff, e, fun W h i hi => (h.cell (p := ⟨kb, koff + i, none⟩) hkb).trans (hkc i hi).2⟩
  have HEV : Hid (∀ p, p < len → (ns.getD p nd0).kind = 6 → (ns.getD p nd0).kids.length % 2 = 0) := fun p hp => rg_evn hq _ (mem_getD (by rw [← HL.out]; exact hp))
  have HKP : Hid (∀ p, p < len → ∀ i, i < (ns.getD p nd0).kids.length → ∃ q : Nat, (ns.getD p nd0).kids.getD i 0 = (q : Int) ∧ q < len) := fun p hp i hi => by
    have hm : (ns.getD p nd0).kids.getD i 0 ∈ (ns.getD p nd0).kids := mem_getI hi
    obtain ⟨q, e, hq2⟩ := isP_nat ((rgG_facts hq).2.2 _ (mem_getD (by rw [← HL.out]; exact hp)) _ hm)
    exact ⟨q, e, by rw [HL.out]; exact hq2⟩
  have HKS : Hid (∀ p, p < len → (ns.getD p nd0).kids.length ≤ 1000000000) := fun p hp => by
    have h1 := (hS (rgG_facts hq).1).2
    have h2 := kids_sum (mem_getD (by rw [← HL.out]; exact hp) : ns.getD p nd0 ∈ ns)
    show _ ≤ _
    omega
  have HHG : Hid (GrV w (gv (some ⟨b, off, none⟩) len cap (x : Int)) ⟨ns, (x : Int)⟩ ∧ Sml ns ∧ Tb w ∧ rgG ⟨ns, (x : Int)⟩ = true) := ⟨hG, hS, hT, hq⟩
  clear hTB HB1 hc hN hq hS hT hG hl HLG HRG H1 H2 h0 hmk hwx hwr2 hi hz0 hz1 hz2 d0 d1
  obtain ⟨d0, d1⟩ := HO.out.g.c2
  go_wp2_with fail
  go_loopw [47] (fun i wr => ∃ (n : Nat) (vals : Nat → V3), n ≤ len ∧ i = .int .i64 (n : Int) ∧ Hid (OuS w wr K0 Nb K6 B1 len n s (.slice (some ⟨b, off, none⟩) len cap) (.int .i64 (x : Int)) (.int .i64 (rm : Int)) ns vals)) (fun i _ => len - (intOf i).toNat)
  case atStart => exact ⟨0, _, Nat.zero_le _, rfl, HO⟩
  case round =>
    obtain ⟨n, vals, hn, rfl, HS⟩ := hrel
    clear HO d0 d1
    by_cases hlt : n < len
    · have hlt2 : (n : Int) < (len : Int) := by omega
      obtain ⟨kad, klen, kcap, k1, k2, k3, k4, k5, k6, k7⟩ := HCN.out n hlt
      have HEv := HEV.out n hlt
      have HKp := HKP.out n hlt
      have HKs := HKS.out n hlt
      obtain ⟨kk, hkk⟩ : ∃ kk, kk = (ns.getD n nd0).kind := ⟨_, rfl⟩
      obtain ⟨kx, hkx⟩ : ∃ kx, kx = (ns.getD n nd0).text := ⟨_, rfl⟩
      obtain ⟨l, hl2⟩ : ∃ l, l = (ns.getD n nd0).kids := ⟨_, rfl⟩
      have Hkk : Hid (kk = (ns.getD n nd0).kind) := hkk
      have Hkx : Hid (kx = (ns.getD n nd0).text) := hkx
      have Hl : Hid (l = (ns.getD n nd0).kids) := hl2
      rw [← hkk, ← hkx] at k7
      rw [← hkk] at k4 HEv
      rw [← hl2] at k3 k6 HEv HKp HKs
      clear hkk hkx hl2 k5
      have HKL : Hid (klen = l.length) := k3
      have H6 : Hid (0 < klen → ∃ kb koff, kad = some ⟨kb, koff, none⟩ ∧ ∀ W, Below w.heap.size w W → ∀ i, i < klen → W.cell? ⟨kb, koff + i, none⟩ = some (.int .i64 (l.getD i 0))) := k6
      have H7 : Hid (∀ W, Below w.heap.size w W → W.cell? ⟨b, off + n * 3, none⟩ = some (.int .i64 kk) ∧ W.cell? ⟨b, off + n * 3 + 1, none⟩ = some (.string (mk kx)) ∧ W.cell? ⟨b, off + n * 3 + 2, none⟩ = some (.slice kad klen kcap)) := k7
      have H8 : Hid ((kk = 6 → l.length % 2 = 0) ∧ (∀ i, i < l.length → ∃ q : Nat, l.getD i 0 = (q : Int) ∧ q < len)) := ⟨HEv, HKp⟩
      have hks : klen ≤ 1000000000 := by rw [HKL.out]; exact HKs
      clear k3 k6 k7 HEv HKp HKs
      obtain ⟨z0, z1, z2⟩ := H7.out wr HS.out.bl
      go_upto_region 9 with fail
      have HX : Hid (OuS w (wr.alloc (.cells #[.int .i64 kk, .string (mk kx), .slice kad klen kcap] 38)) K0 Nb K6 B1 len n s (.slice (some ⟨b, off, none⟩) len cap) (.int .i64 (x : Int)) (.int .i64 (rm : Int)) ns vals ∧ Bx (wr.alloc (.cells #[.int .i64 kk, .string (mk kx), .slice kad klen kcap] 38)) wr.heap.size #[.int .i64 kk, .string (mk kx), .slice kad klen kcap] 38) := ⟨HS.out.later (below_alloc _ _), Bx.new _ _ _⟩
      clear z0 z1 z2 HS
      generalize wr.alloc (.cells #[.int .i64 kk, .string (mk kx), .slice kad klen kcap] 38) = W4 at HX ⊢
      generalize wr.heap.size = K8 at HX ⊢
      obtain ⟨g0, g1, g2⟩ := HX.out.2.c3
      go_upto_region 10 with fail
      obtain ⟨K9, HK9⟩ : ∃ K9, Hid (K9 = W4.heap.size) := ⟨_, rfl⟩
      have HI : Hid (InS W4 (W4.alloc (.cells #[.int .i64 kk, .string (mk kx), .slice none 0 0] 38)) K9 (.int .i64 kk) (.string (mk kx)) (.slice none 0 0) 0 []) := by rw [HK9.out]; exact InS.new W4 _ _
      rw [← HK9.out]
      clear g0 g1 g2
      generalize W4.alloc (.cells #[.int .i64 kk, .string (mk kx), .slice none 0 0] 38) = W5 at HI ⊢
      have HX5 : Hid (∀ W, Below K9 W4 W → W.cell? ⟨K8, 0, none⟩ = some (.int .i64 kk) ∧ W.cell? ⟨K8, 1, none⟩ = some (.string (mk kx)) ∧ W.cell? ⟨K8, 2, none⟩ = some (.slice kad klen kcap) ∧ Below w.heap.size w W) := fun W h => by
        rw [HK9.out] at h
        have h8 := HX.out.2.later h
        exact ⟨h8.cell 0, h8.cell 1, h8.cell 2, (HX.out.1.later h).bl⟩
      obtain ⟨TK, HTK⟩ : ∃ TK, Hid (TK = (tnK kk l).map (mvI len s)) := ⟨_, rfl⟩
      have HTL : Hid (TK.length = klen ∧ ∀ j, j < klen → ∃ q : Nat, q < len ∧ l.getD (tnJ kk klen j) 0 = (q : Int) ∧ tnJ kk klen j < klen ∧ TK.getD j 0 = ((mvN len s q : Nat) : Int)) := by
        have hl1 : (tnK kk l).length = l.length := tnK_len H8.out.1
        refine ⟨by rw [HTK.out, List.length_map, hl1, HKL.out], fun j hj => ?_⟩
        rw [HKL.out] at hj ⊢
        obtain ⟨e1, e2⟩ := tnK_at H8.out.1 hj
        obtain ⟨q, e3, e4⟩ := H8.out.2 _ e1
        refine ⟨q, e4, e3, e1, ?_⟩
        rw [HTK.out, getD_map (mvI len s) _ j 0 0 (by rw [hl1]; exact hj), e2, e3]
        unfold mvI
        rw [Int.toNat_natCast]
      obtain ⟨g0, g1, g2, _⟩ := HX5.out W5 HI.out.bl
      go_wp2_with fail
      go_loopw [60] (fun k wi => ∃ (j : Nat) (yad : Option Addr) (yc : Nat), j ≤ klen ∧ k = .int .i64 (j : Int) ∧ Hid (InS W4 wi K9 (.int .i64 kk) (.string (mk kx)) (.slice yad j yc) j (TK.take j))) (fun k _ => klen - (intOf k).toNat)
      case atStart => exact ⟨0, none, 0, Nat.zero_le _, rfl, HI⟩
      case round =>
        obtain ⟨j, yad, yc, hj, rfl, HJ⟩ := hrel
        clear g0 g1 g2 HI
        obtain ⟨g0, g1, g2, hbw⟩ := HX5.out _ HJ.out.bl
        obtain ⟨f0, f1, f2⟩ := HJ.out.y.c3
        by_cases hjl : j < klen
        · have hjl2 : (j : Int) < (klen : Int) := by omega
          obtain ⟨kb, koff, rfl, hkc⟩ := H6.out (by omega)
          obtain ⟨q, hq1, hq2, hq3, hq4⟩ := HTL.out.2 j hjl
          have x0 := hkc _ hbw (tnJ kk klen j) hq3
          rw [hq2] at x0
          obtain ⟨J, hJ⟩ : ∃ J, J = tnJ kk klen j := ⟨_, rfl⟩
          rw [← hJ] at x0 hq2 hq3
          have hJ0 : (0 : Int) ≤ (J : Int) := by omega
          have hJ1 : (J : Int) < (klen : Int) := by omega
          obtain ⟨m, hm⟩ : ∃ m, m = mvN len s q := ⟨_, rfl⟩
          have hml : m < len := by rw [hm]; exact mv_lt hq1
          have hwq : IntKind.i64.wrap ((q : Int) + (s : Int)) = (q : Int) + (s : Int) := by
            have e : ((q + s : Nat) : Int) = (q : Int) + (s : Int) := by omega
            rw [← e]
            exact Utf.wrap_small (q + s) (by omega)
          have hrq : ((q : Int) + (s : Int)).tmod (len : Int) = (m : Int) := by rw [hm]; exact mv_mod
          rw [← hm] at hq4
          have HTJ : Hid (TK.take (j + 1) = TK.take j ++ [(m : Int)]) := by
            have hlT := HTL.out.1
            show _ = _
            rw [List.take_succ_eq_append_getElem (by omega)]
            rw [List.getD_eq_getElem?_getD, List.getElem?_eq_getElem (by omega)] at hq4
            simp only [Option.getD_some] at hq4
            rw [hq4]
          have HOW : Hid (wr.ownsRow (K9 + 1) 3 1 (.slice yad j yc) j ((TK.take j).map fun a => Value.int .i64 a)) := HJ.out.own
          have hk9 : K9 < wr.heap.size := HJ.out.y.lt
          have hwj : Hid (J = tnJ kk klen j) := hJ
          clear hm hq4 hq2 hJ HTL hkc
          by_cases h6 : kk = 6
          case' pos =>
            subst h6
            have hJe : (klen : Int) - 2 - (j : Int) / 2 * 2 + (j : Int) % 2 = (J : Int) := by
              have := hwj.out
              unfold tnJ at this
              rw [if_pos rfl] at this
              have he := H8.out.1 rfl
              rw [← HKL.out] at he
              omega
            clear hwj
            go_upto_region 16 with fail
          case' neg =>
            have hk6 : (kk == 6) = false := by simp [h6]
            have hJe : j = J := by
              have := hwj.out
              unfold tnJ at this
              rw [if_neg h6] at this
              exact this.symm
            clear hwj
            subst hJe
            go_upto_region 16 with fail
          all_goals
            go_region_law (refine step_append_at rfl (.tmp 79) (.tmp 89) 30 rfl (K9 + 1) 3 i1 (.int .i64 0) 1 8 Tryz.underInts hi1 hy0 hy1 hy2 rfl (by decide) (.slice yad j yc) j ((TK.take j).map fun a => Value.int .i64 a) (by simp [Act.eval, Act.put]) (show World.ownsRow _ _ _ _ _ _ _ from (HOW.out.alloc (.cells #[.int .i64 (m : Int)] 3))) ⟨wr.heap.size, 0, none⟩ 1 1 [.int .i64 (m : Int)] (by simp [Act.eval, Act.put]) rfl (cell_one1 wr _ _) (fun u hu => by simp only [List.mem_cons, List.not_mem_nil, or_false] at hu; subst hu; rfl) (by unfold maxLen; omega) (by omega) (Nat.le_trans (by omega : K9 + 1 ≤ wr.heap.size + 1) (Nat.le_of_eq (World.size_alloc wr (.cells #[.int .i64 (m : Int)] 3)).symm)) ?_; intro ev eW r1 r2 r3; have HY := HJ.out.step HK9.out.symm r1 r2; obtain ⟨va, vc, rfl, _, _⟩ := own_shapeN r1; have e2 : eW.cell? ⟨K9, 2, none⟩ = some (.slice yad j yc) := HY.1.cell 2; have ez2 : eW.frozen? ⟨K9, 2, none⟩ = false := HY.1.fz 2)
            all_goals
              have HY3 := HY.2
              rw [← HTJ.out] at HY3
              have HY2 : Hid _ := HY3
              clear HY3
              clear HY r1 r2 r3 e2 ez2 HOW HJ HTJ f0 f1 f2 g0 g1 g2 x0
              generalize eW.setCell ⟨K9, 2, none⟩ (.slice va (j + 1) vc) = W8 at HY2 ⊢
              go_wp2_with fail
              go_roundw
              case rel => exact ⟨j + 1, va, vc, by omega, by go_num, HY2⟩
              case measure => simp [intOf]; omega
        · have hje : j = klen := by omega
          subst hje
          have hmn : mvN len s n < len := mv_lt hlt
          obtain ⟨M, hM⟩ : ∃ M, M = mvN len s n := ⟨_, rfl⟩
          rw [← hM] at hmn
          have hwn : IntKind.i64.wrap ((n : Int) + (s : Int)) = (n : Int) + (s : Int) := by
            have e : ((n + s : Nat) : Int) = (n : Int) + (s : Int) := by omega
            rw [← e]
            exact Utf.wrap_small (n + s) (by omega)
          have hrn : ((n : Int) + (s : Int)).tmod (len : Int) = (M : Int) := by rw [hM]; exact mv_mod
          have hM0 : (0 : Int) ≤ (M : Int) := by omega
          have hM1 : (M : Int) < (len : Int) := by omega
          have HOX : Hid (OuS w wr K0 Nb K6 B1 len n s (.slice (some ⟨b, off, none⟩) len cap) (.int .i64 (x : Int)) (.int .i64 (rm : Int)) ns vals) := HX.out.1.later (by rw [← HK9.out]; exact HJ.out.bl)
          have HYI : Hid (IAtB B1 wr yad j (tnN len s (ns.getD n nd0)).kids ∧ j ≤ yc ∧ yc ≤ maxLen) := by
            have hTl : TK.take j = TK := List.take_of_length_le (by rw [HTL.out.1]; exact Nat.le_refl _)
            have ho := HJ.out.own
            rw [hTl] at ho
            obtain ⟨i1', i2', i3'⟩ := iat_own ho (fun a ha => by
              rw [HTK.out] at ha
              obtain ⟨c, hc, rfl⟩ := List.mem_map.1 ha
              obtain ⟨i, hi, rfl⟩ := List.getElem_of_mem ((tnK_perm H8.out.1).mem_iff.1 hc)
              obtain ⟨q, e, hq⟩ := H8.out.2 i hi
              rw [List.getD_eq_getElem?_getD, List.getElem?_eq_getElem hi] at e
              simp only [Option.getD_some] at e
              rw [e]
              unfold mvI
              rw [Int.toNat_natCast]
              have := mv_lt (s := s) hq
              constructor <;> omega)
            refine ⟨?_, i2', i3'⟩
            have e : (tnN len s (ns.getD n nd0)).kids = TK := by rw [HTK.out, Hkk.out, Hl.out]; rfl
            rw [e]
            refine IAtB.mono i1' ?_
            have := HX.out.1.hb
            have := HK9.out
            omega
          obtain ⟨c0, c1, c2⟩ := HOX.out.row.cells hmn
          have z0 := HOX.out.row.fz (M * 3)
          have z1 := HOX.out.row.fz (M * 3 + 1)
          have z2 := HOX.out.row.fz (M * 3 + 2)
          obtain ⟨q0, q1⟩ := HOX.out.h.c2
          have HP : Hid (OuS w (((wr.setCell ⟨Nb, M * 3, none⟩ (.int .i64 kk)).setCell ⟨Nb, M * 3 + 1, none⟩ (.string (mk kx))).setCell ⟨Nb, M * 3 + 2, none⟩ (.slice yad j yc)).drew K0 Nb K6 B1 len (n + 1) s (.slice (some ⟨b, off, none⟩) len cap) (.int .i64 (x : Int)) (.int .i64 (rm : Int)) ns (fun x => if x = M then (.int .i64 kk, .string (mk kx), .slice yad j yc) else vals x)) := by
            have h1 := ous_put HOX.out hsn hlt hM HYI.out.2 HYI.out.1
            rw [← Hkk.out, ← Hkx.out] at h1
            exact h1.later (Below.refl _ _).drew
          clear HCN HEV HKP HKS HHG HTL HTK HJ HX HX5 HOX HYI H6 H7 H8 Hkk Hkx Hl g0 g1 g2 hM
          go_upto_region 18 with fail
          go_region
          go_wp2_with fail
          go_roundw
          case rel => exact ⟨n + 1, _, by omega, by go_num, HP⟩
          case measure => simp [intOf]; omega
    · have hne : n = len := by omega
      subst hne
      have HG2 : GrV wr (gv (some ⟨Nb, 0, none⟩) n n (rm : Int)) ⟨trn ns s, (rm : Int)⟩ := HS.out.done hsn HL.out hcap (by constructor <;> omega) (fun a ha => by
        obtain ⟨_, _, _, _, _, _, q1, q2, _⟩ := HCN.out a ha
        exact ⟨q1, q2⟩)
      obtain ⟨hG, hSm, hT, hq⟩ := HHG.out
      have HF : Hid (FnS w wr K0 K6 (.slice (some ⟨b, off, none⟩) n cap) (.int .i64 (x : Int)) (.slice (some ⟨Nb, 0, none⟩) n n) (.int .i64 (rm : Int)) ⟨ns, (x : Int)⟩ ⟨trn ns s, (rm : Int)⟩) := ⟨HS.out.g, HS.out.h, hG.later HS.out.bl (Nat.le_refl _), HG2, HS.out.bl⟩
      have hsn2 : s < ns.length := by rw [← HL.out]; exact hsn
      have hq2 : rgG ⟨trn ns s, (rm : Int)⟩ = true := by rw [HRM.out, HL.out]; exact rg_trn hsn2 hq
      have hSm2 : Sml (trn ns s) := sml_trn (rg_evn hq) hSm
      have hlk : LkP (lab (ris ns)) (lab (ris (trn ns s))) (kd (ris ns)) (kd (ris (trn ns s))) x rm := by rw [HRM.out, HL.out]; exact lk_trn hsn2 hq hxl
      have hcn : cnN (ris (trn ns s)) (odG (ris (trn ns s)) rm) = cnN (ris ns) (odG (ris ns) x) := by
        have f1 := rgG_facts (rg_ris hq)
        have f2 := rgG_facts (rg_ris hq2)
        exact ((lk_cn f1.2.2 f2.2.2 (by rw [ris_len]; exact hxl) (by rw [ris_len, trn_len, ← HL.out]; exact hrl)).1 hlk).symm
      obtain ⟨sG, hsG⟩ : ∃ sG : Gr, sG = ⟨cnN (ris ns) (odG (ris ns) x), 0⟩ := ⟨_, rfl⟩
      have HS1 : Hid (∀ W, Hid (FnS w W K0 K6 (.slice (some ⟨b, off, none⟩) n cap) (.int .i64 (x : Int)) (.slice (some ⟨Nb, 0, none⟩) n n) (.int .i64 (rm : Int)) ⟨ns, (x : Int)⟩ ⟨trn ns s, (rm : Int)⟩) → Calls Tryz.prog 14 #[gv (some ⟨b, off, none⟩) n cap (x : Int)] W fun e W' => ∃ ad' ln' cp', e = .returned (.tuple #[gv ad' ln' cp' 0, .int .i64 0]) ∧ Hid (GrV W' (gv ad' ln' cp' 0) sG ∧ Below W.heap.size W W')) := fun W h => by
        refine (sorted_any h.out.g hSm (hT.later h.out.bl)).mono ?_
        rintro e W' ⟨q1, q2⟩
        rw [hq, if_pos rfl] at q1
        obtain ⟨v, rfl, q3⟩ := q1
        simp only [Int.toNat_natCast] at q3
        rw [← hsG] at q3
        have q4 := q3.v
        obtain ⟨ad, len, cap, rfl, _⟩ := q3.v
        rw [hsG] at q4 ⊢
        exact ⟨ad, len, cap, rfl, q4, q2⟩
      have HS2 : Hid (∀ W, Hid (FnS w W K0 K6 (.slice (some ⟨b, off, none⟩) n cap) (.int .i64 (x : Int)) (.slice (some ⟨Nb, 0, none⟩) n n) (.int .i64 (rm : Int)) ⟨ns, (x : Int)⟩ ⟨trn ns s, (rm : Int)⟩) → Calls Tryz.prog 14 #[gv (some ⟨Nb, 0, none⟩) n n (rm : Int)] W fun e W' => ∃ ad' ln' cp', e = .returned (.tuple #[gv ad' ln' cp' 0, .int .i64 0]) ∧ Hid (GrV W' (gv ad' ln' cp' 0) sG ∧ Below W.heap.size W W')) := fun W h => by
        refine (sorted_any h.out.h hSm2 (hT.later h.out.bl)).mono ?_
        rintro e W' ⟨q1, q2⟩
        rw [hq2, if_pos rfl] at q1
        obtain ⟨v, rfl, q3⟩ := q1
        simp only [Int.toNat_natCast] at q3
        rw [hcn, ← hsG] at q3
        have q4 := q3.v
        obtain ⟨ad, len, cap, rfl, _⟩ := q3.v
        rw [hsG] at q4 ⊢
        exact ⟨ad, len, cap, rfl, q4, q2⟩
      have HAL : Hid (∀ W, Hid (FnS w W K0 K6 (.slice (some ⟨b, off, none⟩) n cap) (.int .i64 (x : Int)) (.slice (some ⟨Nb, 0, none⟩) n n) (.int .i64 (rm : Int)) ⟨ns, (x : Int)⟩ ⟨trn ns s, (rm : Int)⟩) → Calls Tryz.prog 11 #[gv (some ⟨b, off, none⟩) n cap (x : Int), gv (some ⟨Nb, 0, none⟩) n n (rm : Int)] W fun e W' => ∃ q2 : Bool, e = .returned (.agg #[.bool true, .bool true, .bool q2]) ∧ Hid (Below W.heap.size W W')) := fun W h => by
        refine (all_any h.out.g h.out.h hSm hSm2 (hT.later h.out.bl) hq hq2).mono ?_
        rintro e W' ⟨q0, q1, q2, rfl, HQ, HB⟩
        obtain ⟨e0, e1, _⟩ := HQ.out
        simp only [Int.toNat_natCast] at e0 e1
        have t0 : q0 = true := e0.2 hlk.eqP
        have t1 : q1 = true := e1.2 hlk
        subst t0 t1
        exact ⟨q2, rfl, HB⟩
      have HSM : Hid (∀ W u v, GrV W u sG → GrV W v sG → Calls Tryz.prog 15 #[u, v] W fun e W' => e = .returned (.bool true) ∧ Hid (Below W.heap.size W W')) := fun W u v h1 h2 => (gsame_any h1 h2).mono fun e W' q => by
        obtain ⟨p, rfl, q1, q2⟩ := q
        have : p = true := q1.2 rfl
        subst this
        exact ⟨rfl, q2⟩
      clear HCN HEV HKP HKS HHG hG hSm hT hq hq2 hSm2 hlk hcn HG2 HS hsG
      obtain ⟨d0, d1⟩ := HF.out.a.c2
      go_upto_region 21 with (go_at_call 14; refine (HS1.out _ HF).mono ?_; rintro e u1 ⟨ad1, ln1, cp1, rfl, G1⟩)
      have HF1 : Hid (FnS w (u1.alloc (.cells #[.slice ad1 ln1 cp1, .int .i64 0] 24)) K0 K6 (.slice (some ⟨b, off, none⟩) n cap) (.int .i64 (x : Int)) (.slice (some ⟨Nb, 0, none⟩) n n) (.int .i64 (rm : Int)) ⟨ns, (x : Int)⟩ ⟨trn ns s, (rm : Int)⟩) := (HF.out.later G1.out.2).later (below_alloc _ _)
      have HC1 : Hid (Bx (u1.alloc (.cells #[.slice ad1 ln1 cp1, .int .i64 0] 24)) u1.heap.size #[.slice ad1 ln1 cp1, .int .i64 0] 24 ∧ GrV (u1.alloc (.cells #[.slice ad1 ln1 cp1, .int .i64 0] 24)) (gv ad1 ln1 cp1 0) sG) := ⟨Bx.new _ _ _, G1.out.1.later (below_alloc _ _) (Nat.le_refl _)⟩
      clear G1 d0 d1 HF
      generalize u1.alloc (.cells #[.slice ad1 ln1 cp1, .int .i64 0] 24) = U1 at HF1 HC1 ⊢
      generalize u1.heap.size = K12 at HC1 ⊢
      obtain ⟨d0, d1⟩ := HF1.out.b.c2
      go_upto_region 22 with (go_at_call 14; refine (HS2.out _ HF1).mono ?_; rintro e u2 ⟨ad2, ln2, cp2, rfl, G2⟩)
      have HF2 : Hid (FnS w (u2.alloc (.cells #[.slice ad2 ln2 cp2, .int .i64 0] 24)) K0 K6 (.slice (some ⟨b, off, none⟩) n cap) (.int .i64 (x : Int)) (.slice (some ⟨Nb, 0, none⟩) n n) (.int .i64 (rm : Int)) ⟨ns, (x : Int)⟩ ⟨trn ns s, (rm : Int)⟩) := (HF1.out.later G2.out.2).later (below_alloc _ _)
      have HC2 : Hid ((Bx (u2.alloc (.cells #[.slice ad2 ln2 cp2, .int .i64 0] 24)) u2.heap.size #[.slice ad2 ln2 cp2, .int .i64 0] 24 ∧ GrV (u2.alloc (.cells #[.slice ad2 ln2 cp2, .int .i64 0] 24)) (gv ad2 ln2 cp2 0) sG) ∧ (Bx (u2.alloc (.cells #[.slice ad2 ln2 cp2, .int .i64 0] 24)) K12 #[.slice ad1 ln1 cp1, .int .i64 0] 24 ∧ GrV (u2.alloc (.cells #[.slice ad2 ln2 cp2, .int .i64 0] 24)) (gv ad1 ln1 cp1 0) sG)) := ⟨⟨Bx.new _ _ _, G2.out.1.later (below_alloc _ _) (Nat.le_refl _)⟩, (HC1.out.1.later G2.out.2).later (below_alloc _ _), (HC1.out.2.later G2.out.2 (Nat.le_refl _)).later (below_alloc _ _) (Nat.le_refl _)⟩
      clear G2 d0 d1 HF1 HC1
      generalize u2.alloc (.cells #[.slice ad2 ln2 cp2, .int .i64 0] 24) = U2 at HF2 HC2 ⊢
      generalize u2.heap.size = K14 at HC2 ⊢
      obtain ⟨d0, d1⟩ := HF2.out.b.c2
      obtain ⟨d2, d3⟩ := HF2.out.a.c2
      go_upto_region 23 with (go_at_call 11; refine (HAL.out _ HF2).mono ?_; rintro e u3 ⟨qq, rfl, G3⟩)
      have HC3 : Hid (Below w.heap.size w (u3.alloc (.cells #[.bool true, .bool true, .bool qq] 27)) ∧ Bx (u3.alloc (.cells #[.bool true, .bool true, .bool qq] 27)) u3.heap.size #[.bool true, .bool true, .bool qq] 27 ∧ (Bx (u3.alloc (.cells #[.bool true, .bool true, .bool qq] 27)) K14 #[.slice ad2 ln2 cp2, .int .i64 0] 24 ∧ GrV (u3.alloc (.cells #[.bool true, .bool true, .bool qq] 27)) (gv ad2 ln2 cp2 0) sG) ∧ (Bx (u3.alloc (.cells #[.bool true, .bool true, .bool qq] 27)) K12 #[.slice ad1 ln1 cp1, .int .i64 0] 24 ∧ GrV (u3.alloc (.cells #[.bool true, .bool true, .bool qq] 27)) (gv ad1 ln1 cp1 0) sG)) := ⟨((HF2.out.later G3.out).later (below_alloc _ _)).bl, Bx.new _ _ _, ⟨(HC2.out.1.1.later G3.out).later (below_alloc _ _), (HC2.out.1.2.later G3.out (Nat.le_refl _)).later (below_alloc _ _) (Nat.le_refl _)⟩, (HC2.out.2.1.later G3.out).later (below_alloc _ _), (HC2.out.2.2.later G3.out (Nat.le_refl _)).later (below_alloc _ _) (Nat.le_refl _)⟩
      clear G3 d0 d1 d2 d3 HF2 HC2 HS1 HS2 HAL
      generalize u3.alloc (.cells #[.bool true, .bool true, .bool qq] 27) = U3 at HC3 ⊢
      generalize u3.heap.size = K16 at HC3 ⊢
      obtain ⟨d0, d1⟩ := HC3.out.2.2.1.1.c2
      obtain ⟨d2, d3⟩ := HC3.out.2.2.2.1.c2
      have HSM3 : Hid (Calls Tryz.prog 15 #[gv ad1 ln1 cp1 0, gv ad2 ln2 cp2 0] U3 fun e W' => e = .returned (.bool true) ∧ Hid (Below U3.heap.size U3 W')) := HSM.out U3 _ _ HC3.out.2.2.2.2 HC3.out.2.2.1.2
      clear HSM
      go_wp2_with (first | (go_at_call 15; refine HSM3.out.mono ?_; rintro e u4 ⟨rfl, G4⟩; obtain ⟨b0, b1, b2⟩ := (HC3.out.2.1.later G4.out).c3) | (go_at_call 10; refine (HA.out _ (HC3.out.1.trans (G4.out.mono HC3.out.1.size))).mono ?_; rintro e w9 ⟨rfl, HZ⟩))
      go_ret
      exact ⟨rfl, HZ.out⟩
theorem turned_walk (v : Value) (g : Gr) (a : Int) (w : World) (hg : GrV w v g) (ha : (Lit.int .i64 a).wf = true) (hT : Tb w) : Calls Tryz.prog 6 #[v, .int .i64 a] w fun e w' => e = .returned (.bool true) ∧ Below w.heap.size w w' := by
  have hg' := hg
  obtain ⟨ad, len, cap, rfl, h1, h2, h3, h4⟩ := hg'
  exact turned_core hg (i64_bounds ha) hT
end Go.Proofs.YtkggdjghjdakoaaGreatDoor.Alk
