/- Several texts as one: IsoFnd, IsoFin. -/
import Derived.Test.YtkggdjghjdakoaaGreatDoorIbC
import Derived.Test.YtkggdjghjdakoaaGreatDoorIbA
import Derived.Test.YtkggdjghjdakoaaGreatDoorIbF
section
/- Find, by its contract. -/
namespace Go.Proofs.YtkggdjghjdakoaaGreatDoor.Alk
open Utf Rws Pln Flw Grp
open Go.RowKit Go.Shelf
set_option linter.unusedSimpArgs false
set_option linter.unusedVariables false
set_option maxRecDepth 100000
set_option maxHeartbeats 4000000
attribute [local go_sem ↓] Go.wp_at_zero Go.wp_at_succ

/-- the value of a key -/
def fnd (ns : List Nd) (r a k : Int) (x : Ln) : Option Int :=
  if rgG ⟨ns, r⟩ = true ∧ isP ns.length a = true ∧ (ns.getD a.toNat nd0).kind = 6 then ((ens (ns.getD a.toNat nd0).kids).find? (fun p => decide (kp ns p.1 = (k, x)))).map (·.2) else none
theorem find_at {α : Type} {p : α → Bool} (d : α) : ∀ (l : List α) (j : Nat), j < l.length → p (l.getD j d) = true → (∀ i, i < j → p (l.getD i d) = false) → l.find? p = some (l.getD j d)
  | [], j, h, _, _ => absurd h (by simp)
  | a :: t, 0, _, h, _ => by
    rw [List.getD_cons_zero] at h ⊢
    exact List.find?_cons_of_pos h
  | a :: t, j + 1, hj, h, hi => by
    have h0 := hi 0 (by omega)
    rw [List.getD_cons_zero] at h0
    rw [List.find?_cons_of_neg (by rw [h0]; simp), List.getD_cons_succ]
    rw [List.getD_cons_succ] at h
    exact find_at d t j (by simpa using hj) h fun i hi' => by have := hi (i + 1) (by omega); rw [List.getD_cons_succ] at this; exact this
theorem find_no {α : Type} {p : α → Bool} (d : α) (l : List α) (h : ∀ i, i < l.length → p (l.getD i d) = false) : l.find? p = none := by
  rw [List.find?_eq_none]
  intro a ha
  obtain ⟨i, hi, rfl⟩ := List.getElem_of_mem ha
  have := h i hi
  rw [List.getD_eq_getElem?_getD, List.getElem?_eq_getElem hi] at this
  simp only [Option.getD_some] at this
  rw [this]; simp
/-- the value of a Map's key, entry by entry -/
theorem fnd_map {ns : List Nd} {r k : Int} {x : Ln} {a : Nat} (hq : rgG ⟨ns, r⟩ = true) (ha : a < ns.length) (hk : (ns.getD a nd0).kind = 6) : fnd ns r (a : Int) k x = ((ens (ns.getD a nd0).kids).find? (fun p => decide (kp ns p.1 = (k, x)))).map (·.2) := by
  unfold fnd
  rw [if_pos ⟨hq, by unfold Grp.isP; rw [decide_eq_true (by omega), decide_eq_true (by omega)]; rfl, by rw [Int.toNat_natCast]; exact hk⟩, Int.toNat_natCast]
theorem fnd_at {ns : List Nd} {r k : Int} {x : Ln} {a j : Nat} (hq : rgG ⟨ns, r⟩ = true) (ha : a < ns.length) (hk : (ns.getD a nd0).kind = 6) (hj : j < (ns.getD a nd0).kids.length / 2) (he : kp ns ((ns.getD a nd0).kids.getD (2 * j) 0) = (k, x)) (hb : ∀ t, t < j → kp ns ((ns.getD a nd0).kids.getD (2 * t) 0) ≠ (k, x)) :
    fnd ns r (a : Int) k x = some ((ns.getD a nd0).kids.getD (2 * j + 1) 0) := by
  rw [fnd_map hq ha hk]
  generalize (ns.getD a nd0).kids = l at *
  have e := fun i (h : i < l.length / 2) => ens_at (0 : Int) l i (by omega)
  rw [find_at (0, 0) (ens l) j (by rw [ens_len]; exact hj) (by rw [e j hj]; exact decide_eq_true he) (fun i hi => by rw [e i (by omega)]; exact decide_eq_false (hb i hi)), e j hj]
  rfl
theorem fnd_no {ns : List Nd} {r k : Int} {x : Ln} {a : Nat} (hq : rgG ⟨ns, r⟩ = true) (ha : a < ns.length) (hk : (ns.getD a nd0).kind = 6) (hb : ∀ t, t < (ns.getD a nd0).kids.length / 2 → kp ns ((ns.getD a nd0).kids.getD (2 * t) 0) ≠ (k, x)) :
    fnd ns r (a : Int) k x = none := by
  rw [fnd_map hq ha hk]
  generalize (ns.getD a nd0).kids = l at *
  have e := fun i (h : i < l.length / 2) => ens_at (0 : Int) l i (by omega)
  rw [find_no (0, 0) (ens l) fun i hi => by rw [ens_len] at hi; rw [e i hi]; exact decide_eq_false (hb i hi)]
  rfl
/-- what Find answers -/
def fdV (o : Option Int) : Value := .tuple #[.int .i64 (o.getD 0), .bool o.isSome]
theorem find_core {w : World} {ad : Option Addr} {len cap : Nat} {r a k : Int} {x : Ln} {ns : List Nd} (hG : GrV w (gv ad len cap r) ⟨ns, r⟩) (hS : Sml ns) (hT : Tb w) :
    Calls Tryz.prog 16 #[gv ad len cap r, .int .i64 a, .int .i64 k, .string (mk x)] w fun e w' => e = .returned (fdV (fnd ns r a k x)) ∧ Below w.heap.size w w' := by
  unfold fdV
  have h0 : Hid (AgS w (w.alloc (.cells #[.slice ad len cap, .int .i64 r] 24)) w.heap.size ad len cap r ns) := AgS.new (Below.refl _ _) hG
  have HR : Hid (∀ W, Hid (AgS w W w.heap.size ad len cap r ns) → Calls Tryz.prog 9 #[gv ad len cap r] W fun e W' => e = .returned (.bool (rgG ⟨ns, r⟩)) ∧ Hid (AgS w W' w.heap.size ad len cap r ns)) := fun W h => (right_gr h.out.g hS (hT.later h.out.bl)).mono (fun e W' q => ⟨q.1, h.out.later q.2⟩)
  have HL : Hid (len = ns.length) := by obtain ⟨_, _, _, e, _, _, _, hN, _⟩ := hG; cases e; exact hN
  clear hT
  cases hq : rgG ⟨ns, r⟩
  case false =>
    rw [hq] at HR
    have HN : Hid (fnd ns r a k x = none) := by
      show _ = _
      unfold fnd
      rw [if_neg (by rw [hq]; simp)]
    rw [HN.out]
    clear hq
    clear hG HN
    go_enter Tryz.func16, Tryz.ntmps16
    go_wp2_with (go_at_call 9; refine (HR.out _ h0).mono ?_; rintro e w1 ⟨rfl, H1⟩; obtain ⟨d0, d1⟩ := H1.out.b.c2)
    go_ret2
    exact ⟨rfl, H1.out.bl⟩
  case true =>
  have hq' := hq
  rw [hq] at HR
  have hcap : len ≤ 4096 := by have := (rgG_facts hq).1; rw [HL.out]; exact this
  by_cases ha0 : 0 ≤ a
  case neg =>
    have HN : Hid (fnd ns r a k x = none) := by
      show _ = _
      unfold fnd
      rw [if_neg (by unfold Grp.isP; simp [ha0])]
    rw [HN.out]
    clear hq hq'
    clear hG HN
    go_enter Tryz.func16, Tryz.ntmps16
    go_wp2_with (go_at_call 9; refine (HR.out _ h0).mono ?_; rintro e w1 ⟨rfl, H1⟩; obtain ⟨d0, d1⟩ := H1.out.b.c2)
    go_ret2
    exact ⟨rfl, H1.out.bl⟩
  case pos =>
  obtain ⟨q, rfl⟩ : ∃ q : Nat, a = (q : Int) := ⟨a.toNat, by omega⟩
  clear ha0
  by_cases ha1 : q < len
  case neg =>
    have ha2 : ¬ (q : Int) < (len : Int) := by omega
    have HN : Hid (fnd ns r (q : Int) k x = none) := by
      show _ = _
      unfold fnd
      rw [if_neg (by unfold Grp.isP; rw [← HL.out]; simp; omega)]
    rw [HN.out]
    clear hq hq'
    clear hG HN
    go_enter Tryz.func16, Tryz.ntmps16
    go_wp2_with (go_at_call 9; refine (HR.out _ h0).mono ?_; rintro e w1 ⟨rfl, H1⟩; obtain ⟨d0, d1⟩ := H1.out.b.c2)
    go_ret2
    exact ⟨rfl, H1.out.bl⟩
  case pos =>
  have ha2 : (q : Int) < (len : Int) := by omega
  have hgn := hG
  obtain ⟨_, _, _, e, hlc, hcm, hr64, hN⟩ := hgn
  cases e
  obtain ⟨b, off, rfl, hb, hc⟩ := hN.2 (by omega)
  obtain ⟨kad, klen, kcap, k1, k2, k3, k4, k5, y0, y1, y2⟩ := hc q ha1
  obtain ⟨kk, hkk⟩ : ∃ kk, kk = (ns.getD q nd0).kind := ⟨_, rfl⟩
  obtain ⟨kx, hkx⟩ : ∃ kx, kx = (ns.getD q nd0).text := ⟨_, rfl⟩
  obtain ⟨l, hl⟩ : ∃ l, l = (ns.getD q nd0).kids := ⟨_, rfl⟩
  have Hkk : Hid (kk = (ns.getD q nd0).kind) := hkk
  have Hl : Hid (l = (ns.getD q nd0).kids) := hl
  rw [← hkk] at y0
  rw [← hkx] at y1
  rw [← hl] at k5
  clear hkk hkx hl k3 k4
  have HC : Hid (∀ W, Hid (AgS w W w.heap.size (some ⟨b, off, none⟩) len cap r ns) → W.cell? ⟨b, off + q * 3, none⟩ = some (.int .i64 kk) ∧ W.cell? ⟨b, off + q * 3 + 1, none⟩ = some (.string (mk kx)) ∧ W.cell? ⟨b, off + q * 3 + 2, none⟩ = some (.slice kad klen kcap)) := fun W h => ⟨(h.out.bl.cell (p := ⟨b, off + q * 3, none⟩) hb).trans y0, (h.out.bl.cell (p := ⟨b, off + q * 3 + 1, none⟩) hb).trans y1, (h.out.bl.cell (p := ⟨b, off + q * 3 + 2, none⟩) hb).trans y2⟩
  by_cases h6 : kk = 6
  case neg =>
    have h6' : ¬ (ns.getD q nd0).kind = 6 := by rw [← Hkk.out]; exact h6
    have hk9 : (kk != 6) = true := by simp [h6]
    have HN : Hid (fnd ns r (q : Int) k x = none) := by
      show _ = _
      unfold fnd
      rw [if_neg (by simp only [Int.toNat_natCast]; exact fun h => h6' h.2.2)]
    rw [HN.out]
    clear hq hq' h6' hc hN k5 y0 y1 y2
    clear hG HN
    go_enter Tryz.func16, Tryz.ntmps16
    go_wp2_with (go_at_call 9; refine (HR.out _ h0).mono ?_; rintro e w1 ⟨rfl, H1⟩; obtain ⟨d0, d1⟩ := H1.out.b.c2; obtain ⟨d2, d3, d4⟩ := HC.out _ H1)
    go_ret2
    exact ⟨rfl, H1.out.bl⟩
  case pos =>
  subst h6
  have h6k : (ns.getD q nd0).kind = 6 := Hkk.out.symm
  have HKL : Hid (klen = l.length) := k5.1
  have hsum : klen ≤ 1000000000 := by
    have h1 := (hS (rgG_facts hq).1).2
    have h2 := kids_sum (mem_getD (by rw [← HL.out]; exact ha1) : ns.getD q nd0 ∈ ns)
    rw [← Hl.out, ← HKL.out] at h2
    omega
  obtain ⟨H, HH⟩ : ∃ H : Nat, Hid (H = klen / 2) := ⟨_, rfl⟩
  have hH9 : H ≤ 1000000000 := by have := HH.out; omega
  have HEn : Hid (∀ W, Below w.heap.size w W → Calls Tryz.prog 31 #[nv 6 kx kad klen kcap] W fun e W' => ∃ E, e = .returned (.slice (some ⟨E, 0, none⟩) H H) ∧ Hid (Bx W' E (iA (eF l (l.length / 2)) (2 * (l.length / 2))) 59 ∧ W.heap.size ≤ E ∧ Below W.heap.size W W')) := fun W hb => (entriesOf_any (k5.later hb (Nat.le_refl _)) hsum).mono (fun e W' q => by
    obtain ⟨E, q1, q2⟩ := q
    refine ⟨E, by rw [HH.out]; exact q1, ?_⟩
    rw [← HKL.out]
    exact q2)
  -- the keys' places
  have HP : Hid (∀ t, t < H → ∃ p : Nat, l.getD (2 * t) 0 = (p : Int) ∧ p < len) := fun t ht => by
    have h1 := HH.out
    have h2 := HKL.out
    have hm : l.getD (2 * t) 0 ∈ (ns.getD q nd0).kids := by rw [← Hl.out, List.getD_eq_getElem?_getD, List.getElem?_eq_getElem (show 2 * t < l.length by omega)]; exact List.getElem_mem _
    obtain ⟨p, e, hp⟩ := isP_nat ((rgG_facts hq).2.2 _ (mem_getD (by rw [← HL.out]; exact ha1)) _ hm)
    exact ⟨p, e, by rw [HL.out]; exact hp⟩
  have HCN : Hid (∀ W, Below w.heap.size w W → ∀ p, p < len → ∃ pad plen pcap, W.cell? ⟨b, off + p * 3, none⟩ = some (.int .i64 (ns.getD p nd0).kind) ∧ W.cell? ⟨b, off + p * 3 + 1, none⟩ = some (.string (mk (ns.getD p nd0).text)) ∧ W.cell? ⟨b, off + p * 3 + 2, none⟩ = some (.slice pad plen pcap)) := fun W h p hp => by
    obtain ⟨pad, plen, pcap, _, _, _, _, _, z0, z1, z2⟩ := hc p hp
    exact ⟨pad, plen, pcap, (h.cell (p := ⟨b, off + p * 3, none⟩) hb).trans z0, (h.cell (p := ⟨b, off + p * 3 + 1, none⟩) hb).trans z1, (h.cell (p := ⟨b, off + p * 3 + 2, none⟩) hb).trans z2⟩
  have HF : Hid (∀ j, j < H → kp ns (l.getD (2 * j) 0) = (k, x) → (∀ t, t < j → kp ns (l.getD (2 * t) 0) ≠ (k, x)) → fnd ns r (q : Int) k x = some (l.getD (2 * j + 1) 0)) := fun j hj he hbf => by
    have := HH.out
    rw [HKL.out, Hl.out] at this
    rw [Hl.out] at he hbf ⊢
    exact fnd_at hq (by rw [← HL.out]; exact ha1) h6k (by omega) he hbf
  have HZ : Hid ((∀ t, t < H → kp ns (l.getD (2 * t) 0) ≠ (k, x)) → fnd ns r (q : Int) k x = none) := fun hbf => by
    have := HH.out
    rw [HKL.out, Hl.out] at this
    rw [Hl.out] at hbf
    exact fnd_no hq (by rw [← HL.out]; exact ha1) h6k (fun t ht => hbf t (by omega))
  obtain ⟨K0, HK0⟩ : ∃ K0, Hid (K0 = w.heap.size) := ⟨_, rfl⟩
  clear hG hq hq' hc hN k5 y0 y1 y2 h6k Hkk hS
  go_enter Tryz.func16, Tryz.ntmps16
  go_wp2_with fail
  refine (HR.out _ h0).mono ?_
  rintro e w1 ⟨rfl, H1⟩
  obtain ⟨d0, d1⟩ := H1.out.b.c2
  obtain ⟨d2, d3, d4⟩ := HC.out _ H1
  go_wp2_with (go_at_call 31; refine (HEn.out _ H1.out.bl).mono ?_; rintro e W1 ⟨E, rfl, H2⟩)
  have H3 : Hid (AgS w W1 w.heap.size (some ⟨b, off, none⟩) len cap r ns) := H1.out.later H2.out.2.2
  have H4 : Hid (Bx W1 E (iA (eF l (l.length / 2)) (2 * (l.length / 2))) 59) := H2.out.1
  have HEc : Hid (∀ W, Below W1.heap.size W1 W → ∀ j, j < H → W.cell? ⟨E, j * 2, none⟩ = some (.int .i64 (l.getD (2 * j) 0)) ∧ W.cell? ⟨E, j * 2 + 1, none⟩ = some (.int .i64 (l.getD (2 * j + 1) 0))) := fun W hW j hj => by
    have h1 := HH.out
    have h2 := HKL.out
    have hE := H4.out.later hW
    refine ⟨?_, ?_⟩
    · rw [hE.cell (j * 2), iA_get _ (show j * 2 < 2 * (l.length / 2) by omega)]
      unfold eF
      rw [if_pos (by omega), Nat.mul_comm]
    · rw [hE.cell (j * 2 + 1), iA_get _ (show j * 2 + 1 < 2 * (l.length / 2) by omega)]
      unfold eF
      rw [if_pos (by omega), Nat.mul_comm]
  clear HR h0 HEn HC H1 H2 H4 d0 d1 d2 d3 d4
  go_loopw [43] (fun i wr => ∃ j : Nat, j ≤ H ∧ i = .int .i64 (j : Int) ∧ Hid (Below W1.heap.size W1 wr ∧ ∀ t, t < j → kp ns (l.getD (2 * t) 0) ≠ (k, x))) (fun i _ => H - (intOf i).toNat)
  case atStart => exact ⟨0, Nat.zero_le _, rfl, Below.refl _ _, fun t ht => absurd ht (by omega)⟩
  case round =>
    obtain ⟨j, hj, rfl, HS⟩ := hrel
    by_cases hlt : j < H
    · obtain ⟨z0, z1⟩ := HEc.out wr HS.out.1 j hlt
      obtain ⟨p, hp, hpl⟩ := HP.out j hlt
      have hp2 : (p : Int) < (len : Int) := by omega
      obtain ⟨v, hv⟩ : ∃ v, v = l.getD (2 * j + 1) 0 := ⟨_, rfl⟩
      have Hv : Hid (v = l.getD (2 * j + 1) 0) := hv
      have Hp : Hid (l.getD (2 * j) 0 = (p : Int)) := hp
      rw [hp] at z0
      rw [← hv] at z1
      clear hp hv
      go_upto_region 6 with fail
      have HB1 : Hid (AgS w (wr.alloc (.cells #[.int .i64 (p : Int), .int .i64 v] 59)) w.heap.size (some ⟨b, off, none⟩) len cap r ns ∧ Below W1.heap.size W1 (wr.alloc (.cells #[.int .i64 (p : Int), .int .i64 v] 59)) ∧ Bx (wr.alloc (.cells #[.int .i64 (p : Int), .int .i64 v] 59)) wr.heap.size #[.int .i64 (p : Int), .int .i64 v] 59) := by
        have b1 := below_alloc wr (.cells #[.int .i64 (p : Int), .int .i64 v] 59)
        have b2 := HS.out.1.trans (b1.mono HS.out.1.size)
        exact ⟨H3.out.later b2, b2, Bx.new _ _ _⟩
      clear z0 z1
      generalize wr.alloc (.cells #[.int .i64 (p : Int), .int .i64 v] 59) = w2 at HB1 ⊢
      generalize wr.heap.size = T at HB1 ⊢
      obtain ⟨d0, d1⟩ := HB1.out.1.b.c2
      obtain ⟨e0, e1⟩ := HB1.out.2.2.c2
      obtain ⟨pad, plen, pcap, f0, f1, f2⟩ := HCN.out w2 HB1.out.1.bl p hpl
      obtain ⟨pk, hpk⟩ : ∃ pk, pk = (ns.getD p nd0).kind := ⟨_, rfl⟩
      obtain ⟨px, hpx⟩ : ∃ px, px = (ns.getD p nd0).text := ⟨_, rfl⟩
      have HKP : Hid (kp ns (l.getD (2 * j) 0) = (pk, px)) := by
        show _ = _
        rw [Hp.out, hpk, hpx]
        unfold kp
        rw [Int.toNat_natCast]
      rw [← hpk] at f0
      rw [← hpx] at f1
      clear hpk hpx
      go_upto_region 7 with fail
      have HB2 : Hid (AgS w (w2.alloc (.cells #[.int .i64 pk, .string (mk px), .slice pad plen pcap] 38)) w.heap.size (some ⟨b, off, none⟩) len cap r ns ∧ Below W1.heap.size W1 (w2.alloc (.cells #[.int .i64 pk, .string (mk px), .slice pad plen pcap] 38)) ∧ Bx (w2.alloc (.cells #[.int .i64 pk, .string (mk px), .slice pad plen pcap] 38)) T #[.int .i64 (p : Int), .int .i64 v] 59 ∧ Bx (w2.alloc (.cells #[.int .i64 pk, .string (mk px), .slice pad plen pcap] 38)) w2.heap.size #[.int .i64 pk, .string (mk px), .slice pad plen pcap] 38) := by
        have b1 := below_alloc w2 (.cells #[.int .i64 pk, .string (mk px), .slice pad plen pcap] 38)
        exact ⟨HB1.out.1.later b1, HB1.out.2.1.trans (b1.mono HB1.out.2.1.size), HB1.out.2.2.later b1, Bx.new _ _ _⟩
      clear d0 d1 e0 e1 f0 f1 f2 HB1
      generalize w2.alloc (.cells #[.int .i64 pk, .string (mk px), .slice pad plen pcap] 38) = w3 at HB2 ⊢
      generalize w2.heap.size = T2 at HB2 ⊢
      obtain ⟨e0, e1⟩ := HB2.out.2.2.1.c2
      obtain ⟨g0, g1, g2⟩ := HB2.out.2.2.2.c3
      by_cases hk : pk = k
      · subst hk
        by_cases hx : px = x
        · subst hx
          have HV : Hid (fnd ns r (q : Int) pk px = some v) := by
            show _ = _
            rw [Hv.out]
            exact HF.out j hlt HKP.out HS.out.2
          have HBF : Hid (Below w.heap.size w w3) := HB2.out.1.bl
          clear HF HZ HCN HP HEc HB2 HS Hp Hv HKP
          go_wp2_with fail
          go_ret2
          exact ⟨by rw [HV.out]; rfl, HBF.out⟩
        · have hx3 : ((mk px).toList == (mk x).toList) = false := by
            rw [ByteArray.toList_eq, ByteArray.toList_eq, mk_data, mk_data]
            exact beq_false_of_ne hx
          have HS2 : Hid (Below W1.heap.size W1 w3 ∧ ∀ t, t < j + 1 → kp ns (l.getD (2 * t) 0) ≠ (pk, x)) := by
            refine ⟨HB2.out.2.1, fun t ht => ?_⟩
            by_cases h : t = j
            · rw [h, HKP.out]; intro e; exact hx (congrArg Prod.snd e)
            · exact HS.out.2 t (by omega)
          clear hx HF HZ HCN HP HEc HB2 HS Hp Hv HKP
          go_wp2_with fail
          go_roundw
          case rel => exact ⟨j + 1, by omega, by go_num, HS2⟩
          case measure => simp [intOf]; omega
      · have HS2 : Hid (Below W1.heap.size W1 w3 ∧ ∀ t, t < j + 1 → kp ns (l.getD (2 * t) 0) ≠ (k, x)) := by
          refine ⟨HB2.out.2.1, fun t ht => ?_⟩
          by_cases h : t = j
          · rw [h, HKP.out]; intro e; exact hk (congrArg Prod.fst e)
          · exact HS.out.2 t (by omega)
        clear HF HZ HCN HP HEc HB2 HS Hp Hv HKP
        go_wp2_with fail
        go_roundw
        case rel => exact ⟨j + 1, by omega, by go_num, HS2⟩
        case measure => simp [intOf]; omega
    · have hjH : j = H := by omega
      have HV : Hid (fnd ns r (q : Int) k x = none) := HZ.out fun t ht => HS.out.2 t (by omega)
      have HBF : Hid (Below w.heap.size w wr) := (H3.out.later HS.out.1).bl
      clear HF HZ HCN HP HEc HS hjH
      go_wp2_with fail
      go_ret2
      exact ⟨by rw [HV.out]; rfl, HBF.out⟩
theorem find_any {w : World} {v : Value} {g : Gr} {a k : Int} {x : Ln} (h : GrV w v g) (hS : Sml g.nodes) (hT : Tb w) :
    Calls Tryz.prog 16 #[v, .int .i64 a, .int .i64 k, .string (mk x)] w fun e w' => e = .returned (fdV (fnd g.nodes g.root a k x)) ∧ Below w.heap.size w w' := by
  have h' := h
  obtain ⟨ad, len, cap, rfl, h1, h2, h3, h4⟩ := h'
  exact find_core h hS hT
end Go.Proofs.YtkggdjghjdakoaaGreatDoor.Alk
end

section
/- IsoFinds, the walk. -/
namespace Go.Proofs.YtkggdjghjdakoaaGreatDoor.Alk
open Utf Rws Pln Flw Grp
open Go.RowKit Go.Shelf
set_option linter.unusedSimpArgs false
set_option linter.unusedVariables false
set_option maxRecDepth 100000
set_option maxHeartbeats 4000000
attribute [local go_sem ↓] Go.wp_at_zero Go.wp_at_succ

/-- the boxes of a graph and of a node -/
structure FiS (w W : World) (K0 K1 : Nat) (a0 a1 b0 b1 b2 : Value) : Prop where
  a : Bx W K0 #[a0, a1] 24
  b : Bx W K1 #[b0, b1, b2] 38
  bl : Below w.heap.size w W
theorem FiS.later {w W W' : World} {K0 K1 : Nat} {a0 a1 b0 b1 b2 : Value} (h : FiS w W K0 K1 a0 a1 b0 b1 b2) (hb : Below W.heap.size W W') : FiS w W' K0 K1 a0 a1 b0 b1 b2 := ⟨h.a.later hb, h.b.later hb, h.bl.trans (hb.mono h.bl.size)⟩
theorem FiS.new (w : World) (a0 a1 b0 b1 b2 : Value) : FiS w ((w.alloc (.cells #[a0, a1] 24)).alloc (.cells #[b0, b1, b2] 38)) w.heap.size (w.heap.size + 1) a0 a1 b0 b1 b2 := by
  have x1 := below_alloc w (.cells #[a0, a1] 24)
  have s1 : (w.alloc (.cells #[a0, a1] 24)).heap.size = w.heap.size + 1 := World.size_alloc _ _
  have x2 := below_alloc (w.alloc (.cells #[a0, a1] 24)) (.cells #[b0, b1, b2] 38)
  have n2 := Bx.new (w.alloc (.cells #[a0, a1] 24)) #[b0, b1, b2] 38
  rw [s1] at n2
  exact ⟨(Bx.new w _ _).later x2, n2, x1.trans (x2.mono x1.size)⟩
theorem FiS.ce {w W : World} {K0 K1 : Nat} {a0 a1 b0 b1 b2 : Value} (h : FiS w W K0 K1 a0 a1 b0 b1 b2) : W.cell? ⟨K0, 0, none⟩ = some a0 ∧ W.cell? ⟨K0, 1, none⟩ = some a1 := ⟨h.a.cell 0, h.a.cell 1⟩
/-- was the key met? -/
def thr (ns : List Nd) (l : List Int) (k : Int) (x : Ln) (j : Nat) : Bool := (List.range j).any fun t => decide (kp ns (l.getD (2 * t) 0) = (k, x))
theorem thr_succ (ns : List Nd) (l : List Int) (k : Int) (x : Ln) (j : Nat) : thr ns l k x (j + 1) = (thr ns l k x j || decide (kp ns (l.getD (2 * j) 0) = (k, x))) := by
  unfold thr
  rw [List.range_succ, List.any_append]
  simp
theorem thr_fnd {ns : List Nd} {r k : Int} {x : Ln} {a : Nat} (hq : rgG ⟨ns, r⟩ = true) (ha : a < ns.length) (hk : (ns.getD a nd0).kind = 6) : (fnd ns r (a : Int) k x).isSome = thr ns (ns.getD a nd0).kids k x ((ns.getD a nd0).kids.length / 2) := by
  rw [fnd_map hq ha hk, Option.isSome_map]
  generalize (ns.getD a nd0).kids = l
  have e := fun i (h : i < l.length / 2) => ens_at (0 : Int) l i (by omega)
  rw [Bool.eq_iff_iff, List.find?_isSome]
  unfold thr
  rw [List.any_eq_true]
  constructor
  · rintro ⟨p, hp, hd⟩
    obtain ⟨i, hi, rfl⟩ := List.getElem_of_mem hp
    have hi2 : i < l.length / 2 := by rw [ens_len] at hi; exact hi
    refine ⟨i, List.mem_range.2 hi2, ?_⟩
    have e1 := e i hi2
    rw [List.getD_eq_getElem?_getD, List.getElem?_eq_getElem hi] at e1
    simp only [Option.getD_some] at e1
    rw [e1] at hd
    exact hd
  · rintro ⟨i, hi, hd⟩
    have hi2 := List.mem_range.1 hi
    have hi3 : i < (ens l).length := by rw [ens_len]; exact hi2
    have e1 := e i hi2
    rw [List.getD_eq_getElem?_getD, List.getElem?_eq_getElem hi3] at e1
    simp only [Option.getD_some] at e1
    exact ⟨(ens l)[i], List.getElem_mem hi3, by rw [e1]; exact hd⟩
/-- each key's value is found: no other key is alike -/
theorem fnd_own {ns : List Nd} {r : Int} {a j : Nat} (hq : rgG ⟨ns, r⟩ = true) (ha : a < ns.length) (hk : (ns.getD a nd0).kind = 6) (hj : j < (ns.getD a nd0).kids.length / 2) :
    fnd ns r (a : Int) (kp ns ((ns.getD a nd0).kids.getD (2 * j) 0)).1 (kp ns ((ns.getD a nd0).kids.getD (2 * j) 0)).2 = some ((ns.getD a nd0).kids.getD (2 * j + 1) 0) := by
  refine fnd_at hq ha hk hj rfl fun t ht he => ?_
  have hm : ns.getD a nd0 ∈ ns := mem_getD ha
  obtain ⟨h1, h2, h3, h4, h5⟩ := rg_parts.1 hq
  have h6 := h5 _ hm
  have hev := rg_evn hq _ hm hk
  rw [hk, kys_ens 0 _ hev rfl] at h6
  generalize (ns.getD a nd0).kids = l at *
  have e := fun i (h : i < l.length / 2) => ens_at (0 : Int) l i (by omega)
  rw [List.map_map] at h6
  have key : ∀ i, i < l.length / 2 → ((ens l).map (kp ns ∘ fun x => x.1))[i]? = some (kp ns (l.getD (2 * i) 0)) := fun i hi => by
    have hi3 : i < (ens l).length := by rw [ens_len]; exact hi
    have e1 := e i hi
    rw [List.getD_eq_getElem?_getD, List.getElem?_eq_getElem hi3] at e1
    simp only [Option.getD_some] at e1
    rw [List.getElem?_map, List.getElem?_eq_getElem hi3, Option.map_some, e1]
    rfl
  have k1 := key t (by omega)
  have k2 := key j hj
  rw [he] at k1
  have hlt : t < ((ens l).map (kp ns ∘ fun x => x.1)).length := by rw [List.length_map, ens_len]; omega
  have hlj : j < ((ens l).map (kp ns ∘ fun x => x.1)).length := by rw [List.length_map, ens_len]; omega
  rw [List.getElem?_eq_getElem hlt] at k1
  rw [List.getElem?_eq_getElem hlj] at k2
  have := (List.getElem_inj (h₀ := hlt) (h₁ := hlj) h6).1 (by have := k1.trans k2.symm; injection this)
  omega
theorem finds_core {w : World} {ad qad : Option Addr} {len cap qlen qcap : Nat} {r a kq : Int} {xq : Ln} {ns : List Nd} (hG : GrV w (gv ad len cap r) ⟨ns, r⟩) (hT : Tb w) :
    Calls Tryz.prog 7 #[gv ad len cap r, .int .i64 a, nv kq xq qad qlen qcap] w fun e w' => e = .returned (.bool true) ∧ Below w.heap.size w w' := by
  have h0 : Hid (FiS w _ w.heap.size (w.heap.size + 1) (.slice ad len cap) (.int .i64 r) (.int .i64 kq) (.string (mk xq)) (.slice qad qlen qcap)) := FiS.new w _ _ _ _ _
  obtain ⟨K1, HK1⟩ : ∃ K1, Hid (K1 = w.heap.size + 1) := ⟨_, rfl⟩
  obtain ⟨K0, HK0⟩ : ∃ K0, Hid (K0 = w.heap.size) := ⟨_, rfl⟩
  obtain ⟨JS, hJS⟩ : ∃ JS : World → Prop, Hid (∀ w', JS w' ↔ FiS w w' K0 K1 (.slice ad len cap) (.int .i64 r) (.int .i64 kq) (.string (mk xq)) (.slice qad qlen qcap)) := ⟨fun w' => FiS w w' K0 K1 (.slice ad len cap) (.int .i64 r) (.int .i64 kq) (.string (mk xq)) (.slice qad qlen qcap), fun _ => Iff.rfl⟩
  have HA : Hid (∀ W, Below w.heap.size w W → Calls Tryz.prog 10 #[] W fun e W' => e = .returned (.bool true) ∧ Hid (Below w.heap.size w W')) := fun W b => (alive_any (hT.later b)).mono (fun e W' q => ⟨q.1, b.trans (q.2.mono b.size)⟩)
  have HLG : Hid (∀ W, JS W → Calls Tryz.prog 8 #[gv ad len cap r] W fun e W' => e = .returned (.bool (lgB ns)) ∧ JS W' ∧ W'.cell? ⟨K0, 0, none⟩ = some (.slice ad len cap) ∧ W'.cell? ⟨K0, 1, none⟩ = some (.int .i64 r)) := fun W hj => by
    have ht := (hJS.out _).1 hj
    exact (large_any (hG.later ht.bl (Nat.le_refl _))).mono (fun e W' q => ⟨q.1, (hJS.out _).2 (ht.later q.2), (ht.later q.2).ce⟩)
  have HL : Hid (len = ns.length) := by obtain ⟨_, _, _, e, _, _, _, hN, _⟩ := hG; cases e; exact hN
  cases hl : lgB ns
  case true =>
    rw [hl] at HLG
    clear hT hG
    go_enter Tryz.func7, Tryz.ntmps7
    go_upto_region 1 with fail
    generalize (w.alloc (.cells #[.slice ad len cap, .int .i64 r] 24)).alloc (.cells #[.int .i64 kq, .string (mk xq), .slice qad qlen qcap] 38) = W0 at h0 ⊢
    rw [← HK1.out, ← HK0.out]
    rw [← HK1.out, ← HK0.out] at h0
    have j0 : JS W0 := (hJS.out _).2 h0.out
    obtain ⟨q0, q1, q2⟩ := h0.out.b.c3
    obtain ⟨c0, c1⟩ := h0.out.ce
    clear h0 HK0 HK1
    go_quiet (fail)
    rename_i nq
    have j1 : JS (W0.drewN nq) := (hJS.out _).2 (((hJS.out _).1 j0).later (below_drewN (Below.refl _ _) nq))
    go_wp2_with (first | (go_at_call 8; refine (HLG.out _ (by assumption)).mono ?_; rintro e w1 ⟨rfl, j2, c0, c1⟩) | (go_at_call 9; refine (HRG.out _ (by assumption)).mono ?_; rintro e w2 ⟨rfl, j3, c0, c1⟩) | (go_at_call 10; refine (HA.out _ ((hJS.out _).1 (by assumption)).bl).mono ?_; rintro e w9 ⟨rfl, HZ⟩))
    go_ret
    exact ⟨rfl, HZ.out⟩
  case false =>
  have hS := lgB_sml hl
  rw [hl] at HLG
  have HRG : Hid (∀ W, JS W → Calls Tryz.prog 9 #[gv ad len cap r] W fun e W' => e = .returned (.bool (rgG ⟨ns, r⟩)) ∧ JS W' ∧ W'.cell? ⟨K0, 0, none⟩ = some (.slice ad len cap) ∧ W'.cell? ⟨K0, 1, none⟩ = some (.int .i64 r)) := fun W hj => by
    have ht := (hJS.out _).1 hj
    exact (right_gr (hG.later ht.bl (Nat.le_refl _)) hS (hT.later ht.bl)).mono (fun e W' q => ⟨q.1, (hJS.out _).2 (ht.later q.2), (ht.later q.2).ce⟩)
  cases hq : rgG ⟨ns, r⟩
  case false =>
    rw [hq] at HRG
    clear hT hG hq hl hS
    go_enter Tryz.func7, Tryz.ntmps7
    go_upto_region 1 with fail
    generalize (w.alloc (.cells #[.slice ad len cap, .int .i64 r] 24)).alloc (.cells #[.int .i64 kq, .string (mk xq), .slice qad qlen qcap] 38) = W0 at h0 ⊢
    rw [← HK1.out, ← HK0.out]
    rw [← HK1.out, ← HK0.out] at h0
    have j0 : JS W0 := (hJS.out _).2 h0.out
    obtain ⟨q0, q1, q2⟩ := h0.out.b.c3
    obtain ⟨c0, c1⟩ := h0.out.ce
    clear h0 HK0 HK1
    go_quiet (fail)
    rename_i nq
    have j1 : JS (W0.drewN nq) := (hJS.out _).2 (((hJS.out _).1 j0).later (below_drewN (Below.refl _ _) nq))
    go_wp2_with (first | (go_at_call 8; refine (HLG.out _ (by assumption)).mono ?_; rintro e w1 ⟨rfl, j2, c0, c1⟩) | (go_at_call 9; refine (HRG.out _ (by assumption)).mono ?_; rintro e w2 ⟨rfl, j3, c0, c1⟩) | (go_at_call 10; refine (HA.out _ ((hJS.out _).1 (by assumption)).bl).mono ?_; rintro e w9 ⟨rfl, HZ⟩))
    go_ret
    exact ⟨rfl, HZ.out⟩
  case true =>
  have hq' := hq
  rw [hq] at HRG
  have hcap : len ≤ 4096 := by have := (rgG_facts hq).1; rw [HL.out]; exact this
  by_cases ha0 : 0 ≤ a
  case neg =>
    clear hT hG hq hq' hl hS
    go_enter Tryz.func7, Tryz.ntmps7
    go_upto_region 1 with fail
    generalize (w.alloc (.cells #[.slice ad len cap, .int .i64 r] 24)).alloc (.cells #[.int .i64 kq, .string (mk xq), .slice qad qlen qcap] 38) = W0 at h0 ⊢
    rw [← HK1.out, ← HK0.out]
    rw [← HK1.out, ← HK0.out] at h0
    have j0 : JS W0 := (hJS.out _).2 h0.out
    obtain ⟨q0, q1, q2⟩ := h0.out.b.c3
    obtain ⟨c0, c1⟩ := h0.out.ce
    clear h0 HK0 HK1
    go_quiet (fail)
    rename_i nq
    have j1 : JS (W0.drewN nq) := (hJS.out _).2 (((hJS.out _).1 j0).later (below_drewN (Below.refl _ _) nq))
    go_wp2_with (first | (go_at_call 8; refine (HLG.out _ (by assumption)).mono ?_; rintro e w1 ⟨rfl, j2, c0, c1⟩) | (go_at_call 9; refine (HRG.out _ (by assumption)).mono ?_; rintro e w2 ⟨rfl, j3, c0, c1⟩) | (go_at_call 10; refine (HA.out _ ((hJS.out _).1 (by assumption)).bl).mono ?_; rintro e w9 ⟨rfl, HZ⟩))
    go_ret
    exact ⟨rfl, HZ.out⟩
  case pos =>
  obtain ⟨q, rfl⟩ : ∃ q : Nat, a = (q : Int) := ⟨a.toNat, by omega⟩
  clear ha0
  by_cases ha1 : q < len
  case neg =>
    have ha2 : ¬ (q : Int) < (len : Int) := by omega
    clear hT hG hq hq' hl hS
    go_enter Tryz.func7, Tryz.ntmps7
    go_upto_region 1 with fail
    generalize (w.alloc (.cells #[.slice ad len cap, .int .i64 r] 24)).alloc (.cells #[.int .i64 kq, .string (mk xq), .slice qad qlen qcap] 38) = W0 at h0 ⊢
    rw [← HK1.out, ← HK0.out]
    rw [← HK1.out, ← HK0.out] at h0
    have j0 : JS W0 := (hJS.out _).2 h0.out
    obtain ⟨q0, q1, q2⟩ := h0.out.b.c3
    obtain ⟨c0, c1⟩ := h0.out.ce
    clear h0 HK0 HK1
    go_quiet (fail)
    rename_i nq
    have j1 : JS (W0.drewN nq) := (hJS.out _).2 (((hJS.out _).1 j0).later (below_drewN (Below.refl _ _) nq))
    go_wp2_with (first | (go_at_call 8; refine (HLG.out _ (by assumption)).mono ?_; rintro e w1 ⟨rfl, j2, c0, c1⟩) | (go_at_call 9; refine (HRG.out _ (by assumption)).mono ?_; rintro e w2 ⟨rfl, j3, c0, c1⟩) | (go_at_call 10; refine (HA.out _ ((hJS.out _).1 (by assumption)).bl).mono ?_; rintro e w9 ⟨rfl, HZ⟩))
    go_ret
    exact ⟨rfl, HZ.out⟩
  case pos =>
  have ha2 : (q : Int) < (len : Int) := by omega
  have hgn := hG
  obtain ⟨_, _, _, e, hlc, hcm, hr64, hN⟩ := hgn
  cases e
  obtain ⟨b, off, rfl, hb, hc⟩ := hN.2 (by omega)
  obtain ⟨kad, klen, kcap, k1, k2, k3, k4, k5, y0, y1, y2⟩ := hc q ha1
  obtain ⟨kk, hkk⟩ : ∃ kk, kk = (ns.getD q nd0).kind := ⟨_, rfl⟩
  obtain ⟨kx, hkx⟩ : ∃ kx, kx = (ns.getD q nd0).text := ⟨_, rfl⟩
  obtain ⟨l, hl2⟩ : ∃ l, l = (ns.getD q nd0).kids := ⟨_, rfl⟩
  have Hkk : Hid (kk = (ns.getD q nd0).kind) := hkk
  have Hl : Hid (l = (ns.getD q nd0).kids) := hl2
  rw [← hkk] at y0
  rw [← hkx] at y1
  rw [← hl2] at k5
  clear hkk hkx hl2 k3 k4
  have HKL : Hid (klen = l.length) := k5.1
  have hsum : klen ≤ 1000000000 := by
    have h1 := (hS (rgG_facts hq).1).2
    have h2 := kids_sum (mem_getD (by rw [← HL.out]; exact ha1) : ns.getD q nd0 ∈ ns)
    rw [← Hl.out, ← HKL.out] at h2
    omega
  have HC : Hid (∀ W, JS W → W.cell? ⟨b, off + q * 3, none⟩ = some (.int .i64 kk) ∧ W.cell? ⟨b, off + q * 3 + 1, none⟩ = some (.string (mk kx)) ∧ W.cell? ⟨b, off + q * 3 + 2, none⟩ = some (.slice kad klen kcap)) := fun W h => by
    have hbl := ((hJS.out _).1 h).bl
    exact ⟨(hbl.cell (p := ⟨b, off + q * 3, none⟩) hb).trans y0, (hbl.cell (p := ⟨b, off + q * 3 + 1, none⟩) hb).trans y1, (hbl.cell (p := ⟨b, off + q * 3 + 2, none⟩) hb).trans y2⟩
  have HFD : Hid (∀ W k x, JS W → Calls Tryz.prog 16 #[gv (some ⟨b, off, none⟩) len cap r, .int .i64 (q : Int), .int .i64 k, .string (mk x)] W fun e W' => e = .returned (fdV (fnd ns r (q : Int) k x)) ∧ JS W' ∧ Hid (Below W.heap.size W W')) := fun W k x hj => by
    have ht := (hJS.out _).1 hj
    exact (find_any (hG.later ht.bl (Nat.le_refl _)) hS (hT.later ht.bl)).mono (fun e W' q => ⟨q.1, (hJS.out _).2 (ht.later q.2), q.2⟩)
  obtain ⟨T, HTe⟩ : ∃ T, Hid (T = (fnd ns r (q : Int) kq xq).isSome) := ⟨_, rfl⟩
  have HFQ : Hid (∀ W, JS W → Calls Tryz.prog 16 #[gv (some ⟨b, off, none⟩) len cap r, .int .i64 (q : Int), .int .i64 kq, .string (mk xq)] W fun e W' => ∃ z, e = .returned (.tuple #[.int .i64 z, .bool T]) ∧ JS W') := fun W hj => (HFD.out W kq xq hj).mono (fun e W' q' => ⟨(fnd ns r (q : Int) kq xq).getD 0, q'.1.trans (by rw [HTe.out]; rfl), q'.2.1⟩)
  by_cases h6 : kk = 6
  case neg =>
    have hk9 : (kk == 6) = false := by simp [h6]
    have HT0 : Hid (T = false) := by
      show _ = _
      rw [HTe.out]
      unfold fnd
      rw [if_neg (by simp only [Int.toNat_natCast]; exact fun h => h6 (by rw [Hkk.out]; exact h.2.2))]
      rfl
    have hTf : T = false := HT0.out
    subst hTf
    clear HFD HTe HT0 Hkk Hl hG hq hq' hl hS hc hN k5 y0 y1 y2 hT
    go_enter Tryz.func7, Tryz.ntmps7
    go_upto_region 1 with fail
    generalize (w.alloc (.cells #[.slice (some ⟨b, off, none⟩) len cap, .int .i64 r] 24)).alloc (.cells #[.int .i64 kq, .string (mk xq), .slice qad qlen qcap] 38) = W0 at h0 ⊢
    rw [← HK1.out, ← HK0.out]
    rw [← HK1.out, ← HK0.out] at h0
    have j0 : JS W0 := (hJS.out _).2 h0.out
    obtain ⟨q0, q1, q2⟩ := h0.out.b.c3
    obtain ⟨c0, c1⟩ := h0.out.ce
    clear h0 HK0 HK1
    go_quiet (fail)
    rename_i nq
    have j1 : JS (W0.drewN nq) := (hJS.out _).2 (((hJS.out _).1 j0).later (below_drewN (Below.refl _ _) nq))
    go_upto_region 4 with (first | (go_at_call 8; refine (HLG.out _ (by assumption)).mono ?_; rintro e w1 ⟨rfl, j2, c0, c1⟩) | (go_at_call 9; refine (HRG.out _ (by assumption)).mono ?_; rintro e w2 ⟨rfl, j3, c0, c1⟩) | (go_at_call 10; refine (HA.out _ ((hJS.out _).1 (by assumption)).bl).mono ?_; rintro e w9 ⟨rfl, HZ⟩))
    obtain ⟨d2, d3, d4⟩ := HC.out _ j3
    go_upto_region 5 with fail
    have HB : Hid (JS (w2.alloc (.cells #[.int .i64 kk, .string (mk kx), .slice kad klen kcap] 38)) ∧ Bx (w2.alloc (.cells #[.int .i64 kk, .string (mk kx), .slice kad klen kcap] 38)) w2.heap.size #[.int .i64 kk, .string (mk kx), .slice kad klen kcap] 38) := ⟨(hJS.out _).2 (((hJS.out _).1 j3).later (below_alloc _ _)), Bx.new _ _ _⟩
    clear d2 d3 d4 j3 c0 c1
    generalize w2.alloc (.cells #[.int .i64 kk, .string (mk kx), .slice kad klen kcap] 38) = W3 at HB ⊢
    generalize w2.heap.size = K9 at HB ⊢
    have j3 : JS W3 := HB.out.1
    obtain ⟨c0, c1⟩ := ((hJS.out _).1 j3).ce
    obtain ⟨n0, n1, n2⟩ := HB.out.2.c3
    clear HB HC j2 j1 j0
    go_wp2_with fail
    go_loopw [11, 10] (fun i t wr => i = .int .i64 0 ∧ t = .bool false ∧ wr = W3) (fun _ _ _ => 0)
    case atStart => exact ⟨rfl, rfl, rfl⟩
    case round =>
      obtain ⟨rfl, rfl, rfl⟩ := hrel
      by_cases h1 : (1 : Int) < (klen : Int)
      all_goals
        go_wp2_with (first | (go_at_call 16; refine (HFQ.out _ j3).mono ?_; rintro e w7 ⟨z, rfl, j7⟩) | (go_at_call 10; refine (HA.out _ ((hJS.out _).1 (by assumption)).bl).mono ?_; rintro e w9 ⟨rfl, HZ⟩))
        go_ret
        exact ⟨rfl, HZ.out⟩
  case pos =>
  subst h6
  have h6k : (ns.getD q nd0).kind = 6 := Hkk.out.symm
  obtain ⟨H, HH⟩ : ∃ H : Nat, Hid (klen = 2 * H) := ⟨klen / 2, by
    have hev := rg_evn hq _ (mem_getD (by rw [← HL.out]; exact ha1) : ns.getD q nd0 ∈ ns) h6k
    rw [← Hl.out, ← HKL.out] at hev
    show _ = _
    omega⟩
  have HTH : Hid (T = thr ns l kq xq H) := by
    show _ = _
    rw [HTe.out, thr_fnd hq (by rw [← HL.out]; exact ha1) h6k, ← Hl.out, ← HKL.out, HH.out]
    congr 1
    omega
  have HP : Hid (∀ t, t < klen → ∃ p : Nat, l.getD t 0 = (p : Int) ∧ p < len) := fun t ht => by
    have h2 := HKL.out
    have hm : l.getD t 0 ∈ (ns.getD q nd0).kids := by rw [← Hl.out, List.getD_eq_getElem?_getD, List.getElem?_eq_getElem (show t < l.length by omega)]; exact List.getElem_mem _
    obtain ⟨p, e, hp⟩ := isP_nat ((rgG_facts hq).2.2 _ (mem_getD (by rw [← HL.out]; exact ha1)) _ hm)
    exact ⟨p, e, by rw [HL.out]; exact hp⟩
  have HCN : Hid (∀ W, JS W → ∀ p, p < len → ∃ pad plen pcap, W.cell? ⟨b, off + p * 3, none⟩ = some (.int .i64 (ns.getD p nd0).kind) ∧ W.cell? ⟨b, off + p * 3 + 1, none⟩ = some (.string (mk (ns.getD p nd0).text)) ∧ W.cell? ⟨b, off + p * 3 + 2, none⟩ = some (.slice pad plen pcap)) := fun W h p hp => by
    obtain ⟨pad, plen, pcap, _, _, _, _, _, z0, z1, z2⟩ := hc p hp
    have hbl := ((hJS.out _).1 h).bl
    exact ⟨pad, plen, pcap, (hbl.cell (p := ⟨b, off + p * 3, none⟩) hb).trans z0, (hbl.cell (p := ⟨b, off + p * 3 + 1, none⟩) hb).trans z1, (hbl.cell (p := ⟨b, off + p * 3 + 2, none⟩) hb).trans z2⟩
  have HFK : Hid (∀ W j, j < H → JS W → Calls Tryz.prog 16 #[gv (some ⟨b, off, none⟩) len cap r, .int .i64 (q : Int), .int .i64 (kp ns (l.getD (2 * j) 0)).1, .string (mk (kp ns (l.getD (2 * j) 0)).2)] W fun e W' => e = .returned (.tuple #[.int .i64 (l.getD (2 * j + 1) 0), .bool true]) ∧ JS W' ∧ Hid (Below W.heap.size W W')) := fun W j hj hjs => (HFD.out W _ _ hjs).mono (fun e W' q' => by
    have h1 := HH.out
    rw [HKL.out, Hl.out] at h1
    have := fnd_own (j := j) hq (by rw [← HL.out]; exact ha1) h6k (by omega)
    rw [← Hl.out] at this
    rw [this] at q'
    exact q')
  have HKC : Hid (0 < klen → ∃ kb koff, kad = some ⟨kb, koff, none⟩ ∧ ∀ W, JS W → ∀ i, i < klen → W.cell? ⟨kb, koff + i, none⟩ = some (.int .i64 (l.getD i 0))) := fun hp => by
    obtain ⟨kb, koff, e, hkb, hkc⟩ := k5.2 hp
    exact ⟨kb, koff, e, fun W h i hi => (((hJS.out _).1 h).bl.cell (p := ⟨kb, koff + i, none⟩) hkb).trans (hkc i hi).2⟩
  clear HFD HTe Hkk Hl hG hq hq' hl hS hc hN k5 y0 y1 y2 hT h6k
  have hz0 : decide ((q : Int) < 0) = false := decide_eq_false (by omega)
  have hz1 : decide (len ≤ q) = false := decide_eq_false (by omega)
  go_enter Tryz.func7, Tryz.ntmps7
  go_upto_region 1 with fail
  generalize (w.alloc (.cells #[.slice (some ⟨b, off, none⟩) len cap, .int .i64 r] 24)).alloc (.cells #[.int .i64 kq, .string (mk xq), .slice qad qlen qcap] 38) = W0 at h0 ⊢
  rw [← HK1.out, ← HK0.out]
  rw [← HK1.out, ← HK0.out] at h0
  have j0 : JS W0 := (hJS.out _).2 h0.out
  obtain ⟨q0, q1, q2⟩ := h0.out.b.c3
  obtain ⟨c0, c1⟩ := h0.out.ce
  clear h0 HK0 HK1
  go_quiet (fail)
  rename_i nq
  have j1 : JS (W0.drewN nq) := (hJS.out _).2 (((hJS.out _).1 j0).later (below_drewN (Below.refl _ _) nq))
  go_upto_region 4 with (first | (go_at_call 8; refine (HLG.out _ (by assumption)).mono ?_; rintro e w1 ⟨rfl, j2, c0, c1⟩) | (go_at_call 9; refine (HRG.out _ (by assumption)).mono ?_; rintro e w2 ⟨rfl, j3, c0, c1⟩) | (go_at_call 10; refine (HA.out _ ((hJS.out _).1 (by assumption)).bl).mono ?_; rintro e w9 ⟨rfl, HZ⟩))
  obtain ⟨d2, d3, d4⟩ := HC.out _ j3
  go_upto_region 5 with fail
  have HB : Hid (JS (w2.alloc (.cells #[.int .i64 6, .string (mk kx), .slice kad klen kcap] 38)) ∧ Bx (w2.alloc (.cells #[.int .i64 6, .string (mk kx), .slice kad klen kcap] 38)) w2.heap.size #[.int .i64 6, .string (mk kx), .slice kad klen kcap] 38) := ⟨(hJS.out _).2 (((hJS.out _).1 j3).later (below_alloc _ _)), Bx.new _ _ _⟩
  clear d2 d3 d4 j3 c0 c1
  generalize w2.alloc (.cells #[.int .i64 6, .string (mk kx), .slice kad klen kcap] 38) = W3 at HB ⊢
  generalize w2.heap.size = K9 at HB ⊢
  clear HC j2 j1 j0
  go_wp2_with fail
  go_loopw [11, 10] (fun i t wr => ∃ (j m : Nat), j ≤ H ∧ i = .int .i64 (m : Int) ∧ t = .bool (thr ns l kq xq j) ∧ Hid (m = 2 * j ∧ JS wr ∧ Bx wr K9 #[.int .i64 6, .string (mk kx), .slice kad klen kcap] 38)) (fun i _ _ => klen + 1 - (intOf i).toNat)
  case atStart => exact ⟨0, 0, Nat.zero_le _, rfl, rfl, rfl, HB.out.1, HB.out.2⟩
  case round =>
    obtain ⟨j, m, hj, rfl, rfl, HS⟩ := hrel
    have hm2 : m ≤ klen := by have := HH.out; have := HS.out.1; omega
    by_cases hlt : j < H
    · have hm1 : m + 1 < klen := by have := HH.out; have := HS.out.1; omega
      have hm3 : (m : Int) + 1 < (klen : Int) := by omega
      have jr : JS wr := HS.out.2.1
      obtain ⟨c0, c1⟩ := ((hJS.out _).1 jr).ce
      obtain ⟨n0, n1, n2⟩ := HS.out.2.2.c3
      obtain ⟨kb, koff, rfl, hkc⟩ := HKC.out (by omega)
      have HKC2 : Hid (∀ W, JS W → ∀ i, i < klen → W.cell? ⟨kb, koff + i, none⟩ = some (.int .i64 (l.getD i 0))) := hkc
      clear hkc
      have x0 := HKC2.out wr jr m (by omega)
      obtain ⟨p, hp, hpl⟩ := HP.out m (by omega)
      rw [hp] at x0
      have hp2 : (p : Int) < (len : Int) := by omega
      have hp0 : (0 : Int) ≤ (p : Int) := by omega
      have hm0 : (0 : Int) ≤ (m : Int) := by omega
      have hm4 : (m : Int) < (klen : Int) := by omega
      obtain ⟨pad, plen, pcap, f0, f1, f2⟩ := HCN.out wr jr p hpl
      obtain ⟨pk, hpk⟩ : ∃ pk, pk = (ns.getD p nd0).kind := ⟨_, rfl⟩
      obtain ⟨px, hpx⟩ : ∃ px, px = (ns.getD p nd0).text := ⟨_, rfl⟩
      have HKP : Hid (kp ns (l.getD (2 * j) 0) = (pk, px)) := by
        show _ = _
        rw [← HS.out.1, hp, hpk, hpx]
        unfold kp
        rw [Int.toNat_natCast]
      rw [← hpk] at f0
      rw [← hpx] at f1
      clear hpk hpx hp
      go_upto_region 9 with fail
      go_region_held3 (fun w' => w'.cell? ⟨K0, 0, none⟩ = some (.slice (some ⟨b, off, none⟩) len cap) ∧ w'.cell? ⟨K9, 2, none⟩ = some (.slice (some ⟨kb, koff, none⟩) klen kcap) ∧ w'.cell? ⟨kb, koff + m, none⟩ = some (.int .i64 (p : Int)) ∧ w'.cell? ⟨b, off + p * 3, none⟩ = some (.int .i64 pk) ∧ w'.cell? ⟨b, off + p * 3 + 1, none⟩ = some (.string (mk px)) ∧ w'.cell? ⟨b, off + p * 3 + 2, none⟩ = some (.slice pad plen pcap)) (go_keep) (fail)
      have HX : Hid (JS (wr.alloc (.cells #[.int .i64 pk, .string (mk px), .slice pad plen pcap] 38)).drew ∧ Bx (wr.alloc (.cells #[.int .i64 pk, .string (mk px), .slice pad plen pcap] 38)).drew K9 #[.int .i64 6, .string (mk kx), .slice (some ⟨kb, koff, none⟩) klen kcap] 38 ∧ Bx (wr.alloc (.cells #[.int .i64 pk, .string (mk px), .slice pad plen pcap] 38)).drew wr.heap.size #[.int .i64 pk, .string (mk px), .slice pad plen pcap] 38) := by
        have b1 := (below_alloc wr (.cells #[.int .i64 pk, .string (mk px), .slice pad plen pcap] 38)).drew
        exact ⟨(hJS.out _).2 (((hJS.out _).1 jr).later b1), HS.out.2.2.later b1, Bx.new _ _ _⟩
      obtain ⟨v, hv⟩ : ∃ v, v = l.getD (m + 1) 0 := ⟨_, rfl⟩
      have HFK2 : Hid (∀ W, JS W → Calls Tryz.prog 16 #[gv (some ⟨b, off, none⟩) len cap r, .int .i64 (q : Int), .int .i64 pk, .string (mk px)] W fun e W' => e = .returned (.tuple #[.int .i64 v, .bool true]) ∧ JS W' ∧ Hid (Below W.heap.size W W')) := fun W hj => by
        have := HFK.out W j hlt hj
        rw [HKP.out, ← HS.out.1, ← hv] at this
        exact this
      have HKC3 : Hid (∀ W, JS W → W.cell? ⟨kb, koff + (m + 1), none⟩ = some (.int .i64 v)) := fun W h => by rw [hv]; exact HKC2.out W h (m + 1) hm1
      have HTS : Hid (thr ns l kq xq (j + 1) = (thr ns l kq xq j || decide ((pk, px) = (kq, xq)))) := by
        show _ = _
        rw [thr_succ, HKP.out]
      clear hv HFK HKC2 HKP c0 c1 n0 n1 n2 f0 f1 f2 x0 HB HTH HFQ HKC HP HCN
      generalize (wr.alloc (.cells #[.int .i64 pk, .string (mk px), .slice pad plen pcap] 38)).drew = w4 at HX ⊢
      generalize wr.heap.size = K12 at HX ⊢
      have j4 : JS w4 := HX.out.1
      obtain ⟨c0, c1⟩ := ((hJS.out _).1 j4).ce
      obtain ⟨g0, g1, g2⟩ := HX.out.2.2.c3
      have HMM : Hid (m = 2 * j) := HS.out.1
      clear HS jr
      obtain ⟨T0, HT0⟩ : ∃ T0, Hid (T0 = thr ns l kq xq j) := ⟨_, rfl⟩
      rw [← HT0.out] at HTS ⊢
      go_upto_region 11 with (go_at_call 16; refine (HFK2.out _ j4).mono ?_; rintro e w7 ⟨rfl, j7, H7⟩)
      have HX7 : Hid (Bx w7 K9 #[.int .i64 6, .string (mk kx), .slice (some ⟨kb, koff, none⟩) klen kcap] 38 ∧ Bx w7 K12 #[.int .i64 pk, .string (mk px), .slice pad plen pcap] 38) := ⟨HX.out.2.1.later H7.out, HX.out.2.2.later H7.out⟩
      clear HX HFK2 H7 c0 c1 g0 g1 g2 j4
      obtain ⟨n0, n1, n2⟩ := HX7.out.1.c3
      obtain ⟨g0, g1, g2⟩ := HX7.out.2.c3
      have x1 := HKC3.out w7 j7
      have HE : Hid (JS w7 ∧ Bx w7 K9 #[.int .i64 6, .string (mk kx), .slice (some ⟨kb, koff, none⟩) klen kcap] 38) := ⟨j7, HX7.out.1⟩
      clear HX7 HKC3 HT0
      have hw : (T0 = true) ∨ (T0 = false ∧ pk ≠ kq) ∨ (T0 = false ∧ pk = kq ∧ px ≠ xq) ∨ (T0 = false ∧ pk = kq ∧ px = xq) := by
        by_cases h1 : pk = kq
        · by_cases h2 : px = xq
          · cases T0 <;> simp [h1, h2]
          · cases T0 <;> simp [h1, h2]
        · cases T0 <;> simp [h1]
      rcases hw with rfl | ⟨rfl, hk⟩ | ⟨rfl, rfl, hx⟩ | ⟨rfl, rfl, rfl⟩
      case' inl => have HTT : Hid (thr ns l kq xq (j + 1) = true) := HTS.out.trans (by simp)
      case' inr.inl => have HTT : Hid (thr ns l kq xq (j + 1) = false) := HTS.out.trans (by simp [hk])
      case' inr.inr.inl =>
        have HTT : Hid (thr ns l pk xq (j + 1) = false) := HTS.out.trans (by simp [hx])
        have hx3 : ((mk px).toList == (mk xq).toList) = false := by
          rw [ByteArray.toList_eq, ByteArray.toList_eq, mk_data, mk_data]
          exact beq_false_of_ne hx
        clear hx
      case' inr.inr.inr => have HTT : Hid (thr ns l pk px (j + 1) = true) := HTS.out.trans (by simp)
      all_goals
        clear HTS
        go_wp2_with fail
        go_roundw
        case rel => exact ⟨j + 1, m + 2, by omega, by go_num, by rw [HTT.out], by have := HMM.out; show _ = _; omega, HE.out.1, HE.out.2⟩
        case measure => simp [intOf]; omega
    · have hjH : j = H := by omega
      have hm1 : ¬ (m : Int) + 1 < (klen : Int) := by have := HH.out; have := HS.out.1; omega
      have jr : JS wr := HS.out.2.1
      obtain ⟨c0, c1⟩ := ((hJS.out _).1 jr).ce
      obtain ⟨n0, n1, n2⟩ := HS.out.2.2.c3
      subst hjH
      rw [← HTH.out]
      clear HTH HFK HKC HP HCN HS HB
      go_wp2_with (first | (go_at_call 16; refine (HFQ.out _ jr).mono ?_; rintro e w7 ⟨z, rfl, j7⟩) | (go_at_call 10; refine (HA.out _ ((hJS.out _).1 (by assumption)).bl).mono ?_; rintro e w9 ⟨rfl, HZ⟩))
      go_ret
      exact ⟨rfl, HZ.out⟩
theorem finds_walk (v : Value) (g : Gr) (a : Int) (u : Value) (n : Nd) (w : World) (hg : GrV w v g) (ha : (Lit.int .i64 a).wf = true) (hn : NdV w u n) (hT : Tb w) : Calls Tryz.prog 7 #[v, .int .i64 a, u] w fun e w' => e = .returned (.bool true) ∧ Below w.heap.size w w' := by
  have hg' := hg
  obtain ⟨ad, len, cap, rfl, h1, h2, h3, h4⟩ := hg'
  obtain ⟨ad', len', cap', rfl, k1, k2, k3, k4, k5⟩ := hn
  exact finds_core hg hT
end Go.Proofs.YtkggdjghjdakoaaGreatDoor.Alk
end
