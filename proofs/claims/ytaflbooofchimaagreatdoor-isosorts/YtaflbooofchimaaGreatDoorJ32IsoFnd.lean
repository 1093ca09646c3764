/- Several texts as one: IsoFnd, IsoRFd. -/
import Derived.Test.YtaflbooofchimaaGreatDoorJ21IsoShelf
import Derived.Test.YtaflbooofchimaaGreatDoorJ13IsoPlain
import Derived.Test.YtaflbooofchimaaGreatDoorLJ15IsoKey
import Derived.Test.YtaflbooofchimaaGreatDoorJ20GraphRnod2
import Derived.Deep.RegionHeld3
section
/- Find, by its contract. -/
namespace Go.Proofs.YtaflbooofchimaaGreatDoor.Alk
open Utf Rws Pln Flw Grp
open Go.RowKit Go.Shelf
set_option linter.unusedSimpArgs false
set_option linter.unusedVariables false
set_option maxRecDepth 100000
set_option maxHeartbeats 4000000
attribute [local go_sem ↓] Go.wp_at_zero Go.wp_at_succ

/-- the value of a key -/
def fnd (ns : List Nd) (r a k : Int) (x : Ln) : Option Int :=
  if rgG ⟨ns, r⟩ = true ∧ isP ns.length a = true ∧ (ns.getD a.toNat nd0).kind = 6 then ((ens (ns.getD a.toNat nd0).kids).find? (fun p => decide (kp ns p.1 = (k, x)))).map (·.2) else none
theorem find_at {α : Type} {p : α → Bool} (d : α) : ∀ (l : List α) (j : Nat), j < l.length → p (l.getD j d) = true → (∀ i, i < j → p (l.getD i d) = false) → l.find? p = some (l.getD j d)
  | [], j, h, _, _ => absurd h (by simp)
  | a :: t, 0, _, h, _ => by
    rw [List.getD_cons_zero] at h ⊢
    exact List.find?_cons_of_pos h
  | a :: t, j + 1, hj, h, hi => by
    have h0 := hi 0 (by omega)
    rw [List.getD_cons_zero] at h0
    rw [List.find?_cons_of_neg (by rw [h0]; simp), List.getD_cons_succ]
    rw [List.getD_cons_succ] at h
    exact find_at d t j (by simpa using hj) h fun i hi' => by have := hi (i + 1) (by omega); rw [List.getD_cons_succ] at this; exact this
theorem find_no {α : Type} {p : α → Bool} (d : α) (l : List α) (h : ∀ i, i < l.length → p (l.getD i d) = false) : l.find? p = none := by
  rw [List.find?_eq_none]
  intro a ha
  obtain ⟨i, hi, rfl⟩ := List.getElem_of_mem ha
  have := h i hi
  rw [List.getD_eq_getElem?_getD, List.getElem?_eq_getElem hi] at this
  simp only [Option.getD_some] at this
  rw [this]; simp
/-- the value of a Map's key, entry by entry -/
theorem fnd_map {ns : List Nd} {r k : Int} {x : Ln} {a : Nat} (hq : rgG ⟨ns, r⟩ = true) (ha : a < ns.length) (hk : (ns.getD a nd0).kind = 6) : fnd ns r (a : Int) k x = ((ens (ns.getD a nd0).kids).find? (fun p => decide (kp ns p.1 = (k, x)))).map (·.2) := by
  unfold fnd
  rw [if_pos ⟨hq, by unfold Grp.isP; rw [decide_eq_true (by omega), decide_eq_true (by omega)]; rfl, by rw [Int.toNat_natCast]; exact hk⟩, Int.toNat_natCast]
theorem fnd_at {ns : List Nd} {r k : Int} {x : Ln} {a j : Nat} (hq : rgG ⟨ns, r⟩ = true) (ha : a < ns.length) (hk : (ns.getD a nd0).kind = 6) (hj : j < (ns.getD a nd0).kids.length / 2) (he : kp ns ((ns.getD a nd0).kids.getD (2 * j) 0) = (k, x)) (hb : ∀ t, t < j → kp ns ((ns.getD a nd0).kids.getD (2 * t) 0) ≠ (k, x)) :
    fnd ns r (a : Int) k x = some ((ns.getD a nd0).kids.getD (2 * j + 1) 0) := by
  rw [fnd_map hq ha hk]
  generalize (ns.getD a nd0).kids = l at *
  have e := fun i (h : i < l.length / 2) => ens_at (0 : Int) l i (by omega)
  rw [find_at (0, 0) (ens l) j (by rw [ens_len]; exact hj) (by rw [e j hj]; exact decide_eq_true he) (fun i hi => by rw [e i (by omega)]; exact decide_eq_false (hb i hi)), e j hj]
  rfl
theorem fnd_no {ns : List Nd} {r k : Int} {x : Ln} {a : Nat} (hq : rgG ⟨ns, r⟩ = true) (ha : a < ns.length) (hk : (ns.getD a nd0).kind = 6) (hb : ∀ t, t < (ns.getD a nd0).kids.length / 2 → kp ns ((ns.getD a nd0).kids.getD (2 * t) 0) ≠ (k, x)) :
    fnd ns r (a : Int) k x = none := by
  rw [fnd_map hq ha hk]
  generalize (ns.getD a nd0).kids = l at *
  have e := fun i (h : i < l.length / 2) => ens_at (0 : Int) l i (by omega)
  rw [find_no (0, 0) (ens l) fun i hi => by rw [ens_len] at hi; rw [e i hi]; exact decide_eq_false (hb i hi)]
  rfl
/-- what Find answers -/
def fdV (o : Option Int) : Value := .tuple #[.int .i64 (o.getD 0), .bool o.isSome]
theorem find_core {w : World} {ad : Option Addr} {len cap : Nat} {r a k : Int} {x : Ln} {ns : List Nd} (hG : GrV w (gv ad len cap r) ⟨ns, r⟩) (hS : Sml ns) (hT : Tb w) :
    Calls Tryz.prog 17 #[gv ad len cap r, .int .i64 a, .int .i64 k, .string (mk x)] w fun e w' => e = .returned (fdV (fnd ns r a k x)) ∧ Below w.heap.size w w' := by
  unfold fdV
  have h0 : Hid (AgS w (w.alloc (.cells #[.slice ad len cap, .int .i64 r] 24)) w.heap.size ad len cap r ns) := AgS.new (Below.refl _ _) hG
  have HR : Hid (∀ W, Hid (AgS w W w.heap.size ad len cap r ns) → Calls Tryz.prog 22 #[gv ad len cap r] W fun e W' => e = .returned (.bool (rgG ⟨ns, r⟩)) ∧ Hid (AgS w W' w.heap.size ad len cap r ns)) := fun W h => (right_gr h.out.g hS (hT.later h.out.bl)).mono (fun e W' q => ⟨q.1, h.out.later q.2⟩)
  have HL : Hid (len = ns.length) := by obtain ⟨_, _, _, e, _, _, _, hN, _⟩ := hG; cases e; exact hN
  clear hT
  cases hq : rgG ⟨ns, r⟩
  case false =>
    rw [hq] at HR
    have HN : Hid (fnd ns r a k x = none) := by
      show _ = _
      unfold fnd
      rw [if_neg (by rw [hq]; simp)]
    rw [HN.out]
    clear hq
    clear hG HN
    go_enter Tryz.func17, Tryz.ntmps17
    go_wp2_with (go_at_call 22; refine (HR.out _ h0).mono ?_; rintro e w1 ⟨rfl, H1⟩; obtain ⟨d0, d1⟩ := H1.out.b.c2)
    go_ret2
    exact ⟨rfl, H1.out.bl⟩
  case true =>
  have hq' := hq
  rw [hq] at HR
  have hcap : len ≤ 4096 := by have := (rgG_facts hq).1; rw [HL.out]; exact this
  by_cases ha0 : 0 ≤ a
  case neg =>
    have HN : Hid (fnd ns r a k x = none) := by
      show _ = _
      unfold fnd
      rw [if_neg (by unfold Grp.isP; simp [ha0])]
    rw [HN.out]
    clear hq hq'
    clear hG HN
    go_enter Tryz.func17, Tryz.ntmps17
    go_wp2_with (go_at_call 22; refine (HR.out _ h0).mono ?_; rintro e w1 ⟨rfl, H1⟩; obtain ⟨d0, d1⟩ := H1.out.b.c2)
    go_ret2
    exact ⟨rfl, H1.out.bl⟩
  case pos =>
  obtain ⟨q, rfl⟩ : ∃ q : Nat, a = (q : Int) := ⟨a.toNat, by omega⟩
  clear ha0
  by_cases ha1 : q < len
  case neg =>
    have ha2 : ¬ (q : Int) < (len : Int) := by omega
    have HN : Hid (fnd ns r (q : Int) k x = none) := by
      show _ = _
      unfold fnd
      rw [if_neg (by unfold Grp.isP; rw [← HL.out]; simp; omega)]
    rw [HN.out]
    clear hq hq'
    clear hG HN
    go_enter Tryz.func17, Tryz.ntmps17
    go_wp2_with (go_at_call 22; refine (HR.out _ h0).mono ?_; rintro e w1 ⟨rfl, H1⟩; obtain ⟨d0, d1⟩ := H1.out.b.c2)
    go_ret2
    exact ⟨rfl, H1.out.bl⟩
  case pos =>
  have ha2 : (q : Int) < (len : Int) := by omega
  have hgn := hG
  obtain ⟨_, _, _, e, hlc, hcm, hr64, hN⟩ := hgn
  cases e
  obtain ⟨b, off, rfl, hb, hc⟩ := hN.2 (by omega)
  obtain ⟨kad, klen, kcap, k1, k2, k3, k4, k5, y0, y1, y2⟩ := hc q ha1
  obtain ⟨kk, hkk⟩ : ∃ kk, kk = (ns.getD q nd0).kind := ⟨_, rfl⟩
  obtain ⟨kx, hkx⟩ : ∃ kx, kx = (ns.getD q nd0).text := ⟨_, rfl⟩
  obtain ⟨l, hl⟩ : ∃ l, l = (ns.getD q nd0).kids := ⟨_, rfl⟩
  have Hkk : Hid (kk = (ns.getD q nd0).kind) := hkk
  have Hl : Hid (l = (ns.getD q nd0).kids) := hl
  rw [← hkk] at y0
  rw [← hkx] at y1
  rw [← hl] at k5
  clear hkk hkx hl k3 k4
  have HC : Hid (∀ W, Hid (AgS w W w.heap.size (some ⟨b, off, none⟩) len cap r ns) → W.cell? ⟨b, off + q * 3, none⟩ = some (.int .i64 kk) ∧ W.cell? ⟨b, off + q * 3 + 1, none⟩ = some (.string (mk kx)) ∧ W.cell? ⟨b, off + q * 3 + 2, none⟩ = some (.slice kad klen kcap)) := fun W h => ⟨(h.out.bl.cell (p := ⟨b, off + q * 3, none⟩) hb).trans y0, (h.out.bl.cell (p := ⟨b, off + q * 3 + 1, none⟩) hb).trans y1, (h.out.bl.cell (p := ⟨b, off + q * 3 + 2, none⟩) hb).trans y2⟩
  by_cases h6 : kk = 6
  case neg =>
    have h6' : ¬ (ns.getD q nd0).kind = 6 := by rw [← Hkk.out]; exact h6
    have hk9 : (kk != 6) = true := by simp [h6]
    have HN : Hid (fnd ns r (q : Int) k x = none) := by
      show _ = _
      unfold fnd
      rw [if_neg (by simp only [Int.toNat_natCast]; exact fun h => h6' h.2.2)]
    rw [HN.out]
    clear hq hq' h6' hc hN k5 y0 y1 y2
    clear hG HN
    go_enter Tryz.func17, Tryz.ntmps17
    go_wp2_with (go_at_call 22; refine (HR.out _ h0).mono ?_; rintro e w1 ⟨rfl, H1⟩; obtain ⟨d0, d1⟩ := H1.out.b.c2; obtain ⟨d2, d3, d4⟩ := HC.out _ H1)
    go_ret2
    exact ⟨rfl, H1.out.bl⟩
  case pos =>
  subst h6
  have h6k : (ns.getD q nd0).kind = 6 := Hkk.out.symm
  have HKL : Hid (klen = l.length) := k5.1
  have hsum : klen ≤ 1000000000 := by
    have h1 := (hS (rgG_facts hq).1).2
    have h2 := kids_sum (mem_getD (by rw [← HL.out]; exact ha1) : ns.getD q nd0 ∈ ns)
    rw [← Hl.out, ← HKL.out] at h2
    omega
  obtain ⟨H, HH⟩ : ∃ H : Nat, Hid (H = klen / 2) := ⟨_, rfl⟩
  have hH9 : H ≤ 1000000000 := by have := HH.out; omega
  have HEn : Hid (∀ W, Below w.heap.size w W → Calls Tryz.prog 34 #[nv 6 kx kad klen kcap] W fun e W' => ∃ E, e = .returned (.slice (some ⟨E, 0, none⟩) H H) ∧ Hid (Bx W' E (iA (eF l (l.length / 2)) (2 * (l.length / 2))) 63 ∧ W.heap.size ≤ E ∧ Below W.heap.size W W')) := fun W hb => (entriesOf_any (k5.later hb (Nat.le_refl _)) hsum).mono (fun e W' q => by
    obtain ⟨E, q1, q2⟩ := q
    refine ⟨E, by rw [HH.out]; exact q1, ?_⟩
    rw [← HKL.out]
    exact q2)
  -- the keys' places
  have HP : Hid (∀ t, t < H → ∃ p : Nat, l.getD (2 * t) 0 = (p : Int) ∧ p < len) := fun t ht => by
    have h1 := HH.out
    have h2 := HKL.out
    have hm : l.getD (2 * t) 0 ∈ (ns.getD q nd0).kids := by rw [← Hl.out, List.getD_eq_getElem?_getD, List.getElem?_eq_getElem (show 2 * t < l.length by omega)]; exact List.getElem_mem _
    obtain ⟨p, e, hp⟩ := isP_nat ((rgG_facts hq).2.2 _ (mem_getD (by rw [← HL.out]; exact ha1)) _ hm)
    exact ⟨p, e, by rw [HL.out]; exact hp⟩
  have HCN : Hid (∀ W, Below w.heap.size w W → ∀ p, p < len → ∃ pad plen pcap, W.cell? ⟨b, off + p * 3, none⟩ = some (.int .i64 (ns.getD p nd0).kind) ∧ W.cell? ⟨b, off + p * 3 + 1, none⟩ = some (.string (mk (ns.getD p nd0).text)) ∧ W.cell? ⟨b, off + p * 3 + 2, none⟩ = some (.slice pad plen pcap)) := fun W h p hp => by
    obtain ⟨pad, plen, pcap, _, _, _, _, _, z0, z1, z2⟩ := hc p hp
    exact ⟨pad, plen, pcap, (h.cell (p := ⟨b, off + p * 3, none⟩) hb).trans z0, (h.cell (p := ⟨b, off + p * 3 + 1, none⟩) hb).trans z1, (h.cell (p := ⟨b, off + p * 3 + 2, none⟩) hb).trans z2⟩
  have HF : Hid (∀ j, j < H → kp ns (l.getD (2 * j) 0) = (k, x) → (∀ t, t < j → kp ns (l.getD (2 * t) 0) ≠ (k, x)) → fnd ns r (q : Int) k x = some (l.getD (2 * j + 1) 0)) := fun j hj he hbf => by
    have := HH.out
    rw [HKL.out, Hl.out] at this
    rw [Hl.out] at he hbf ⊢
    exact fnd_at hq (by rw [← HL.out]; exact ha1) h6k (by omega) he hbf
  have HZ : Hid ((∀ t, t < H → kp ns (l.getD (2 * t) 0) ≠ (k, x)) → fnd ns r (q : Int) k x = none) := fun hbf => by
    have := HH.out
    rw [HKL.out, Hl.out] at this
    rw [Hl.out] at hbf
    exact fnd_no hq (by rw [← HL.out]; exact ha1) h6k (fun t ht => hbf t (by omega))
  obtain ⟨K0, HK0⟩ : ∃ K0, Hid (K0 = w.heap.size) := ⟨_, rfl⟩
  clear hG hq hq' hc hN k5 y0 y1 y2 h6k Hkk hS
  go_enter Tryz.func17, Tryz.ntmps17
  go_wp2_with fail
  refine (HR.out _ h0).mono ?_
  rintro e w1 ⟨rfl, H1⟩
  obtain ⟨d0, d1⟩ := H1.out.b.c2
  obtain ⟨d2, d3, d4⟩ := HC.out _ H1
  go_wp2_with (go_at_call 34; refine (HEn.out _ H1.out.bl).mono ?_; rintro e W1 ⟨E, rfl, H2⟩)
  have H3 : Hid (AgS w W1 w.heap.size (some ⟨b, off, none⟩) len cap r ns) := H1.out.later H2.out.2.2
  have H4 : Hid (Bx W1 E (iA (eF l (l.length / 2)) (2 * (l.length / 2))) 63) := H2.out.1
  have HEc : Hid (∀ W, Below W1.heap.size W1 W → ∀ j, j < H → W.cell? ⟨E, j * 2, none⟩ = some (.int .i64 (l.getD (2 * j) 0)) ∧ W.cell? ⟨E, j * 2 + 1, none⟩ = some (.int .i64 (l.getD (2 * j + 1) 0))) := fun W hW j hj => by
    have h1 := HH.out
    have h2 := HKL.out
    have hE := H4.out.later hW
    refine ⟨?_, ?_⟩
    · rw [hE.cell (j * 2), iA_get _ (show j * 2 < 2 * (l.length / 2) by omega)]
      unfold eF
      rw [if_pos (by omega), Nat.mul_comm]
    · rw [hE.cell (j * 2 + 1), iA_get _ (show j * 2 + 1 < 2 * (l.length / 2) by omega)]
      unfold eF
      rw [if_pos (by omega), Nat.mul_comm]
  clear HR h0 HEn HC H1 H2 H4 d0 d1 d2 d3 d4
  go_loopw [43] (fun i wr => ∃ j : Nat, j ≤ H ∧ i = .int .i64 (j : Int) ∧ Hid (Below W1.heap.size W1 wr ∧ ∀ t, t < j → kp ns (l.getD (2 * t) 0) ≠ (k, x))) (fun i _ => H - (intOf i).toNat)
  case atStart => exact ⟨0, Nat.zero_le _, rfl, Below.refl _ _, fun t ht => absurd ht (by omega)⟩
  case round =>
    obtain ⟨j, hj, rfl, HS⟩ := hrel
    by_cases hlt : j < H
    · obtain ⟨z0, z1⟩ := HEc.out wr HS.out.1 j hlt
      obtain ⟨p, hp, hpl⟩ := HP.out j hlt
      have hp2 : (p : Int) < (len : Int) := by omega
      obtain ⟨v, hv⟩ : ∃ v, v = l.getD (2 * j + 1) 0 := ⟨_, rfl⟩
      have Hv : Hid (v = l.getD (2 * j + 1) 0) := hv
      have Hp : Hid (l.getD (2 * j) 0 = (p : Int)) := hp
      rw [hp] at z0
      rw [← hv] at z1
      clear hp hv
      go_upto_region 6 with fail
      have HB1 : Hid (AgS w (wr.alloc (.cells #[.int .i64 (p : Int), .int .i64 v] 63)) w.heap.size (some ⟨b, off, none⟩) len cap r ns ∧ Below W1.heap.size W1 (wr.alloc (.cells #[.int .i64 (p : Int), .int .i64 v] 63)) ∧ Bx (wr.alloc (.cells #[.int .i64 (p : Int), .int .i64 v] 63)) wr.heap.size #[.int .i64 (p : Int), .int .i64 v] 63) := by
        have b1 := below_alloc wr (.cells #[.int .i64 (p : Int), .int .i64 v] 63)
        have b2 := HS.out.1.trans (b1.mono HS.out.1.size)
        exact ⟨H3.out.later b2, b2, Bx.new _ _ _⟩
      clear z0 z1
      generalize wr.alloc (.cells #[.int .i64 (p : Int), .int .i64 v] 63) = w2 at HB1 ⊢
      generalize wr.heap.size = T at HB1 ⊢
      obtain ⟨d0, d1⟩ := HB1.out.1.b.c2
      obtain ⟨e0, e1⟩ := HB1.out.2.2.c2
      obtain ⟨pad, plen, pcap, f0, f1, f2⟩ := HCN.out w2 HB1.out.1.bl p hpl
      obtain ⟨pk, hpk⟩ : ∃ pk, pk = (ns.getD p nd0).kind := ⟨_, rfl⟩
      obtain ⟨px, hpx⟩ : ∃ px, px = (ns.getD p nd0).text := ⟨_, rfl⟩
      have HKP : Hid (kp ns (l.getD (2 * j) 0) = (pk, px)) := by
        show _ = _
        rw [Hp.out, hpk, hpx]
        unfold kp
        rw [Int.toNat_natCast]
      rw [← hpk] at f0
      rw [← hpx] at f1
      clear hpk hpx
      go_upto_region 7 with fail
      have HB2 : Hid (AgS w (w2.alloc (.cells #[.int .i64 pk, .string (mk px), .slice pad plen pcap] 35)) w.heap.size (some ⟨b, off, none⟩) len cap r ns ∧ Below W1.heap.size W1 (w2.alloc (.cells #[.int .i64 pk, .string (mk px), .slice pad plen pcap] 35)) ∧ Bx (w2.alloc (.cells #[.int .i64 pk, .string (mk px), .slice pad plen pcap] 35)) T #[.int .i64 (p : Int), .int .i64 v] 63 ∧ Bx (w2.alloc (.cells #[.int .i64 pk, .string (mk px), .slice pad plen pcap] 35)) w2.heap.size #[.int .i64 pk, .string (mk px), .slice pad plen pcap] 35) := by
        have b1 := below_alloc w2 (.cells #[.int .i64 pk, .string (mk px), .slice pad plen pcap] 35)
        exact ⟨HB1.out.1.later b1, HB1.out.2.1.trans (b1.mono HB1.out.2.1.size), HB1.out.2.2.later b1, Bx.new _ _ _⟩
      clear d0 d1 e0 e1 f0 f1 f2 HB1
      generalize w2.alloc (.cells #[.int .i64 pk, .string (mk px), .slice pad plen pcap] 35) = w3 at HB2 ⊢
      generalize w2.heap.size = T2 at HB2 ⊢
      obtain ⟨e0, e1⟩ := HB2.out.2.2.1.c2
      obtain ⟨g0, g1, g2⟩ := HB2.out.2.2.2.c3
      by_cases hk : pk = k
      · subst hk
        by_cases hx : px = x
        · subst hx
          have HV : Hid (fnd ns r (q : Int) pk px = some v) := by
            show _ = _
            rw [Hv.out]
            exact HF.out j hlt HKP.out HS.out.2
          have HBF : Hid (Below w.heap.size w w3) := HB2.out.1.bl
          clear HF HZ HCN HP HEc HB2 HS Hp Hv HKP
          go_wp2_with fail
          go_ret2
          exact ⟨by rw [HV.out]; rfl, HBF.out⟩
        · have hx3 : ((mk px).toList == (mk x).toList) = false := by
            rw [ByteArray.toList_eq, ByteArray.toList_eq, mk_data, mk_data]
            exact beq_false_of_ne hx
          have HS2 : Hid (Below W1.heap.size W1 w3 ∧ ∀ t, t < j + 1 → kp ns (l.getD (2 * t) 0) ≠ (pk, x)) := by
            refine ⟨HB2.out.2.1, fun t ht => ?_⟩
            by_cases h : t = j
            · rw [h, HKP.out]; intro e; exact hx (congrArg Prod.snd e)
            · exact HS.out.2 t (by omega)
          clear hx HF HZ HCN HP HEc HB2 HS Hp Hv HKP
          go_wp2_with fail
          go_roundw
          case rel => exact ⟨j + 1, by omega, by go_num, HS2⟩
          case measure => simp [intOf]; omega
      · have HS2 : Hid (Below W1.heap.size W1 w3 ∧ ∀ t, t < j + 1 → kp ns (l.getD (2 * t) 0) ≠ (k, x)) := by
          refine ⟨HB2.out.2.1, fun t ht => ?_⟩
          by_cases h : t = j
          · rw [h, HKP.out]; intro e; exact hk (congrArg Prod.fst e)
          · exact HS.out.2 t (by omega)
        clear HF HZ HCN HP HEc HB2 HS Hp Hv HKP
        go_wp2_with fail
        go_roundw
        case rel => exact ⟨j + 1, by omega, by go_num, HS2⟩
        case measure => simp [intOf]; omega
    · have hjH : j = H := by omega
      have HV : Hid (fnd ns r (q : Int) k x = none) := HZ.out fun t ht => HS.out.2 t (by omega)
      have HBF : Hid (Below w.heap.size w wr) := (H3.out.later HS.out.1).bl
      clear HF HZ HCN HP HEc HS hjH
      go_wp2_with fail
      go_ret2
      exact ⟨by rw [HV.out]; rfl, HBF.out⟩
theorem find_any {w : World} {v : Value} {g : Gr} {a k : Int} {x : Ln} (h : GrV w v g) (hS : Sml g.nodes) (hT : Tb w) :
    Calls Tryz.prog 17 #[v, .int .i64 a, .int .i64 k, .string (mk x)] w fun e w' => e = .returned (fdV (fnd g.nodes g.root a k x)) ∧ Below w.heap.size w w' := by
  have h' := h
  obtain ⟨ad, len, cap, rfl, h1, h2, h3, h4⟩ := h'
  exact find_core h hS hT
end Go.Proofs.YtaflbooofchimaaGreatDoor.Alk
end

section
/- The document's Find, by its contract. -/
namespace Go.Proofs.YtaflbooofchimaaGreatDoor.Alk
open Utf Rws Pln Flw Grp
open Go.RowKit Go.Shelf
set_option linter.unusedSimpArgs false
set_option linter.unusedVariables false
set_option maxRecDepth 100000
set_option maxHeartbeats 4000000
attribute [local go_sem ↓] Go.wp_at_zero Go.wp_at_succ

theorem ky_first {ms : List Nd} {l : List Int} {q : Lb} {t : Nat} (h : ky ms l q = some t) : ∀ s, s < t → kp ms (l.getD (2 * s) 0) ≠ q := by
  unfold ky at h
  rw [List.find?_range_eq_some] at h
  intro s hs e
  have := h.2.2 s hs
  rw [decide_eq_true e] at this
  exact absurd this (by decide)
theorem ky_none {ms : List Nd} {l : List Int} {q : Lb} (h : ky ms l q = none) : ∀ s, s < l.length / 2 → kp ms (l.getD (2 * s) 0) ≠ q := by
  unfold ky at h
  rw [List.find?_eq_none] at h
  intro s hs e
  exact h s (List.mem_range.2 hs) (decide_eq_true e)
theorem rfind_core {w : World} {ad : Option Addr} {len cap : Nat} {r a k : Int} {x : Ln} {ns : List Nd} (hG : GrV w (gv ad len cap r) ⟨ns, r⟩) (hS : Sm2 ns) :
    Calls Tryz.prog 18 #[gv ad len cap r, .int .i64 a, .int .i64 k, .string (mk x)] w fun e w' => e = .returned (fdV (fnd ns r a k x)) ∧ Below w.heap.size w w' := by
  unfold fdV
  have h0 : Hid (AgS w (w.alloc (.cells #[.slice ad len cap, .int .i64 r] 24)) w.heap.size ad len cap r ns) := AgS.new (Below.refl _ _) hG
  have HR : Hid (∀ W, Hid (AgS w W w.heap.size ad len cap r ns) → Calls Tryz.prog 25 #[gv ad len cap r] W fun e W' => e = .returned (.bool (rgG ⟨ns, r⟩)) ∧ Hid (AgS w W' w.heap.size ad len cap r ns)) := fun W h => (rright12_any h.out.g hS).mono (fun e W' q => ⟨q.1, h.out.later q.2⟩)
  have HL : Hid (len = ns.length) := by obtain ⟨_, _, _, e, _, _, _, hN, _⟩ := hG; cases e; exact hN
  cases hq : rgG ⟨ns, r⟩
  case false =>
    rw [hq] at HR
    have HN : Hid (fnd ns r a k x = none) := by
      show _ = _
      unfold fnd
      rw [if_neg (by rw [hq]; simp)]
    rw [HN.out]
    clear hq
    clear hG HN
    go_enter Tryz.func18, Tryz.ntmps18
    go_wp2_with (go_at_call 25; refine (HR.out _ h0).mono ?_; rintro e w1 ⟨rfl, H1⟩; obtain ⟨d0, d1⟩ := H1.out.b.c2)
    go_ret2
    exact ⟨rfl, H1.out.bl⟩
  case true =>
  have hq' := hq
  rw [hq] at HR
  have hcap : len ≤ 4096 := by have := (rgG_facts hq).1; rw [HL.out]; exact this
  by_cases ha0 : 0 ≤ a
  case neg =>
    have HN : Hid (fnd ns r a k x = none) := by
      show _ = _
      unfold fnd
      rw [if_neg (by unfold Grp.isP; simp [ha0])]
    rw [HN.out]
    clear hq hq'
    clear hG HN
    go_enter Tryz.func18, Tryz.ntmps18
    go_wp2_with (go_at_call 25; refine (HR.out _ h0).mono ?_; rintro e w1 ⟨rfl, H1⟩; obtain ⟨d0, d1⟩ := H1.out.b.c2)
    go_ret2
    exact ⟨rfl, H1.out.bl⟩
  case pos =>
  obtain ⟨q, rfl⟩ : ∃ q : Nat, a = (q : Int) := ⟨a.toNat, by omega⟩
  clear ha0
  by_cases ha1 : q < len
  case neg =>
    have ha2 : ¬ (q : Int) < (len : Int) := by omega
    have HN : Hid (fnd ns r (q : Int) k x = none) := by
      show _ = _
      unfold fnd
      rw [if_neg (by unfold Grp.isP; rw [← HL.out]; simp; omega)]
    rw [HN.out]
    clear hq hq'
    clear hG HN
    go_enter Tryz.func18, Tryz.ntmps18
    go_wp2_with (go_at_call 25; refine (HR.out _ h0).mono ?_; rintro e w1 ⟨rfl, H1⟩; obtain ⟨d0, d1⟩ := H1.out.b.c2)
    go_ret2
    exact ⟨rfl, H1.out.bl⟩
  case pos =>
  have ha2 : (q : Int) < (len : Int) := by omega
  have hgn := hG
  obtain ⟨_, _, _, e, hlc, hcm, hr64, hN⟩ := hgn
  cases e
  obtain ⟨b, off, rfl, hb, hc⟩ := hN.2 (by omega)
  obtain ⟨kad, klen, kcap, k1, k2, k3, k4, k5, y0, y1, y2⟩ := hc q ha1
  obtain ⟨kk, hkk⟩ : ∃ kk, kk = (ns.getD q nd0).kind := ⟨_, rfl⟩
  obtain ⟨kx, hkx⟩ : ∃ kx, kx = (ns.getD q nd0).text := ⟨_, rfl⟩
  obtain ⟨l, hl⟩ : ∃ l, l = (ns.getD q nd0).kids := ⟨_, rfl⟩
  have Hkk : Hid (kk = (ns.getD q nd0).kind) := hkk
  have Hl : Hid (l = (ns.getD q nd0).kids) := hl
  rw [← hkk] at y0
  rw [← hkx] at y1
  rw [← hl] at k5
  clear hkk hkx hl k3 k4
  have HC : Hid (∀ W, Hid (AgS w W w.heap.size (some ⟨b, off, none⟩) len cap r ns) → W.cell? ⟨b, off + q * 3, none⟩ = some (.int .i64 kk) ∧ W.cell? ⟨b, off + q * 3 + 1, none⟩ = some (.string (mk kx)) ∧ W.cell? ⟨b, off + q * 3 + 2, none⟩ = some (.slice kad klen kcap)) := fun W h => ⟨(h.out.bl.cell (p := ⟨b, off + q * 3, none⟩) hb).trans y0, (h.out.bl.cell (p := ⟨b, off + q * 3 + 1, none⟩) hb).trans y1, (h.out.bl.cell (p := ⟨b, off + q * 3 + 2, none⟩) hb).trans y2⟩
  by_cases h6 : kk = 6
  case neg =>
    have h6' : ¬ (ns.getD q nd0).kind = 6 := by rw [← Hkk.out]; exact h6
    have hk9 : (kk != 6) = true := by simp [h6]
    have HN : Hid (fnd ns r (q : Int) k x = none) := by
      show _ = _
      unfold fnd
      rw [if_neg (by simp only [Int.toNat_natCast]; exact fun h => h6' h.2.2)]
    rw [HN.out]
    clear hq hq' h6' hc hN k5 y0 y1 y2
    clear hG HN
    go_enter Tryz.func18, Tryz.ntmps18
    go_wp2_with (go_at_call 25; refine (HR.out _ h0).mono ?_; rintro e w1 ⟨rfl, H1⟩; obtain ⟨d0, d1⟩ := H1.out.b.c2; obtain ⟨d2, d3, d4⟩ := HC.out _ H1)
    go_ret2
    exact ⟨rfl, H1.out.bl⟩
  case pos =>
  subst h6
  have h6k : (ns.getD q nd0).kind = 6 := Hkk.out.symm
  have HKL : Hid (klen = l.length) := k5.1
  have hsum : klen ≤ 1000000000 := by
    have h1 := (hS (rgG_facts hq).1).2
    have h2 := kids_sum (mem_getD (by rw [← HL.out]; exact ha1) : ns.getD q nd0 ∈ ns)
    rw [← Hl.out, ← HKL.out] at h2
    omega
  have hks : ∀ z ∈ l, isP len z = true := fun z hz => by
    rw [HL.out]
    exact (rgG_facts hq).2.2 _ (mem_getD (by rw [← HL.out]; exact ha1)) _ (by rw [← Hl.out]; exact hz)
  have hN' : NAt w (some ⟨b, off, none⟩) len ns := hN
  have HK : Hid (∀ W, Hid (AgS w W w.heap.size (some ⟨b, off, none⟩) len cap r ns) → Calls Tryz.prog 35 #[gv (some ⟨b, off, none⟩) len cap r, nv 6 kx kad klen kcap, .int .i64 k, .string (mk x)] W fun e W' => e = .returned (.int .i64 (kyI (ky ns l (k, x)))) ∧ Hid (AgS w W' w.heap.size (some ⟨b, off, none⟩) len cap r ns)) := fun W h => (key_any hcap (hN'.later h.out.bl (Nat.le_refl _)) (k5.later h.out.bl (Nat.le_refl _)) hsum hks).mono (fun e W' z => ⟨z.1, h.out.later z.2⟩)
  cases hky : ky ns l (k, x)
  case none =>
    rw [hky] at HK
    simp only [kyI] at HK
    have HV : Hid (fnd ns r (q : Int) k x = none) := fnd_no hq (by rw [← HL.out]; exact ha1) h6k (by rw [← Hl.out]; exact ky_none hky)
    rw [HV.out]
    clear hG hq hq' hc hN hN' k5 y0 y1 y2 h6k Hkk hS hky HV hks
    go_enter Tryz.func18, Tryz.ntmps18
    go_upto_region 3 with (go_at_call 25; refine (HR.out _ h0).mono ?_; rintro e w1 ⟨rfl, H1⟩; obtain ⟨d0, d1⟩ := H1.out.b.c2; obtain ⟨d2, d3, d4⟩ := HC.out _ H1)
    go_region_held3 (fun w' => w'.cell? ⟨w.heap.size, 0, none⟩ = some (.slice (some ⟨b, off, none⟩) len cap) ∧ w'.cell? ⟨w.heap.size, 1, none⟩ = some (.int .i64 r) ∧ w'.cell? ⟨b, off + q * 3, none⟩ = some (.int .i64 6) ∧ w'.cell? ⟨b, off + q * 3 + 1, none⟩ = some (.string (mk kx)) ∧ w'.cell? ⟨b, off + q * 3 + 2, none⟩ = some (.slice kad klen kcap)) (go_keep) (first | (go_at_call 35; refine (HK.out _ (show Hid _ from H1.out.later (Below.refl _ w1).drew)).mono ?_; rintro e w2 ⟨rfl, H2⟩; obtain ⟨e0, e1⟩ := H2.out.b.c2; obtain ⟨e2, e3, e4⟩ := HC.out _ H2))
    go_wp2
    go_ret2
    exact ⟨rfl, H2.out.bl⟩
  case some t =>
    rw [hky] at HK
    simp only [kyI] at HK
    obtain ⟨ht1, ht2⟩ := ky_is hky
    have HV : Hid (fnd ns r (q : Int) k x = some (l.getD (2 * t + 1) 0)) := by
      have z := fnd_at (r := r) hq (by rw [← HL.out]; exact ha1) h6k (j := t) (k := k) (x := x) (by rw [← Hl.out]; exact ht1) (by rw [← Hl.out]; exact ht2) (by rw [← Hl.out]; exact ky_first hky)
      rw [← Hl.out] at z
      exact z
    rw [HV.out]
    obtain ⟨V, hV⟩ : ∃ V, V = 2 * t := ⟨_, rfl⟩
    rw [← hV] at HK ⊢
    have hVb : V + 1 < klen := by have := HKL.out; omega
    have hV0 : ¬ (V : Int) < 0 := by omega
    have hV1 : (0 : Int) ≤ (V : Int) + 1 := by omega
    have hV2 : (V : Int) + 1 < (klen : Int) := by omega
    obtain ⟨kb, koff, rfl, hkb, hkc⟩ := k5.2 (by omega)
    have HKC : Hid (∀ W, Hid (AgS w W w.heap.size (some ⟨b, off, none⟩) len cap r ns) → W.cell? ⟨kb, koff + (V + 1), none⟩ = some (.int .i64 (l.getD (V + 1) 0))) := fun W h => (h.out.bl.cell (p := ⟨kb, koff + (V + 1), none⟩) hkb).trans (hkc (V + 1) hVb).2
    obtain ⟨v, hv⟩ : ∃ v, v = l.getD (V + 1) 0 := ⟨_, rfl⟩
    rw [← hv] at HKC ⊢
    clear hv hV ht1 ht2 hkb hkc
    clear hG hq hq' hc hN hN' k5 y0 y1 y2 h6k Hkk hS hky HV hks
    go_enter Tryz.func18, Tryz.ntmps18
    go_upto_region 3 with (go_at_call 25; refine (HR.out _ h0).mono ?_; rintro e w1 ⟨rfl, H1⟩; obtain ⟨d0, d1⟩ := H1.out.b.c2; obtain ⟨d2, d3, d4⟩ := HC.out _ H1)
    go_region_held3 (fun w' => w'.cell? ⟨w.heap.size, 0, none⟩ = some (.slice (some ⟨b, off, none⟩) len cap) ∧ w'.cell? ⟨w.heap.size, 1, none⟩ = some (.int .i64 r) ∧ w'.cell? ⟨b, off + q * 3, none⟩ = some (.int .i64 6) ∧ w'.cell? ⟨b, off + q * 3 + 1, none⟩ = some (.string (mk kx)) ∧ w'.cell? ⟨b, off + q * 3 + 2, none⟩ = some (.slice (some ⟨kb, koff, none⟩) klen kcap)) (go_keep) (first | (go_at_call 35; refine (HK.out _ (show Hid _ from H1.out.later (Below.refl _ w1).drew)).mono ?_; rintro e w2 ⟨rfl, H2⟩; obtain ⟨e0, e1⟩ := H2.out.b.c2; obtain ⟨e2, e3, e4⟩ := HC.out _ H2; have e5 := HKC.out _ H2))
    go_wp2
    go_ret2
    exact ⟨rfl, H2.out.bl⟩
theorem rfind_any {w : World} {v : Value} {g : Gr} {a k : Int} {x : Ln} (h : GrV w v g) (hS : Sm2 g.nodes) :
    Calls Tryz.prog 18 #[v, .int .i64 a, .int .i64 k, .string (mk x)] w fun e w' => e = .returned (fdV (fnd g.nodes g.root a k x)) ∧ Below w.heap.size w w' := by
  have h' := h
  obtain ⟨ad, len, cap, rfl, h1, h2, h3, h4⟩ := h'
  exact rfind_core h hS
end Go.Proofs.YtaflbooofchimaaGreatDoor.Alk
end
