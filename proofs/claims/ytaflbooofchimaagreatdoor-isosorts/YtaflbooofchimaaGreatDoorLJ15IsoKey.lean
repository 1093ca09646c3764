/- Several texts as one: IsoKey. -/
import Derived.Test.YtaflbooofchimaaGreatDoorJ13IsoPlain
import Derived.Deep.RegionHeld3
section
/- The document's key, by its contract. -/
namespace Go.Proofs.YtaflbooofchimaaGreatDoor.Alk
open Utf Rws Pln Flw Grp
open Go.RowKit Go.Shelf
set_option linter.unusedSimpArgs false
set_option linter.unusedVariables false
set_option maxRecDepth 100000
set_option maxHeartbeats 4000000

def kyI : Option Nat → Int
  | none => -1
  | some t => ((2 * t : Nat) : Int)
theorem s2_new (w : World) (g0 g1 n0 n1 n2 : Value) : S2 w ((w.alloc (.cells #[g0, g1] 24)).alloc (.cells #[n0, n1, n2] 35)) w.heap.size (w.heap.size + 1) g0 g1 n0 n1 n2 := by
  have b1 := below_alloc w (.cells #[g0, g1] 24)
  have s1 : (w.alloc (.cells #[g0, g1] 24)).heap.size = w.heap.size + 1 := World.size_alloc _ _
  have b2 := below_alloc (w.alloc (.cells #[g0, g1] 24)) (.cells #[n0, n1, n2] 35)
  have n2' := Bx.new (w.alloc (.cells #[g0, g1] 24)) #[n0, n1, n2] 35
  rw [s1] at n2'
  exact ⟨(Bx.new w _ _).later b2, n2', b1.trans (b2.mono b1.size)⟩
theorem key_any {w : World} {ad kad : Option Addr} {len cap klen kcap : Nat} {r nk k : Int} {nx x : Ln} {ns : List Nd} {l : List Int} (hlen : len ≤ 4096) (hN : NAt w ad len ns) (hI : IAt w kad klen l) (hkl : klen ≤ 1000000000) (hks : ∀ a ∈ l, isP len a = true) :
    Calls Tryz.prog 35 #[gv ad len cap r, nv nk nx kad klen kcap, .int .i64 k, .string (mk x)] w fun e w' => e = .returned (.int .i64 (kyI (ky ns l (k, x)))) ∧ Below w.heap.size w w' := by
  obtain ⟨v, Hv⟩ : ∃ v, Hid (v = kyI (ky ns l (k, x))) := ⟨_, rfl⟩
  rw [← Hv.out]
  have HL : Hid (klen = l.length) := hI.1
  have HF : Hid (∀ j, 2 * j + 1 < klen → kp ns (l.getD (2 * j) 0) = (k, x) → (∀ t, t < j → kp ns (l.getD (2 * t) 0) ≠ (k, x)) → v = ((2 * j : Nat) : Int)) := fun j hj he hb => by
    have := HL.out
    rw [Hv.out, ky_at (by omega) he hb]; rfl
  have HZ : Hid ((∀ j, 2 * j + 1 < klen → kp ns (l.getD (2 * j) 0) ≠ (k, x)) → v = -1) := fun hb => by
    have := HL.out
    rw [Hv.out, ky_no fun s hs => hb s (by omega)]; rfl
  have HP : Hid (∀ t, t < klen → ∃ p : Nat, l.getD t 0 = (p : Int) ∧ p < len) := fun t ht => by
    have h2 := HL.out
    exact isP_nat (hks _ (mem_getI (by omega)))
  have HN : Hid (NAt w ad len ns) := hN
  have HI : Hid (IAt w kad klen l) := hI
  have h0 := s2_new w (.slice ad len cap) (.int .i64 r) (.int .i64 nk) (.string (mk nx)) (.slice kad klen kcap)
  clear hN hI hks Hv
  go_enter Tryz.func35, Tryz.ntmps35
  go_wp2_with fail
  generalize ((w.alloc (.cells #[.slice ad len cap, .int .i64 r] 24)).alloc (.cells #[.int .i64 nk, .string (mk nx), .slice kad klen kcap] 35)) = W0 at h0 ⊢
  generalize w.heap.size + 1 = K1 at h0 ⊢
  obtain ⟨K0, hK0⟩ : ∃ K0, K0 = w.heap.size := ⟨_, rfl⟩
  rw [← hK0] at h0 ⊢
  clear hK0
  have H0 : Hid (S2 w W0 K0 K1 (.slice ad len cap) (.int .i64 r) (.int .i64 nk) (.string (mk nx)) (.slice kad klen kcap)) := h0
  clear h0
  go_loopw [9] (fun i wr => ∃ q : Nat, q ≤ klen + 1 ∧ i = .int .i64 (q : Int) ∧ Hid (S2 w wr K0 K1 (.slice ad len cap) (.int .i64 r) (.int .i64 nk) (.string (mk nx)) (.slice kad klen kcap) ∧ ∃ j, q = 2 * j ∧ ∀ t, t < j → kp ns (l.getD (2 * t) 0) ≠ (k, x))) (fun i _ => klen + 2 - (intOf i).toNat)
  case atStart => exact ⟨0, Nat.zero_le _, rfl, H0.out, 0, rfl, fun t ht => absurd ht (by omega)⟩
  case round =>
    obtain ⟨q, hq, rfl, HS⟩ := hrel
    clear H0
    obtain ⟨c0, c1, d0, d1, d2⟩ := HS.out.1.c
    by_cases hlt : q + 1 < klen
    · have hlt2 : (q : Int) + 1 < (klen : Int) := by omega
      have hq0 : (0 : Int) ≤ (q : Int) := by omega
      have hq1 : (q : Int) < (klen : Int) := by omega
      obtain ⟨kb, koff, rfl, hkb, hkc⟩ := HI.out.2 (by omega)
      obtain ⟨p, hp, hpl⟩ := HP.out q (by omega)
      obtain ⟨b, off, rfl, hb, hc⟩ := HN.out.2 (by omega)
      obtain ⟨pad, plen, pcap, _, _, _, _, _, z0, z1, z2⟩ := hc p hpl
      have x0 := (HS.out.1.bl.cell (p := ⟨kb, koff + q, none⟩) hkb).trans (hkc q (by omega)).2
      rw [hp] at x0
      have y0 := (HS.out.1.bl.cell (p := ⟨b, off + p * 3, none⟩) hb).trans z0
      have y1 := (HS.out.1.bl.cell (p := ⟨b, off + p * 3 + 1, none⟩) hb).trans z1
      have y2 := (HS.out.1.bl.cell (p := ⟨b, off + p * 3 + 2, none⟩) hb).trans z2
      have hp0 : (0 : Int) ≤ (p : Int) := by omega
      have hp2 : (p : Int) < (len : Int) := by omega
      obtain ⟨pk, hpk⟩ : ∃ pk, pk = (ns.getD p nd0).kind := ⟨_, rfl⟩
      obtain ⟨px, hpx⟩ : ∃ px, px = (ns.getD p nd0).text := ⟨_, rfl⟩
      have HKP : Hid (kp ns (l.getD q 0) = (pk, px)) := by
        show _ = _
        rw [hp, hpk, hpx]
        unfold kp
        rw [Int.toNat_natCast]
      rw [← hpk] at y0
      rw [← hpx] at y1
      clear hpk hpx z0 z1 z2 hc hkc hp
      go_wp2_with fail
      go_region_held3 (fun w' => w'.cell? ⟨K0, 0, none⟩ = some (.slice (some ⟨b, off, none⟩) len cap) ∧ w'.cell? ⟨K1, 2, none⟩ = some (.slice (some ⟨kb, koff, none⟩) klen kcap) ∧ w'.cell? ⟨kb, koff + q, none⟩ = some (.int .i64 (p : Int)) ∧ w'.cell? ⟨b, off + p * 3, none⟩ = some (.int .i64 pk) ∧ w'.cell? ⟨b, off + p * 3 + 1, none⟩ = some (.string (mk px)) ∧ w'.cell? ⟨b, off + p * 3 + 2, none⟩ = some (.slice pad plen pcap)) (go_keep) (fail)
      have HX : Hid (S2 w (wr.alloc (.cells #[.int .i64 pk, .string (mk px), .slice pad plen pcap] 35)).drew K0 K1 (.slice (some ⟨b, off, none⟩) len cap) (.int .i64 r) (.int .i64 nk) (.string (mk nx)) (.slice (some ⟨kb, koff, none⟩) klen kcap) ∧ Bx (wr.alloc (.cells #[.int .i64 pk, .string (mk px), .slice pad plen pcap] 35)).drew wr.heap.size #[.int .i64 pk, .string (mk px), .slice pad plen pcap] 35) := ⟨HS.out.1.later (below_alloc _ _).drew, Bx.new _ _ _⟩
      obtain ⟨j, hj, hbf⟩ := HS.out.2
      have HJ : Hid (q = 2 * j ∧ ∀ t, t < j → kp ns (l.getD (2 * t) 0) ≠ (k, x)) := ⟨hj, hbf⟩
      clear hj hbf HS x0 y0 y1 y2 c0 c1 d0 d1 d2
      generalize (wr.alloc (.cells #[.int .i64 pk, .string (mk px), .slice pad plen pcap] 35)).drew = w2 at HX ⊢
      generalize wr.heap.size = T at HX ⊢
      obtain ⟨g0, g1, g2⟩ := HX.out.2.c3
      by_cases hk : pk = k
      · subst hk
        by_cases hx : px = x
        · subst hx
          have HV : Hid (v = (q : Int)) := by
            show _ = _
            rw [HF.out j (by have := HJ.out.1; omega) (by rw [← HJ.out.1]; exact HKP.out) HJ.out.2, ← HJ.out.1]
          have HBF : Hid (Below w.heap.size w w2) := HX.out.1.bl
          clear HF HZ HP HX HJ HKP HN HI
          go_wp2_with fail
          go_ret
          exact ⟨by rw [HV.out]; rfl, HBF.out⟩
        · have hx3 : ((mk px).toList == (mk x).toList) = false := by
            rw [ByteArray.toList_eq, ByteArray.toList_eq, mk_data, mk_data]
            exact beq_false_of_ne hx
          have HS2 : Hid (S2 w w2 K0 K1 (.slice (some ⟨b, off, none⟩) len cap) (.int .i64 r) (.int .i64 nk) (.string (mk nx)) (.slice (some ⟨kb, koff, none⟩) klen kcap) ∧ ∃ j, q + 2 = 2 * j ∧ ∀ t, t < j → kp ns (l.getD (2 * t) 0) ≠ (pk, x)) := by
            refine ⟨HX.out.1, j + 1, by have := HJ.out.1; omega, fun t ht => ?_⟩
            by_cases h : t = j
            · rw [h, ← HJ.out.1, HKP.out]; intro e; exact hx (congrArg Prod.snd e)
            · exact HJ.out.2 t (by omega)
          clear hx HF HZ HP HX HJ HKP HN HI
          go_wp2_with fail
          go_roundw
          case rel => exact ⟨q + 2, by omega, by go_num, HS2⟩
          case measure => simp [intOf]; omega
      · have HS2 : Hid (S2 w w2 K0 K1 (.slice (some ⟨b, off, none⟩) len cap) (.int .i64 r) (.int .i64 nk) (.string (mk nx)) (.slice (some ⟨kb, koff, none⟩) klen kcap) ∧ ∃ j, q + 2 = 2 * j ∧ ∀ t, t < j → kp ns (l.getD (2 * t) 0) ≠ (k, x)) := by
          refine ⟨HX.out.1, j + 1, by have := HJ.out.1; omega, fun t ht => ?_⟩
          by_cases h : t = j
          · rw [h, ← HJ.out.1, HKP.out]; intro e; exact hk (congrArg Prod.fst e)
          · exact HJ.out.2 t (by omega)
        clear HF HZ HP HX HJ HKP HN HI
        go_wp2_with fail
        go_roundw
        case rel => exact ⟨q + 2, by omega, by go_num, HS2⟩
        case measure => simp [intOf]; omega
    · have hlt2 : ¬ (q : Int) + 1 < (klen : Int) := by omega
      have HV : Hid (v = -1) := by
        obtain ⟨j, hj, hbf⟩ := HS.out.2
        exact HZ.out fun t ht => hbf t (by omega)
      have HBF : Hid (Below w.heap.size w wr) := HS.out.1.bl
      clear HF HZ HP HS HN HI
      go_wp2_with fail
      go_ret
      exact ⟨by rw [HV.out]; rfl, HBF.out⟩
end Go.Proofs.YtaflbooofchimaaGreatDoor.Alk
end
