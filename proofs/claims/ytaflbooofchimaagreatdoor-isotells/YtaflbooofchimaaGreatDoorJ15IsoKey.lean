/- Several texts as one: IsoKey, IsoPrs. -/
import Derived.Test.YtaflbooofchimaaGreatDoorJ13IsoPlain
import Derived.Deep.RegionHeld3
import Derived.Test.YtaflbooofchimaaGreatDoorJ14IsoHas
import Derived.Test.YtaflbooofchimaaGreatDoorJ16IsoSet
section
/- The document's key, by its contract. -/
namespace Go.Proofs.YtaflbooofchimaaGreatDoor.Alk
open Utf Rws Pln Flw Grp
open Go.RowKit Go.Shelf
set_option linter.unusedSimpArgs false
set_option linter.unusedVariables false
set_option maxRecDepth 100000
set_option maxHeartbeats 4000000

def kyI : Option Nat → Int
  | none => -1
  | some t => ((2 * t : Nat) : Int)
theorem s2_new (w : World) (g0 g1 n0 n1 n2 : Value) : S2 w ((w.alloc (.cells #[g0, g1] 24)).alloc (.cells #[n0, n1, n2] 35)) w.heap.size (w.heap.size + 1) g0 g1 n0 n1 n2 := by
  have b1 := below_alloc w (.cells #[g0, g1] 24)
  have s1 : (w.alloc (.cells #[g0, g1] 24)).heap.size = w.heap.size + 1 := World.size_alloc _ _
  have b2 := below_alloc (w.alloc (.cells #[g0, g1] 24)) (.cells #[n0, n1, n2] 35)
  have n2' := Bx.new (w.alloc (.cells #[g0, g1] 24)) #[n0, n1, n2] 35
  rw [s1] at n2'
  exact ⟨(Bx.new w _ _).later b2, n2', b1.trans (b2.mono b1.size)⟩
theorem key_any {w : World} {ad kad : Option Addr} {len cap klen kcap : Nat} {r nk k : Int} {nx x : Ln} {ns : List Nd} {l : List Int} (hlen : len ≤ 4096) (hN : NAt w ad len ns) (hI : IAt w kad klen l) (hkl : klen ≤ 1000000000) (hks : ∀ a ∈ l, isP len a = true) :
    Calls Tryz.prog 35 #[gv ad len cap r, nv nk nx kad klen kcap, .int .i64 k, .string (mk x)] w fun e w' => e = .returned (.int .i64 (kyI (ky ns l (k, x)))) ∧ Below w.heap.size w w' := by
  obtain ⟨v, Hv⟩ : ∃ v, Hid (v = kyI (ky ns l (k, x))) := ⟨_, rfl⟩
  rw [← Hv.out]
  have HL : Hid (klen = l.length) := hI.1
  have HF : Hid (∀ j, 2 * j + 1 < klen → kp ns (l.getD (2 * j) 0) = (k, x) → (∀ t, t < j → kp ns (l.getD (2 * t) 0) ≠ (k, x)) → v = ((2 * j : Nat) : Int)) := fun j hj he hb => by
    have := HL.out
    rw [Hv.out, ky_at (by omega) he hb]; rfl
  have HZ : Hid ((∀ j, 2 * j + 1 < klen → kp ns (l.getD (2 * j) 0) ≠ (k, x)) → v = -1) := fun hb => by
    have := HL.out
    rw [Hv.out, ky_no fun s hs => hb s (by omega)]; rfl
  have HP : Hid (∀ t, t < klen → ∃ p : Nat, l.getD t 0 = (p : Int) ∧ p < len) := fun t ht => by
    have h2 := HL.out
    exact isP_nat (hks _ (mem_getI (by omega)))
  have HN : Hid (NAt w ad len ns) := hN
  have HI : Hid (IAt w kad klen l) := hI
  have h0 := s2_new w (.slice ad len cap) (.int .i64 r) (.int .i64 nk) (.string (mk nx)) (.slice kad klen kcap)
  clear hN hI hks Hv
  go_enter Tryz.func35, Tryz.ntmps35
  go_wp2_with fail
  generalize ((w.alloc (.cells #[.slice ad len cap, .int .i64 r] 24)).alloc (.cells #[.int .i64 nk, .string (mk nx), .slice kad klen kcap] 35)) = W0 at h0 ⊢
  generalize w.heap.size + 1 = K1 at h0 ⊢
  obtain ⟨K0, hK0⟩ : ∃ K0, K0 = w.heap.size := ⟨_, rfl⟩
  rw [← hK0] at h0 ⊢
  clear hK0
  have H0 : Hid (S2 w W0 K0 K1 (.slice ad len cap) (.int .i64 r) (.int .i64 nk) (.string (mk nx)) (.slice kad klen kcap)) := h0
  clear h0
  go_loopw [9] (fun i wr => ∃ q : Nat, q ≤ klen + 1 ∧ i = .int .i64 (q : Int) ∧ Hid (S2 w wr K0 K1 (.slice ad len cap) (.int .i64 r) (.int .i64 nk) (.string (mk nx)) (.slice kad klen kcap) ∧ ∃ j, q = 2 * j ∧ ∀ t, t < j → kp ns (l.getD (2 * t) 0) ≠ (k, x))) (fun i _ => klen + 2 - (intOf i).toNat)
  case atStart => exact ⟨0, Nat.zero_le _, rfl, H0.out, 0, rfl, fun t ht => absurd ht (by omega)⟩
  case round =>
    obtain ⟨q, hq, rfl, HS⟩ := hrel
    clear H0
    obtain ⟨c0, c1, d0, d1, d2⟩ := HS.out.1.c
    by_cases hlt : q + 1 < klen
    · have hlt2 : (q : Int) + 1 < (klen : Int) := by omega
      have hq0 : (0 : Int) ≤ (q : Int) := by omega
      have hq1 : (q : Int) < (klen : Int) := by omega
      obtain ⟨kb, koff, rfl, hkb, hkc⟩ := HI.out.2 (by omega)
      obtain ⟨p, hp, hpl⟩ := HP.out q (by omega)
      obtain ⟨b, off, rfl, hb, hc⟩ := HN.out.2 (by omega)
      obtain ⟨pad, plen, pcap, _, _, _, _, _, z0, z1, z2⟩ := hc p hpl
      have x0 := (HS.out.1.bl.cell (p := ⟨kb, koff + q, none⟩) hkb).trans (hkc q (by omega)).2
      rw [hp] at x0
      have y0 := (HS.out.1.bl.cell (p := ⟨b, off + p * 3, none⟩) hb).trans z0
      have y1 := (HS.out.1.bl.cell (p := ⟨b, off + p * 3 + 1, none⟩) hb).trans z1
      have y2 := (HS.out.1.bl.cell (p := ⟨b, off + p * 3 + 2, none⟩) hb).trans z2
      have hp0 : (0 : Int) ≤ (p : Int) := by omega
      have hp2 : (p : Int) < (len : Int) := by omega
      obtain ⟨pk, hpk⟩ : ∃ pk, pk = (ns.getD p nd0).kind := ⟨_, rfl⟩
      obtain ⟨px, hpx⟩ : ∃ px, px = (ns.getD p nd0).text := ⟨_, rfl⟩
      have HKP : Hid (kp ns (l.getD q 0) = (pk, px)) := by
        show _ = _
        rw [hp, hpk, hpx]
        unfold kp
        rw [Int.toNat_natCast]
      rw [← hpk] at y0
      rw [← hpx] at y1
      clear hpk hpx z0 z1 z2 hc hkc hp
      go_wp2_with fail
      go_region_held3 (fun w' => w'.cell? ⟨K0, 0, none⟩ = some (.slice (some ⟨b, off, none⟩) len cap) ∧ w'.cell? ⟨K1, 2, none⟩ = some (.slice (some ⟨kb, koff, none⟩) klen kcap) ∧ w'.cell? ⟨kb, koff + q, none⟩ = some (.int .i64 (p : Int)) ∧ w'.cell? ⟨b, off + p * 3, none⟩ = some (.int .i64 pk) ∧ w'.cell? ⟨b, off + p * 3 + 1, none⟩ = some (.string (mk px)) ∧ w'.cell? ⟨b, off + p * 3 + 2, none⟩ = some (.slice pad plen pcap)) (go_keep) (fail)
      have HX : Hid (S2 w (wr.alloc (.cells #[.int .i64 pk, .string (mk px), .slice pad plen pcap] 35)).drew K0 K1 (.slice (some ⟨b, off, none⟩) len cap) (.int .i64 r) (.int .i64 nk) (.string (mk nx)) (.slice (some ⟨kb, koff, none⟩) klen kcap) ∧ Bx (wr.alloc (.cells #[.int .i64 pk, .string (mk px), .slice pad plen pcap] 35)).drew wr.heap.size #[.int .i64 pk, .string (mk px), .slice pad plen pcap] 35) := ⟨HS.out.1.later (below_alloc _ _).drew, Bx.new _ _ _⟩
      obtain ⟨j, hj, hbf⟩ := HS.out.2
      have HJ : Hid (q = 2 * j ∧ ∀ t, t < j → kp ns (l.getD (2 * t) 0) ≠ (k, x)) := ⟨hj, hbf⟩
      clear hj hbf HS x0 y0 y1 y2 c0 c1 d0 d1 d2
      generalize (wr.alloc (.cells #[.int .i64 pk, .string (mk px), .slice pad plen pcap] 35)).drew = w2 at HX ⊢
      generalize wr.heap.size = T at HX ⊢
      obtain ⟨g0, g1, g2⟩ := HX.out.2.c3
      by_cases hk : pk = k
      · subst hk
        by_cases hx : px = x
        · subst hx
          have HV : Hid (v = (q : Int)) := by
            show _ = _
            rw [HF.out j (by have := HJ.out.1; omega) (by rw [← HJ.out.1]; exact HKP.out) HJ.out.2, ← HJ.out.1]
          have HBF : Hid (Below w.heap.size w w2) := HX.out.1.bl
          clear HF HZ HP HX HJ HKP HN HI
          go_wp2_with fail
          go_ret
          exact ⟨by rw [HV.out]; rfl, HBF.out⟩
        · have hx3 : ((mk px).toList == (mk x).toList) = false := by
            rw [ByteArray.toList_eq, ByteArray.toList_eq, mk_data, mk_data]
            exact beq_false_of_ne hx
          have HS2 : Hid (S2 w w2 K0 K1 (.slice (some ⟨b, off, none⟩) len cap) (.int .i64 r) (.int .i64 nk) (.string (mk nx)) (.slice (some ⟨kb, koff, none⟩) klen kcap) ∧ ∃ j, q + 2 = 2 * j ∧ ∀ t, t < j → kp ns (l.getD (2 * t) 0) ≠ (pk, x)) := by
            refine ⟨HX.out.1, j + 1, by have := HJ.out.1; omega, fun t ht => ?_⟩
            by_cases h : t = j
            · rw [h, ← HJ.out.1, HKP.out]; intro e; exact hx (congrArg Prod.snd e)
            · exact HJ.out.2 t (by omega)
          clear hx HF HZ HP HX HJ HKP HN HI
          go_wp2_with fail
          go_roundw
          case rel => exact ⟨q + 2, by omega, by go_num, HS2⟩
          case measure => simp [intOf]; omega
      · have HS2 : Hid (S2 w w2 K0 K1 (.slice (some ⟨b, off, none⟩) len cap) (.int .i64 r) (.int .i64 nk) (.string (mk nx)) (.slice (some ⟨kb, koff, none⟩) klen kcap) ∧ ∃ j, q + 2 = 2 * j ∧ ∀ t, t < j → kp ns (l.getD (2 * t) 0) ≠ (k, x)) := by
          refine ⟨HX.out.1, j + 1, by have := HJ.out.1; omega, fun t ht => ?_⟩
          by_cases h : t = j
          · rw [h, ← HJ.out.1, HKP.out]; intro e; exact hk (congrArg Prod.fst e)
          · exact HJ.out.2 t (by omega)
        clear HF HZ HP HX HJ HKP HN HI
        go_wp2_with fail
        go_roundw
        case rel => exact ⟨q + 2, by omega, by go_num, HS2⟩
        case measure => simp [intOf]; omega
    · have hlt2 : ¬ (q : Int) + 1 < (klen : Int) := by omega
      have HV : Hid (v = -1) := by
        obtain ⟨j, hj, hbf⟩ := HS.out.2
        exact HZ.out fun t ht => hbf t (by omega)
      have HBF : Hid (Below w.heap.size w wr) := HS.out.1.bl
      clear HF HZ HP HS HN HI
      go_wp2_with fail
      go_ret
      exact ⟨by rw [HV.out]; rfl, HBF.out⟩
end Go.Proofs.YtaflbooofchimaaGreatDoor.Alk
end

section
/- The document's pairs, by its contract. -/
namespace Go.Proofs.YtaflbooofchimaaGreatDoor.Alk
open Utf Rws Pln Flw Grp
open Go.RowKit Go.Shelf
set_option linter.unusedSimpArgs false
set_option linter.unusedVariables false
set_option maxRecDepth 100000
set_option maxHeartbeats 8000000
attribute [local go_sem ↓] Go.wp_at_zero Go.wp_at_succ

theorem Tryz.infoPair : (Tryz.prog.info? 77).map (fun i => (i.zero, i.size, i.bytes)) = some (some (.agg #[.int .i64 0, .int .i64 0]), 2, 16) := by kernel_rfl
theorem Tryz.underPairs : Tryz.prog.underlying 55 = some (.slice 77) := by kernel_rfl
theorem cell_two_pr (w : World) (a b : Value) (t : TypeId) : ∀ j u, [a, b][j]? = some u → (w.alloc (.cells #[a, b] t)).cell? ((⟨w.heap.size, 0, none⟩ : Addr).add j) = some u := by
  intro j u hj
  have e : (⟨w.heap.size, 0, none⟩ : Addr).add j = ⟨w.heap.size, j, none⟩ := by simp [Addr.add]; intro h; exact h.symm
  rw [e, World.cell?_alloc_new]
  match j, hj with
  | 0, hj => simpa using hj
  | 1, hj => simpa using hj
  | (_ + 2), h => simp at h
/-- all that stays beside the list -/
def Bes (w W : World) (lv : Value) (l : List (Nat × Nat)) (K0 K1 A1 A2 : Nat) (c0 c1 c2 c3 : Array Value) : Prop := PrM w W lv l ∧ BxO W lv K0 c0 24 ∧ BxO W lv K1 c1 24 ∧ BxO W lv A1 c2 35 ∧ BxO W lv A2 c3 35
theorem Bes.later {w W W' : World} {lv : Value} {l : List (Nat × Nat)} {K0 K1 A1 A2 : Nat} {c0 c1 c2 c3 : Array Value} (h : Bes w W lv l K0 K1 A1 A2 c0 c1 c2 c3) (hb : Below W.heap.size W W') : Bes w W' lv l K0 K1 A1 A2 c0 c1 c2 c3 := ⟨h.1.later hb, h.2.1.later hb, h.2.2.1.later hb, h.2.2.2.1.later hb, h.2.2.2.2.later hb⟩
theorem Bes.step {w W W' : World} {lv ev : Value} {l : List (Nat × Nat)} {p : Nat × Nat} {K0 K1 A1 A2 : Nat} {c0 c1 c2 c3 : Array Value} (h : Bes w W lv l K0 K1 A1 A2 c0 c1 c2 c3) (hs : PrM w W' ev (l ++ [p]) ∧ ∀ K cs t, BxO W lv K cs t → BxO W' ev K cs t) : Bes w W' ev (l ++ [p]) K0 K1 A1 A2 c0 c1 c2 c3 := ⟨hs.1, hs.2 _ _ _ h.2.1, hs.2 _ _ _ h.2.2.1, hs.2 _ _ _ h.2.2.2.1, hs.2 _ _ _ h.2.2.2.2⟩
/-- what pairs answers -/
def PrsRes (w : World) (ns ms : List Nd) (o : Bool) (x0 y0 : Nat) (e : Ending) (W' : World) : Prop :=
  ∃ (ad : Option Addr) (len cap : Nat) (q : Bool), e = .returned (.tuple #[.slice ad len cap, .bool q]) ∧ Hid (∃ l, PAt W' ad len l ∧ len ≤ 1000000000 ∧ (q = true → PrsOk ns ms o x0 y0 l) ∧ (q = false → PrsNo ns ms o x0 y0) ∧ Below w.heap.size w W')
theorem prs_no {w W' : World} {ns ms : List Nd} {o : Bool} {x0 y0 : Nat} (h : PrsNo ns ms o x0 y0) (hb : Below w.heap.size w W') : PrsRes w ns ms o x0 y0 (.returned (.tuple #[.slice none 0 0, .bool false])) W' :=
  ⟨none, 0, 0, false, rfl, [], ⟨rfl, fun h => absurd h (by omega)⟩, by omega, fun h => absurd h (by decide), fun _ => h, hb⟩
theorem pairs_any {w : World} {ada adb : Option Addr} {n m capa capb x0 y0 : Nat} {nsa nsb : List Nd} (o : Bool) (hn : n ≤ 4096) (hm : m ≤ 4096) (hNA : NAt w ada n nsa) (hNB : NAt w adb m nsb)
    (hKA : ∀ nd ∈ nsa, ∀ a ∈ nd.kids, isP n a = true) (hKB : ∀ nd ∈ nsb, ∀ a ∈ nd.kids, isP m a = true) (hSA : sumK nsa ≤ 1000000000) (hSB : sumK nsb ≤ 1000000000) (hx : x0 < n) (hy : y0 < m) :
    Calls Tryz.prog 26 #[gv ada n capa (x0 : Int), gv adb m capb (y0 : Int), .bool o] w (PrsRes w nsa nsb o x0 y0) := by
  have HLA : Hid (n = nsa.length) := hNA.1
  have HLB : Hid (m = nsb.length) := hNB.1
  obtain ⟨ba, offa, rfl, hba, hca⟩ := hNA.2 (by omega)
  obtain ⟨bb, offb, rfl, hbb, hcb⟩ := hNB.2 (by omega)
  have HKey : Hid (∀ W, Below w.heap.size w W → ∀ (nk : Int) (nx : Ln) (kad : Option Addr) (klen kcap : Nat) (l : List Int) (k : Int) (x : Ln), IAt W kad klen l → klen ≤ 1000000000 → (∀ a ∈ l, isP m a = true) → Calls Tryz.prog 35 #[gv (some ⟨bb, offb, none⟩) m capb (y0 : Int), nv nk nx kad klen kcap, .int .i64 k, .string (mk x)] W fun e W' => e = .returned (.int .i64 (kyI (ky nsb l (k, x)))) ∧ Hid (Below W.heap.size W W')) :=
    fun W h nk nx kad klen kcap l k x h1 h2 h3 => key_any hm (hNB.later h (Nat.le_refl _)) h1 h2 h3
  have HCA : Hid (∀ W, Below w.heap.size w W → ∀ p, p < n → ∃ pad plen pcap, plen ≤ pcap ∧ pcap ≤ maxLen ∧ plen ≤ 1000000000 ∧ IAt w pad plen (nsa.getD p nd0).kids ∧ (∀ a ∈ (nsa.getD p nd0).kids, isP n a = true) ∧ W.cell? ⟨ba, offa + p * 3, none⟩ = some (.int .i64 (nsa.getD p nd0).kind) ∧ W.cell? ⟨ba, offa + p * 3 + 1, none⟩ = some (.string (mk (nsa.getD p nd0).text)) ∧ W.cell? ⟨ba, offa + p * 3 + 2, none⟩ = some (.slice pad plen pcap)) := fun W h p hp => by
    obtain ⟨pad, plen, pcap, q1, q2, _, _, q5, z0, z1, z2⟩ := hca p hp
    have hmm := mem_getD (by rw [← HLA.out]; exact hp : p < nsa.length)
    have := kids_sum hmm
    exact ⟨pad, plen, pcap, q1, q2, by have := q5.1; omega, q5, hKA _ hmm, (h.cell (p := ⟨ba, offa + p * 3, none⟩) hba).trans z0, (h.cell (p := ⟨ba, offa + p * 3 + 1, none⟩) hba).trans z1, (h.cell (p := ⟨ba, offa + p * 3 + 2, none⟩) hba).trans z2⟩
  have HCB : Hid (∀ W, Below w.heap.size w W → ∀ p, p < m → ∃ pad plen pcap, plen ≤ pcap ∧ pcap ≤ maxLen ∧ plen ≤ 1000000000 ∧ IAt w pad plen (nsb.getD p nd0).kids ∧ (∀ a ∈ (nsb.getD p nd0).kids, isP m a = true) ∧ W.cell? ⟨bb, offb + p * 3, none⟩ = some (.int .i64 (nsb.getD p nd0).kind) ∧ W.cell? ⟨bb, offb + p * 3 + 1, none⟩ = some (.string (mk (nsb.getD p nd0).text)) ∧ W.cell? ⟨bb, offb + p * 3 + 2, none⟩ = some (.slice pad plen pcap)) := fun W h p hp => by
    obtain ⟨pad, plen, pcap, q1, q2, _, _, q5, z0, z1, z2⟩ := hcb p hp
    have hmm := mem_getD (by rw [← HLB.out]; exact hp : p < nsb.length)
    have := kids_sum hmm
    exact ⟨pad, plen, pcap, q1, q2, by have := q5.1; omega, q5, hKB _ hmm, (h.cell (p := ⟨bb, offb + p * 3, none⟩) hbb).trans z0, (h.cell (p := ⟨bb, offb + p * 3 + 1, none⟩) hbb).trans z1, (h.cell (p := ⟨bb, offb + p * 3 + 2, none⟩) hbb).trans z2⟩
  have HI0 : Hid (PrI nsa nsb o x0 y0 [(x0, y0)] 0) := PrI.start (by rw [← HLA.out]; exact hx) (by rw [← HLB.out]; exact hy)
  have HIAt : Hid (∀ W, Below w.heap.size w W → ∀ ad len l, IAt w ad len l → IAt W ad len l) := fun W h ad len l q => q.later h (Nat.le_refl _)
  obtain ⟨NM, HNM⟩ : ∃ NM : Nat, Hid (NM = n * m ∧ NM ≤ 16777216) := ⟨_, rfl, Nat.mul_le_mul hn hm⟩
  obtain ⟨i0, hi0, hz0, hz1, hz2⟩ := info_parts Tryz.infoPair
  have hst := pm_start w #[.slice (some ⟨ba, offa, none⟩) n capa, .int .i64 (x0 : Int)] #[.slice (some ⟨bb, offb, none⟩) m capb, .int .i64 (y0 : Int)] x0 y0 _ rfl
  clear hNA hNB hca hcb hKA hKB hSA hSB hba hbb
  go_enter Tryz.func26, Tryz.ntmps26
  go_wp2_with fail
  generalize (((w.alloc (.cells #[.slice (some ⟨ba, offa, none⟩) n capa, .int .i64 (x0 : Int)] 24)).alloc (.cells #[.slice (some ⟨bb, offb, none⟩) m capb, .int .i64 (y0 : Int)] 24)).alloc (.cells #[.int .i64 (x0 : Int), .int .i64 (y0 : Int)] 77)) = W0 at hst ⊢
  generalize w.heap.size + 1 + 1 = K2 at hst ⊢
  generalize w.heap.size + 1 = K1 at hst ⊢
  obtain ⟨K0, hK0⟩ : ∃ K0, K0 = w.heap.size := ⟨_, rfl⟩
  rw [← hK0] at hst ⊢
  clear hK0
  have H0 : Hid _ := hst
  clear hst
  go_loopw [8, 9] (fun lv i wr => ∃ (ad : Option Addr) (len cap j : Nat) (l : List (Nat × Nat)), lv = .slice ad len cap ∧ j ≤ len ∧ i = .int .i64 (j : Int) ∧ Hid (len = l.length ∧ PrM w wr (.slice ad len cap) l ∧ BxO wr (.slice ad len cap) K0 #[.slice (some ⟨ba, offa, none⟩) n capa, .int .i64 (x0 : Int)] 24 ∧ BxO wr (.slice ad len cap) K1 #[.slice (some ⟨bb, offb, none⟩) m capb, .int .i64 (y0 : Int)] 24) ∧ Hid (PrI nsa nsb o x0 y0 l j)) (fun _ i _ => NM + 1 - (intOf i).toNat)
  case atStart => exact ⟨_, 1, 1, 0, [(x0, y0)], rfl, Nat.zero_le _, rfl, ⟨rfl, H0.out.1, H0.out.2.1, H0.out.2.2⟩, HI0⟩
  case round =>
    obtain ⟨ad, len, cap, j, l, rfl, hj, rfl, HM, HI⟩ := hrel
    clear H0 HI0
    have HLn : Hid (len = l.length) := HM.out.1
    have hlenNM : len ≤ NM := by
      have := HI.out.len
      rw [← HLA.out, ← HLB.out, ← HNM.out.1, ← HLn.out] at this
      exact this
    have hNMb : NM ≤ 16777216 := HNM.out.2
    by_cases hlt : j < len
    · obtain ⟨b8, o8, rfl, hb8, hc8⟩ := (HM.out.2.1.pat HLn.out).2 (by omega)
      obtain ⟨s0, s1⟩ := hc8 j hlt
      have HXY : Hid (l.getD j (0, 0) ∈ l) := by
        show _ ∈ _
        rw [List.getD_eq_getElem?_getD, List.getElem?_eq_getElem (by rw [← HLn.out]; exact hlt)]
        exact List.getElem_mem _
      have HXR := HI.out.rg _ HXY.out
      rw [← HLA.out, ← HLB.out] at HXR
      obtain ⟨⟨x, y⟩, hxy⟩ : ∃ p, p = l.getD j (0, 0) := ⟨_, rfl⟩
      have HXE : Hid (l.getD j (0, 0) = (x, y)) := hxy.symm
      rw [← hxy] at s0 s1 HXR
      simp only at s0 s1 HXR
      obtain ⟨hxn, hym⟩ := HXR
      have hbl := HM.out.2.1.bl
      obtain ⟨kaa, kla, kca, _, _, a3, HIA', HPA', u0, u1, u2⟩ := HCA.out wr hbl x hxn
      obtain ⟨kab, klb, kcb, _, _, b3, HIB', HPB', v0, v1, v2⟩ := HCB.out wr hbl y hym
      obtain ⟨na, Hna⟩ : ∃ na, Hid (na = nsa.getD x nd0) := ⟨_, rfl⟩
      obtain ⟨nb, Hnb⟩ : ∃ nb, Hid (nb = nsb.getD y nd0) := ⟨_, rfl⟩
      rw [← Hna.out] at HIA' HPA' u0 u1
      rw [← Hnb.out] at HIB' HPB' v0 v1
      obtain ⟨ka, xa, la⟩ := na
      obtain ⟨kb, xb, lb⟩ := nb
      simp only at HIA' HPA' u0 u1 HIB' HPB' v0 v1
      have HIA : Hid (IAt w kaa kla la) := HIA'
      have HIB : Hid (IAt w kab klb lb) := HIB'
      have HPA : Hid (∀ t, t < kla → ∃ p : Nat, la.getD t 0 = (p : Int) ∧ p < n) := fun t ht => isP_nat (HPA' _ (getD_in _ _ _ (by rw [← HIA.out.1]; exact ht)))
      have HPB0 : Hid (∀ a ∈ lb, isP m a = true) := HPB'
      have HPB : Hid (∀ t, t < klb → ∃ p : Nat, lb.getD t 0 = (p : Int) ∧ p < m) := fun t ht => isP_nat (HPB' _ (getD_in _ _ _ (by rw [← HIB.out.1]; exact ht)))
      have c0 : wr.cell? ⟨K0, 0, none⟩ = some (.slice (some ⟨ba, offa, none⟩) n capa) := HM.out.2.2.1.b.cell 0
      have d0 : wr.cell? ⟨K1, 0, none⟩ = some (.slice (some ⟨bb, offb, none⟩) m capb) := HM.out.2.2.2.b.cell 0
      clear HIA' HPA' HIB' HPB' hbl hc8 hxy hb8
      have i1 : (0 : Int) ≤ (x : Int) := by omega
      have i2 : (x : Int) < (n : Int) := by omega
      have i3 : (0 : Int) ≤ (y : Int) := by omega
      have i4 : (y : Int) < (m : Int) := by omega
      have i5 : (0 : Int) ≤ (j : Int) := by omega
      have i6 : (j : Int) < (len : Int) := by omega
      go_wp2_with fail
      apply wp_two (I := TwoB wr 35 #[.int .i64 ka, .string (mk xa), .slice kaa kla kca] #[.int .i64 kb, .string (mk xb), .slice kab klb kcb])
      case h1 =>
        go_region_held3 (fun w' => w'.cell? ⟨K0, 0, none⟩ = some (.slice (some ⟨ba, offa, none⟩) n capa) ∧ w'.cell? ⟨K1, 0, none⟩ = some (.slice (some ⟨bb, offb, none⟩) m capb) ∧ w'.cell? ⟨b8, o8 + j * 2, none⟩ = some (.int .i64 (x : Int)) ∧ w'.cell? ⟨b8, o8 + j * 2 + 1, none⟩ = some (.int .i64 (y : Int)) ∧ w'.cell? ⟨ba, offa + x * 3, none⟩ = some (.int .i64 ka) ∧ w'.cell? ⟨ba, offa + x * 3 + 1, none⟩ = some (.string (mk xa)) ∧ w'.cell? ⟨ba, offa + x * 3 + 2, none⟩ = some (.slice kaa kla kca) ∧ w'.cell? ⟨bb, offb + y * 3, none⟩ = some (.int .i64 kb) ∧ w'.cell? ⟨bb, offb + y * 3 + 1, none⟩ = some (.string (mk xb)) ∧ w'.cell? ⟨bb, offb + y * 3 + 2, none⟩ = some (.slice kab klb kcb)) (go_keep) (fail)
        all_goals first | refine ⟨rfl, _, _, ?_, two_a _ _ _ _⟩ | refine ⟨rfl, _, _, ?_, two_b _ _ _ _⟩
        all_goals
          generalize wr.heap.size + 1 = j
          generalize wr.heap.size = i
          exact rfl
      rintro A1 A2 W5 hTB
      have HB5 : Hid (Bes w W5 (.slice (some ⟨b8, o8, none⟩) len cap) l K0 K1 A1 A2 #[.slice (some ⟨ba, offa, none⟩) n capa, .int .i64 (x0 : Int)] #[.slice (some ⟨bb, offb, none⟩) m capb, .int .i64 (y0 : Int)] #[.int .i64 ka, .string (mk xa), .slice kaa kla kca] #[.int .i64 kb, .string (mk xb), .slice kab klb kcb]) := by
        obtain ⟨t1, t2, t3, t4, t5, _⟩ := hTB
        exact ⟨HM.out.2.1.later t3, HM.out.2.2.1.later t3, HM.out.2.2.2.later t3, ⟨t1, HM.out.2.1.beside t4⟩, t2, HM.out.2.1.beside t5⟩
      have HLk : Hid (kla = la.length ∧ klb = lb.length) := ⟨HIA.out.1, HIB.out.1⟩
      have g0 : W5.cell? ⟨A1, 0, none⟩ = some (.int .i64 ka) := HB5.out.2.2.2.1.b.cell 0
      have g1 : W5.cell? ⟨A1, 1, none⟩ = some (.string (mk xa)) := HB5.out.2.2.2.1.b.cell 1
      have g2 : W5.cell? ⟨A1, 2, none⟩ = some (.slice kaa kla kca) := HB5.out.2.2.2.1.b.cell 2
      have f0 : W5.cell? ⟨A2, 0, none⟩ = some (.int .i64 kb) := HB5.out.2.2.2.2.b.cell 0
      have f1 : W5.cell? ⟨A2, 1, none⟩ = some (.string (mk xb)) := HB5.out.2.2.2.2.b.cell 1
      have f2 : W5.cell? ⟨A2, 2, none⟩ = some (.slice kab klb kcb) := HB5.out.2.2.2.2.b.cell 2
      clear c0 d0 s0 s1 u0 u1 u2 v0 v1 v2 hTB HM i1 i2 i3 i4 i5 i6
      by_cases hsame : ka = kb ∧ xa = xb ∧ kla = klb
      case neg =>
        have HFin : Hid (PrsRes w nsa nsb o x0 y0 (.returned (.tuple #[.slice none 0 0, .bool false])) W5) := prs_no (HI.out.bad (x := x) (y := y) (by rw [← HXE.out]; exact HXY.out) (.inl fun h => by
          rw [← Hna.out, ← Hnb.out] at h
          exact hsame ⟨h.1, h.2.1, by rw [HLk.out.1, HLk.out.2]; exact h.2.2⟩)) HB5.out.1.bl
        clear HI HB5 HIA HIB HPA HPB HPB0 HCA HCB HKey HIAt Hna Hnb HXE HXY
        by_cases e1 : ka = kb
        · by_cases e2 : xa = xb
          · have e3 : ¬ kla = klb := fun h => hsame ⟨e1, e2, h⟩
            have e3' : ((kla : Int) != (klb : Int)) = true := by simpa using (show ¬ (kla : Int) = (klb : Int) by omega)
            subst e1 e2
            clear hsame
            go_wp2
            go_ret2
            exact HFin.out
          · have e2' : ((mk xa).toList != (mk xb).toList) = true := by rw [ByteArray.toList_eq, ByteArray.toList_eq, mk_data, mk_data]; simpa using e2
            have e2'' : ((mk xa).toList == (mk xb).toList) = false := by rw [ByteArray.toList_eq, ByteArray.toList_eq, mk_data, mk_data]; simpa using e2
            subst e1
            clear hsame
            go_wp2
            go_ret2
            exact HFin.out
        · have e1' : (ka != kb) = true := by simpa using e1
          clear hsame
          go_wp2
          go_ret2
          exact HFin.out
      case pos =>
      obtain ⟨rfl, rfl, rfl⟩ := hsame
      have HOk : Hid (okN (nsa.getD x nd0) (nsb.getD y nd0)) := by
        show okN _ _
        rw [← Hna.out, ← Hnb.out]
        exact ⟨rfl, rfl, HLk.out.1.symm.trans HLk.out.2⟩
      have HJl : Hid (j < l.length) := by show _ < _; rw [← HLn.out]; exact hlt
      obtain ⟨lad, hlad⟩ : ∃ lad, lad = some (⟨b8, o8, none⟩ : Addr) := ⟨_, rfl⟩
      rw [← hlad] at HB5 ⊢
      clear hlad
      go_wp2_with fail
      go_loopw [8, 12] (fun lv i wr => ∃ (ad : Option Addr) (len cap k : Nat) (l : List (Nat × Nat)), lv = .slice ad len cap ∧ k ≤ kla ∧ i = .int .i64 (k : Int) ∧ Hid (len = l.length ∧ Bes w wr (.slice ad len cap) l K0 K1 A1 A2 #[.slice (some ⟨ba, offa, none⟩) n capa, .int .i64 (x0 : Int)] #[.slice (some ⟨bb, offb, none⟩) m capb, .int .i64 (y0 : Int)] #[.int .i64 ka, .string (mk xa), .slice kaa kla kca] #[.int .i64 ka, .string (mk xa), .slice kab kla kcb]) ∧ Hid (PrI nsa nsb o x0 y0 l j ∧ PrK nsa nsb o x y l k ∧ j < l.length ∧ l.getD j (0, 0) = (x, y))) (fun _ i _ => kla - (intOf i).toNat)
      case atStart => exact ⟨lad, len, cap, 0, l, rfl, Nat.zero_le _, rfl, ⟨HLn.out, HB5.out⟩, HI.out, fun t ht => absurd ht (by omega), HJl.out, HXE.out⟩
      case round =>
        obtain ⟨ad, len, cap, k, l, rfl, hk, rfl, HB, HK⟩ := hrel
        clear HI HB5 HLn HXY HXE HJl g0 g1 g2 f0 f1 f2
        have HLn : Hid (len = l.length) := HB.out.1
        have hlenNM : len ≤ NM := by
          have := HK.out.1.len
          rw [← HLA.out, ← HLB.out, ← HNM.out.1, ← HLn.out] at this
          exact this
        have HBe : Hid (Bes w wr (.slice ad len cap) l K0 K1 A1 A2 #[.slice (some ⟨ba, offa, none⟩) n capa, .int .i64 (x0 : Int)] #[.slice (some ⟨bb, offb, none⟩) m capb, .int .i64 (y0 : Int)] #[.int .i64 ka, .string (mk xa), .slice kaa kla kca] #[.int .i64 ka, .string (mk xa), .slice kab kla kcb]) := HB.out.2
        clear HB
        have g0 : wr.cell? ⟨A1, 0, none⟩ = some (.int .i64 ka) := HBe.out.2.2.2.1.b.cell 0
        have g1 : wr.cell? ⟨A1, 1, none⟩ = some (.string (mk xa)) := HBe.out.2.2.2.1.b.cell 1
        have g2 : wr.cell? ⟨A1, 2, none⟩ = some (.slice kaa kla kca) := HBe.out.2.2.2.1.b.cell 2
        by_cases hkl : k < kla
        · have i1 : (0 : Int) ≤ (k : Int) := by omega
          have i2 : (k : Int) < (kla : Int) := by omega
          have HXM : Hid ((x, y) ∈ l) := by
            show _ ∈ _
            rw [← HK.out.2.2.2, List.getD_eq_getElem?_getD, List.getElem?_eq_getElem HK.out.2.2.1]
            exact List.getElem_mem _
          have HNone : Hid (jP nsa nsb o ⟨ka, xa, la⟩ ⟨ka, xa, lb⟩ k = none → PrsNo nsa nsb o x0 y0) := fun h => HK.out.1.bad (x := x) (y := y) HXM.out (.inr ⟨k, by rw [← Hna.out]; show k < la.length; rw [← HLk.out.1]; exact hkl, by rw [← Hna.out, ← Hnb.out]; exact h⟩)
          obtain ⟨kba, koa, rfl, hkba, hkca⟩ := HIA.out.2 (by omega)
          obtain ⟨kbb, kob, rfl, hkbb, hkcb⟩ := HIB.out.2 (by omega)
          have HKA : Hid (∀ W, Below w.heap.size w W → ∀ t, t < kla → W.cell? ⟨kba, koa + t, none⟩ = some (.int .i64 (la.getD t 0))) := fun W h t ht => (h.cell (p := ⟨kba, koa + t, none⟩) hkba).trans (hkca t ht).2
          have HKB : Hid (∀ W, Below w.heap.size w W → ∀ t, t < kla → W.cell? ⟨kbb, kob + t, none⟩ = some (.int .i64 (lb.getD t 0))) := fun W h t ht => (h.cell (p := ⟨kbb, kob + t, none⟩) hkbb).trans (hkcb t ht).2
          clear hkca hkcb hkba hkbb
          by_cases h6 : ka = 6
          case' pos =>
            subst h6
            obtain ⟨E, HE⟩ : ∃ E, Hid (E = k - k % 2) := ⟨_, rfl⟩
            have hE1 : E < kla := by have := HE.out; omega
            have hE2 : (k : Int) - (k : Int) % 2 = (E : Int) := by have := HE.out; omega
            have hE3 : (0 : Int) ≤ (E : Int) := by omega
            have hE5 : (k : Int).tmod 2 = (k : Int) % 2 := Int.tmod_eq_emod_of_nonneg (by omega)
            have hE6 : IntKind.i64.wrap (E : Int) = (E : Int) := Utf.wrap_small _ (by omega)
            have hE7 : IntKind.i64.wrap ((k : Int) - (k : Int) % 2) = (E : Int) := by rw [hE2]; exact hE6
            have hE8 : IntKind.i64.wrap ((k : Int) - (k : Int).tmod 2) = (E : Int) := by rw [hE5]; exact hE7
            have hE4 : (E : Int) < (kla : Int) := by omega
            obtain ⟨p, hp, hpn⟩ := HPA.out E hE1
            have x0' := HKA.out wr HBe.out.1.bl E hE1
            rw [hp] at x0'
            obtain ⟨pad, plen, pcap, _, _, _, _, _, z0, z1, z2⟩ := HCA.out wr HBe.out.1.bl p hpn
            have hp3 : (0 : Int) ≤ (p : Int) := by omega
            have hp4 : (p : Int) < (n : Int) := by omega
            obtain ⟨pk, hpk⟩ : ∃ pk, pk = (nsa.getD p nd0).kind := ⟨_, rfl⟩
            obtain ⟨px, hpx⟩ : ∃ px, px = (nsa.getD p nd0).text := ⟨_, rfl⟩
            have HKP : Hid (kp nsa (la.getD (k - k % 2) 0) = (pk, px)) := by
              show _ = _
              rw [← HE.out, hp, hpk, hpx]
              unfold kp
              rw [Int.toNat_natCast]
            rw [← hpk] at z0
            rw [← hpx] at z1
            have c0 : wr.cell? ⟨K0, 0, none⟩ = some (.slice (some ⟨ba, offa, none⟩) n capa) := HBe.out.2.1.b.cell 0
            clear hpk hpx hp
            go_wp2_with fail
            go_region_held3 (fun w' => w'.cell? ⟨K0, 0, none⟩ = some (.slice (some ⟨ba, offa, none⟩) n capa) ∧ w'.cell? ⟨A1, 2, none⟩ = some (.slice (some ⟨kba, koa, none⟩) kla kca) ∧ w'.cell? ⟨kba, koa + E, none⟩ = some (.int .i64 (p : Int)) ∧ w'.cell? ⟨ba, offa + p * 3, none⟩ = some (.int .i64 pk) ∧ w'.cell? ⟨ba, offa + p * 3 + 1, none⟩ = some (.string (mk px)) ∧ w'.cell? ⟨ba, offa + p * 3 + 2, none⟩ = some (.slice pad plen pcap)) (go_keep) (fail)
            have HB6 : Hid (Bes w (wr.alloc (.cells #[.int .i64 pk, .string (mk px), .slice pad plen pcap] 35)).drew (.slice ad len cap) l K0 K1 A1 A2 #[.slice (some ⟨ba, offa, none⟩) n capa, .int .i64 (x0 : Int)] #[.slice (some ⟨bb, offb, none⟩) m capb, .int .i64 (y0 : Int)] #[.int .i64 6, .string (mk xa), .slice (some ⟨kba, koa, none⟩) kla kca] #[.int .i64 6, .string (mk xa), .slice (some ⟨kbb, kob, none⟩) kla kcb] ∧ Bx (wr.alloc (.cells #[.int .i64 pk, .string (mk px), .slice pad plen pcap] 35)).drew wr.heap.size #[.int .i64 pk, .string (mk px), .slice pad plen pcap] 35) := ⟨HBe.out.later (below_alloc _ _).drew, Bx.new _ _ _⟩
            clear HBe x0' z0 z1 z2 c0 g0 g1 g2
            generalize (wr.alloc (.cells #[.int .i64 pk, .string (mk px), .slice pad plen pcap] 35)).drew = W6 at HB6 ⊢
            generalize wr.heap.size = T at HB6 ⊢
            obtain ⟨n0, n1, n2⟩ := HB6.out.2.c3
            obtain ⟨q0, q1⟩ := HB6.out.1.2.2.1.b.c2
            obtain ⟨r0, r1, r2⟩ := HB6.out.1.2.2.2.2.b.c3
            have HKy := HKey.out W6 HB6.out.1.1.bl 6 xa _ kla kcb lb pk px (HIAt.out _ HB6.out.1.1.bl _ _ _ HIB.out) (by omega) HPB0.out
            have hw2 : (k : Int) % 2 ≤ 1 := by omega
            have hw3 : 0 ≤ (k : Int) % 2 := by omega
            cases hky : ky nsb lb (pk, px)
            case none =>
              rw [hky] at HKy
              simp only [kyI] at HKy
              have HFin : Hid (∀ W, Below W6.heap.size W6 W → PrsRes w nsa nsb o x0 y0 (.returned (.tuple #[.slice none 0 0, .bool false])) W) := fun W h => prs_no (HNone.out (by unfold jP; rw [if_pos rfl]; simp only; rw [HKP.out, hky])) (HB6.out.1.later h).1.bl
              clear hky HB6 HNone HK HKA HKB HPA HPB HCA HCB HKey HIA HIB HIAt HKP HXM HOk Hna Hnb
              go_wp2_with (go_at_call 35; refine HKy.mono ?_; rintro e W7 ⟨rfl, H7⟩)
              go_ret2
              exact HFin.out _ H7.out
            case' some t =>
              rw [hky] at HKy
              simp only [kyI] at HKy
              obtain ⟨ht1, _⟩ := ky_is hky
              obtain ⟨V, hV⟩ : ∃ V, V = 2 * t := ⟨_, rfl⟩
              rw [← hV] at HKy
              have hVb : V + 1 < kla := by have := HLk.out.2; omega
              have hV0 : ¬ (V : Int) < 0 := by omega
              obtain ⟨J, hJ⟩ : ∃ J, J = V + k % 2 := ⟨_, rfl⟩
              have hJe : (V : Int) + (k : Int) % 2 = (J : Int) := by omega
              have hJw : IntKind.i64.wrap ((V : Int) + (k : Int) % 2) = (V : Int) + (k : Int) % 2 := by rw [hJe]; exact Utf.wrap_small _ (by omega)
              have hJb : J < kla := by omega
              have hj0 : (0 : Int) ≤ (J : Int) := by omega
              have hj1 : (J : Int) < (kla : Int) := by omega
              obtain ⟨q, hq, hqm⟩ := HPB.out J hJb
              have HXB : Hid (∀ W, Below w.heap.size w W → W.cell? ⟨kbb, kob + J, none⟩ = some (.int .i64 (q : Int))) := fun W h => by rw [← hq]; exact HKB.out W h J hJb
              cases o
              case' true =>
                by_cases hVE : V = E
                case' neg =>
                  have hVE2 : ((V : Int) != (E : Int)) = true := by simp; omega
                  have HFin : Hid (∀ W, Below W6.heap.size W6 W → PrsRes w nsa nsb true x0 y0 (.returned (.tuple #[.slice none 0 0, .bool false])) W) := fun W h => prs_no (HNone.out (by unfold jP; rw [if_pos rfl]; simp only; rw [HKP.out, hky]; simp only; rw [if_pos ⟨trivial, by have := HE.out; omega⟩])) (HB6.out.1.later h).1.bl
                  clear hky HB6 HNone HK HKA HKB HPA HPB HCA HCB HKey HIA HIB HIAt HKP HXM HOk Hna Hnb HXB hV hJ hq
                  go_wp2_with (go_at_call 35; refine HKy.mono ?_; rintro e W7 ⟨rfl, H7⟩)
                  go_ret2
                  exact HFin.out _ H7.out
                case' pos =>
                  have HJQ : Hid (∃ J, jP nsa nsb true ⟨6, xa, la⟩ ⟨6, xa, lb⟩ k = some J ∧ lb.getD J 0 = (q : Int)) := ⟨J, by
                    unfold jP; rw [if_pos rfl]; simp only; rw [HKP.out, hky]; simp only; rw [if_neg (fun h => h.2 (by have := HE.out; omega)), hJ, hV], hq⟩
                  have hVE2 : ((V : Int) != (E : Int)) = false := by simp; omega
                  clear hky hV hJ hq hVE HKP HNone
                  go_wp2_with (go_at_call 35; refine HKy.mono ?_; rintro e W7 ⟨rfl, H7⟩)
              case' false =>
                have HJQ : Hid (∃ J, jP nsa nsb false ⟨6, xa, la⟩ ⟨6, xa, lb⟩ k = some J ∧ lb.getD J 0 = (q : Int)) := ⟨J, by
                  unfold jP; rw [if_pos rfl]; simp only; rw [HKP.out, hky]; simp only; rw [if_neg (fun h => by simp at h), hJ, hV], hq⟩
                clear hky hV hJ hq HKP HNone
                go_wp2_with (go_at_call 35; refine HKy.mono ?_; rintro e W7 ⟨rfl, H7⟩)
              all_goals
                have HBe : Hid (Bes w W7 (.slice ad len cap) l K0 K1 A1 A2 #[.slice (some ⟨ba, offa, none⟩) n capa, .int .i64 (x0 : Int)] #[.slice (some ⟨bb, offb, none⟩) m capb, .int .i64 (y0 : Int)] #[.int .i64 6, .string (mk xa), .slice (some ⟨kba, koa, none⟩) kla kca] #[.int .i64 6, .string (mk xa), .slice (some ⟨kbb, kob, none⟩) kla kcb]) := HB6.out.1.later H7.out
                have x1 := HXB.out W7 HBe.out.1.bl
                have g2 : W7.cell? ⟨A1, 2, none⟩ = some (.slice (some ⟨kba, koa, none⟩) kla kca) := HBe.out.2.2.2.1.b.cell 2
                have f2 : W7.cell? ⟨A2, 2, none⟩ = some (.slice (some ⟨kbb, kob, none⟩) kla kcb) := HBe.out.2.2.2.2.b.cell 2
                clear HB6 H7 HKy n0 n1 n2 q0 q1 r0 r1 r2
          case' neg =>
            have hk6 : (ka == 6) = false := by simp [h6]
            obtain ⟨q, hq, hqm⟩ := HPB.out k hkl
            have HXB : Hid (∀ W, Below w.heap.size w W → W.cell? ⟨kbb, kob + k, none⟩ = some (.int .i64 (q : Int))) := fun W h => by rw [← hq]; exact HKB.out W h k hkl
            have HJQ : Hid (∃ J, jP nsa nsb o ⟨ka, xa, la⟩ ⟨ka, xa, lb⟩ k = some J ∧ lb.getD J 0 = (q : Int)) := ⟨k, by unfold jP; rw [if_neg h6], hq⟩
            clear hq HNone h6
            have HBe1 : Hid (Bes w wr (.slice ad len cap) l K0 K1 A1 A2 #[.slice (some ⟨ba, offa, none⟩) n capa, .int .i64 (x0 : Int)] #[.slice (some ⟨bb, offb, none⟩) m capb, .int .i64 (y0 : Int)] #[.int .i64 ka, .string (mk xa), .slice (some ⟨kba, koa, none⟩) kla kca] #[.int .i64 ka, .string (mk xa), .slice (some ⟨kbb, kob, none⟩) kla kcb]) := HBe.out
            have x1 := HXB.out wr HBe.out.1.bl
            have f2 : wr.cell? ⟨A2, 2, none⟩ = some (.slice (some ⟨kbb, kob, none⟩) kla kcb) := HBe.out.2.2.2.2.b.cell 2
            clear HBe
            have HBe := HBe1
            clear HBe1
            go_wp2_with fail
            generalize wr = W7 at HBe x1 f2 g2 ⊢
          all_goals
            obtain ⟨p1, hp1, hp1n⟩ := HPA.out k hkl
            have x0' := HKA.out W7 HBe.out.1.bl k hkl
            rw [hp1] at x0'
            have HP1 : Hid (la.getD k 0 = (p1 : Int)) := hp1
            clear hp1
            first
              | go_region_held3 (fun w' => w'.cell? ⟨A1, 2, none⟩ = some (.slice (some ⟨kba, koa, none⟩) kla kca) ∧ w'.cell? ⟨A2, 2, none⟩ = some (.slice (some ⟨kbb, kob, none⟩) kla kcb) ∧ w'.cell? ⟨kba, koa + k, none⟩ = some (.int .i64 (p1 : Int)) ∧ w'.cell? ⟨kbb, kob + J, none⟩ = some (.int .i64 (q : Int))) (go_keep) (fail)
              | go_region_held3 (fun w' => w'.cell? ⟨A1, 2, none⟩ = some (.slice (some ⟨kba, koa, none⟩) kla kca) ∧ w'.cell? ⟨A2, 2, none⟩ = some (.slice (some ⟨kbb, kob, none⟩) kla kcb) ∧ w'.cell? ⟨kba, koa + k, none⟩ = some (.int .i64 (p1 : Int)) ∧ w'.cell? ⟨kbb, kob + k, none⟩ = some (.int .i64 (q : Int))) (go_keep) (fail)
            have HB8 := (show Hid (_ ∧ Bx (W7.alloc (.cells #[.int .i64 (p1 : Int), .int .i64 (q : Int)] 77)).drew W7.heap.size #[.int .i64 (p1 : Int), .int .i64 (q : Int)] 77) from ⟨HBe.out.later (below_alloc W7 (.cells #[.int .i64 (p1 : Int), .int .i64 (q : Int)] 77)).drew, Bx.new _ _ _⟩)
            clear HBe x0' x1 g2 f2
            generalize (W7.alloc (.cells #[.int .i64 (p1 : Int), .int .i64 (q : Int)] 77)).drew = W8 at HB8 ⊢
            generalize W7.heap.size = T8 at HB8 ⊢
            obtain ⟨s0, s1⟩ := HB8.out.2.c2
            have hll : len ≤ 1000000000 := by omega
            have HHas := has_any (x := p1) (y := q) (cap := cap) hll (HB8.out.1.1.pat HLn.out)
            have HADD := (show Hid _ from adq Hna.out Hnb.out HJQ.out HP1.out)
            have HKL : Hid (k < (nsa.getD x nd0).kids.length) := by
              show _ < _
              rw [← Hna.out]
              show k < la.length
              rw [← HLk.out.1]; exact hkl
            have HRG : Hid (p1 < nsa.length ∧ q < nsb.length) := by rw [← HLA.out, ← HLB.out]; exact ⟨hp1n, hqm⟩
            by_cases hm : (p1, q) ∈ l
            · have HKN := (show Hid _ from prk_in HK.out HADD.out hm)
              rw [decide_eq_true hm] at HHas
              clear HK HADD hm HJQ HKL HRG HXB HXM HKA HKB
              go_wp2_with (go_at_call 46; refine HHas.mono ?_; rintro e W9 ⟨rfl, H9⟩)
              have HBN := (show Hid _ from HB8.out.1.later H9)
              clear HB8 H9 s0 s1 HHas
              go_roundw
              case rel => exact ⟨ad, len, cap, k + 1, l, rfl, by omega, by go_num, ⟨HLn.out, HBN.out⟩, HKN⟩
              case measure => (simp [intOf] <;> omega)
            · have HKN := (show Hid _ from prk_add HK.out HXM.out HKL.out HADD.out HRG.out hm)
              rw [decide_eq_false hm] at HHas
              clear HK HADD hm HJQ HKL HRG HXB HXM HKA HKB
              have hl9 : l.length ≤ 1000000000 := by rw [← HLn.out]; exact hll
              go_wp2_with (first | (go_at_call 46; refine HHas.mono ?_; rintro e W9 ⟨rfl, H9⟩; have HBN := (show Hid _ from HB8.out.1.later H9); have t0 : W9.cell? ⟨T8, 0, none⟩ = some (.int .i64 (p1 : Int)) := (HB8.out.2.later H9).cell 0; have t1 : W9.cell? ⟨T8, 1, none⟩ = some (.int .i64 (q : Int)) := (HB8.out.2.later H9).cell 1) | (at_builtin; refine wpList_append_own_at _ rfl _ _ 55 rfl w.heap.size 77 i0 (.agg #[.int .i64 0, .int .i64 0]) 2 16 Tryz.underPairs hi0 hz0 hz1 hz2 rfl (by decide) _ _ _ rfl (HBN.out.1.ow.alloc _) ⟨W9.heap.size, 0, none⟩ 1 1 [.int .i64 (p1 : Int), .int .i64 (q : Int)] rfl rfl (cell_two_pr _ _ _ _) (fun u hu => by simp at hu; rcases hu with rfl | rfl <;> rfl) (by have : maxLen = 9223372036854775807 := rfl; omega) (by omega) (by rw [World.size_alloc]; have := HBN.out.1.bl.size; omega) ?_; intro ov W10 hown hgr hnil hat))
              have HBM0 := Bes.step HBN.out (PrM.step (p := (p1, q)) HBN.out.1 (below_alloc _ _) hown hgr hat)
              obtain ⟨va, vc, rfl, _, _⟩ := own_shapeN hown
              have HBM := (show Hid _ from HBM0)
              clear HBM0
              clear hown hgr hnil hat HBN HB8 H9 s0 s1 t0 t1 HHas
              go_roundw
              case rel => exact ⟨va, l.length + 1, vc, k + 1, l ++ [(p1, q)], rfl, by omega, by go_num, ⟨by rw [List.length_append]; rfl, HBM.out⟩, HKN⟩
              case measure => (simp [intOf] <;> omega)
        · have hke : k = kla := by omega
          have HF : Hid (len = l.length ∧ PrM w wr (.slice ad len cap) l ∧ BxO wr (.slice ad len cap) K0 #[.slice (some ⟨ba, offa, none⟩) n capa, .int .i64 (x0 : Int)] 24 ∧ BxO wr (.slice ad len cap) K1 #[.slice (some ⟨bb, offb, none⟩) m capb, .int .i64 (y0 : Int)] 24) := ⟨HLn.out, HBe.out.1, HBe.out.2.1, HBe.out.2.2.1⟩
          have HI2 : Hid (PrI nsa nsb o x0 y0 l (j + 1)) := HK.out.1.next HK.out.2.2.2 HOk.out (by
            have := HK.out.2.1
            rw [hke, HLk.out.1] at this
            rw [← Hna.out]
            exact this)
          have hj1 : j + 1 ≤ len := by have := HK.out.2.2.1; rw [HLn.out]; omega
          clear HBe HK HKey HCA HCB HIA HIB HPA HPB HPB0 Hna Hnb HIAt HOk
          go_wp2_with fail
          go_roundw
          case rel => exact ⟨ad, len, cap, j + 1, l, rfl, hj1, by go_num, HF, HI2⟩
          case measure => (simp [intOf] <;> omega)
    · have hje : j = len := by omega
      have HFin : Hid (PrsRes w nsa nsb o x0 y0 (.returned (.tuple #[.slice ad len cap, .bool true])) wr) := ⟨ad, len, cap, true, rfl, l, HM.out.2.1.pat HLn.out, by omega, fun _ => by have := HI.out; rw [hje, HLn.out] at this; exact this.done, fun h => absurd h (by decide), HM.out.2.1.bl⟩
      clear HM HI HKey HCA HCB HIAt
      go_wp2_with fail
      go_ret2
      exact HFin.out
end Go.Proofs.YtaflbooofchimaaGreatDoor.Alk
end
