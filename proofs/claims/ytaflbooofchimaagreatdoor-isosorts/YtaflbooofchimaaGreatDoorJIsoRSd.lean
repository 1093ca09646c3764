/- Several texts as one: IsoRSd. -/
import Derived.Test.YtaflbooofchimaaGreatDoorJ27IsoRSrP
import Derived.Test.YtaflbooofchimaaGreatDoorJ31GraphRcnS
import Derived.Test.YtaflbooofchimaaGreatDoorJIsoSrd
section
/- The document's Sorted, by its contract. -/
namespace Go.Proofs.YtaflbooofchimaaGreatDoor.Alk
open Utf Rws Pln Flw Grp
open Go.RowKit Go.Shelf
set_option linter.unusedSimpArgs false
set_option linter.unusedVariables false
set_option maxRecDepth 100000
set_option maxHeartbeats 8000000

/-- a node's Kids in memory, beside the row of nodes that grows -/
def KdO (W : World) (K : Nat) (nv : Value) (p : Nd × Value) : Prop := i64 p.1.kind ∧ p.1.text.length ≤ 9223372036854775807 ∧ ∃ ad len cap, p.2 = .slice ad len cap ∧ len ≤ cap ∧ cap ≤ maxLen ∧ IAt W ad len p.1.kids ∧ ∀ b off, 0 < len → ad = some ⟨b, off, none⟩ → b ≠ K ∧ some b ≠ nv.ownBlock
theorem KdO.later {W W' : World} {K : Nat} {nv : Value} {p : Nd × Value} (h : KdO W K nv p) (hb : Below W.heap.size W W') : KdO W' K nv p := by
  obtain ⟨k1, k2, ad, len, cap, k3, k4, k5, k6, k7⟩ := h
  exact ⟨k1, k2, ad, len, cap, k3, k4, k5, k6.later hb (Nat.le_refl _), k7⟩
theorem iat_keep {W W' : World} {ad : Option Addr} {len : Nat} {l : List Int} (h : IAt W ad len l) (hs : W.heap.size ≤ W'.heap.size) (hk : ∀ b off, 0 < len → ad = some ⟨b, off, none⟩ → W'.heap[b]? = W.heap[b]?) : IAt W' ad len l := by
  refine ⟨h.1, fun hp => ?_⟩
  obtain ⟨b, off, e, hb, hc⟩ := h.2 hp
  exact ⟨b, off, e, Nat.lt_of_lt_of_le hb hs, fun i hi => ⟨(hc i hi).1, (World.cell?_of_block (w := W) (hk b off hp e)).trans (hc i hi).2⟩⟩
/-- the nodes under way -/
structure RdS (W1 W : World) (K : Nat) (r : Int) (nv : Value) (l : List (Nd × Value)) : Prop where
  x : Bx W K #[nv, .int .i64 r] 24
  ow : W.ownsRow (K + 1) 35 3 nv l.length (ncs l)
  kk : ∀ p ∈ l, KdO W K nv p
  bl : Below K W1 W
theorem RdS.new (W1 : World) (r : Int) : RdS W1 (W1.alloc (.cells #[.slice none 0 0, .int .i64 r] 24)) W1.heap.size r (.slice none 0 0) [] := ⟨Bx.new _ _ _, ⟨rfl, .inl ⟨rfl, rfl⟩⟩, fun p hp => (by cases hp), below_alloc _ _⟩
theorem RdS.later {W1 W W' : World} {K : Nat} {r : Int} {nv : Value} {l : List (Nd × Value)} (h : RdS W1 W K r nv l) (hb : Below W.heap.size W W') : RdS W1 W' K r nv l :=
  ⟨h.x.later hb, own_keep h.ow fun g hg => hb.block g (own_block h.ow hg).2, fun p hp => (h.kk p hp).later hb, h.bl.trans (hb.mono (Nat.le_of_lt h.x.lt))⟩
theorem RdS.step {W1 wr A eW : World} {K : Nat} {r : Int} {nv ev : Value} {l : List (Nd × Value)} {p : Nd × Value} (h : RdS W1 wr K r nv l) (hp : KdO wr K nv p) (hA : Below wr.heap.size wr A)
    (r1 : eW.ownsRow (K + 1) 35 3 ev (l.length + 1) (ncs l ++ ncs [p])) (r2 : A.grownBy eW nv.ownBlock) (r4 : ev.ownBlock = nv.ownBlock ∨ ev.ownBlock = some A.heap.size) :
    Bx eW K #[nv, .int .i64 r] 24 ∧ RdS W1 (eW.setCell ⟨K, 0, none⟩ ev) K r ev (l ++ [p]) := by
  have hK := h.x.lt
  have hsA := hA.size
  have hob : ∀ k, k < K + 1 → some k ≠ nv.ownBlock := fun k hk e => by have := (own_block h.ow e.symm).1; omega
  have hkp : ∀ k, k < wr.heap.size → some k ≠ nv.ownBlock → eW.heap[k]? = wr.heap[k]? := fun k h1 h2 => (r2.block k (by omega) h2).trans (hA.block k h1)
  have hx : Bx eW K #[nv, .int .i64 r] 24 := (hkp K hK (hob K (by omega))).trans h.x
  have hse : wr.heap.size ≤ eW.heap.size := by have := r2.size; omega
  have hss : (eW.setCell ⟨K, 0, none⟩ ev).heap.size = eW.heap.size := World.size_setCell _ _ _
  refine ⟨hx, hx.set 0 ev, ?_, fun q hq => ?_, ?_⟩
  · rw [List.length_append, List.length_singleton, ncs_app]
    exact own_keep r1 fun g hg => Below.heap_setCell _ _ _ _ (by show g ≠ K; have := (own_block r1 hg).1; omega)
  · have key : ∀ q, KdO wr K nv q → KdO (eW.setCell ⟨K, 0, none⟩ ev) K ev q := fun q hk => by
      obtain ⟨k1, k2, ad, len, cap, k3, k4, k5, k6, k7⟩ := hk
      have hlt : ∀ b off, 0 < len → ad = some ⟨b, off, none⟩ → b < wr.heap.size := fun b off hp' e => by
        obtain ⟨b2, off2, e2, hb2, _⟩ := k6.2 hp'
        rw [e] at e2
        injection e2 with e2
        injection e2 with e3
        omega
      refine ⟨k1, k2, ad, len, cap, k3, k4, k5, iat_keep k6 (by rw [hss]; exact hse) (fun b off hp' e => ?_), fun b off hp' e => ?_⟩
      · obtain ⟨q1, q2⟩ := k7 b off hp' e
        exact (Below.heap_setCell _ _ _ _ (by show b ≠ K; exact q1)).trans (hkp b (hlt b off hp' e) q2)
      · obtain ⟨q1, q2⟩ := k7 b off hp' e
        refine ⟨q1, ?_⟩
        have := hlt b off hp' e
        rcases r4 with e4 | e4
        · rw [e4]; exact q2
        · rw [e4]
          intro e5
          injection e5 with e5
          omega
    rcases List.mem_append.1 hq with hq | hq
    · exact key q (h.kk q hq)
    · simp at hq; subst hq; exact key _ hp
  · have z1 : Below K W1 A := h.bl.trans (hA.mono (Nat.le_of_lt hK))
    have z2 := z1.grown r2 (by omega) (fun k e => by have := (own_block h.ow e).1; omega)
    exact z2.setCell (p := ⟨K, 0, none⟩) (Nat.le_refl _) _
theorem RdS.gr {W1 W : World} {K : Nat} {r : Int} {nv : Value} {l : List (Nd × Value)} (h : RdS W1 W K r nv l) (hr : i64 r) : ∃ ad cap, nv = .slice ad l.length cap ∧ GrV W (gv ad l.length cap r) ⟨l.map (·.1), r⟩ := by
  obtain ⟨ad, cap, rfl, h1, h2⟩ := own_shapeN h.ow
  refine ⟨ad, cap, rfl, ad, l.length, cap, rfl, h1, h2, hr, by rw [List.length_map], fun hp => ?_⟩
  rcases h.ow.2 with ⟨_, h3⟩ | ⟨g, c, cur, e, hb, hh, _⟩
  · omega
  · cases e
    have hgl : g < W.heap.size := (Array.getElem?_eq_some_iff.1 hh).1
    have hc : ∀ j, j < l.length * 3 → W.cell? ⟨g, j, none⟩ = (ncs l)[j]? := fun j hj => h.ow.cellAt j hj
    refine ⟨g, 0, rfl, hgl, fun i hi => ?_⟩
    have hli : l[i]? = some l[i] := List.getElem?_eq_getElem hi
    obtain ⟨k1, k2, kad, klen, kcap, k3, k4, k5, k6, k7⟩ := h.kk l[i] (List.getElem_mem hi)
    have hg : (l.map (·.1)).getD i nd0 = l[i].1 := by rw [List.getD_eq_getElem?_getD, List.getElem?_map, hli]; rfl
    obtain ⟨m1, m2, m3⟩ := ncs_get l i l[i] hli
    rw [hg]
    refine ⟨kad, klen, kcap, k4, k5, k1, k2, k6, ?_, ?_, ?_⟩
    · rw [Nat.zero_add, hc _ (by omega)]; exact m1
    · rw [Nat.zero_add, hc _ (by omega)]; exact m2
    · rw [Nat.zero_add, hc _ (by omega), m3, k3]
theorem sm2_ris {ns : List Nd} (h : Evn ns) (hS : Sm2 ns) : Sm2 (ris ns) := by
  intro hl
  rw [ris_len] at hl
  obtain ⟨h1, h2⟩ := hS hl
  refine ⟨fun n' hn' => ?_, ?_⟩
  · obtain ⟨n, hn, rfl⟩ := List.mem_map.1 hn'
    exact ⟨(h1 n hn).1, by rw [show (risN ns n).kids.length = n.kids.length from (rsK_perm ns (h n hn)).length_eq]; exact (h1 n hn).2⟩
  · have e : sumK (ris ns) = sumK ns := by
      unfold sumK ris
      rw [List.map_map]
      congr 1
      exact List.map_congr_left fun n hn => (rsK_perm ns (h n hn)).length_eq
    rw [e]; exact h2
theorem ris_take {ns : List Nd} {j : Nat} (h : j < ns.length) : (ris ns).take (j + 1) = (ris ns).take j ++ [⟨(ns.getD j nd0).kind, (ns.getD j nd0).text, rsK ns (ns.getD j nd0)⟩] := by
  rw [List.take_succ_eq_append_getElem (by rw [ris_len]; exact h)]
  congr 2
  unfold ris
  rw [List.getElem_map, List.getD_eq_getElem?_getD, List.getElem?_eq_getElem h]
  rfl
theorem rsrt_core {w : World} {ad : Option Addr} {len cap : Nat} {r : Int} {ns : List Nd} (hG : GrV w (gv ad len cap r) ⟨ns, r⟩) (hS : Sm2 ns) :
    Calls Tryz.prog 14 #[gv ad len cap r] w (GRes w (rgG ⟨ns, r⟩) 1 ⟨cnN (ris ns) (odG (ris ns) r.toNat), 0⟩) := by
  have hN : NAt w ad len ns := by obtain ⟨_, _, _, e, _, _, _, hN⟩ := hG; cases e; exact hN
  have hr64 : i64 r := by obtain ⟨_, _, _, e, _, _, hr, _⟩ := hG; exact hr
  have hlen : len ≤ 9223372036854775807 := by
    obtain ⟨_, _, _, e, h1, h2, _, _⟩ := hG
    cases e
    have hmm : maxLen = 9223372036854775807 := rfl
    omega
  have HLn : Hid (len = ns.length) := hN.1
  have h0 := CaS.new w (.slice ad len cap) (.int .i64 r)
  have HR : Hid (∀ w', Hid (CaS w w' w.heap.size (w.heap.size + 1) (.slice ad len cap) (.int .i64 r)) → Calls Tryz.prog 25 #[gv ad len cap r] w' fun e w'' => e = .returned (.bool (rgG ⟨ns, r⟩)) ∧ Hid (CaS w w'' w.heap.size (w.heap.size + 1) (.slice ad len cap) (.int .i64 r))) :=
    fun w' h => (rright12_core hlen (hN.later h.out.bl (Nat.le_refl _)) hS).mono (fun e w'' q => ⟨q.1, h.out.later q.2⟩)
  cases hq : rgG ⟨ns, r⟩
  case false =>
    rw [hq] at HR
    clear hlen hr64
    go_enter Tryz.func14, Tryz.ntmps14
    go_wp2_with fail
    generalize (w.alloc (.cells #[.slice ad len cap, .int .i64 r] 24)).alloc (.cells #[.slice none 0 0, .int .i64 0] 24) = W0 at h0 ⊢
    refine (HR.out _ h0).mono ?_
    rintro e w1 ⟨rfl, H1⟩
    obtain ⟨c0, c1⟩ := H1.out.r.c2
    have z0 := H1.out.r.fz 0
    have z1 := H1.out.r.fz 1
    have HB : Hid (_ ∧ _) := ⟨(H1.out.r.set 0 (.slice none 0 0)).set 1 (.int .i64 0), (H1.out.bl.setCell (p := ⟨w.heap.size + 1, 0, none⟩) H1.out.hk (.slice none 0 0)).setCell (p := ⟨w.heap.size + 1, 1, none⟩) H1.out.hk (.int .i64 0)⟩
    clear H1 h0 HR hS hN hG
    go_wp2
    generalize (w1.setCell ⟨w.heap.size + 1, 0, none⟩ (.slice none 0 0)).setCell ⟨w.heap.size + 1, 1, none⟩ (.int .i64 0) = W9 at HB ⊢
    have g0 : W9.cell? ⟨w.heap.size + 1, 0, none⟩ = some (.slice none 0 0) := HB.out.1.cell 0
    have g1 : W9.cell? ⟨w.heap.size + 1, 1, none⟩ = some (.int .i64 0) := HB.out.1.cell 1
    refine bodyPost_ret (v := .tuple #[gv none 0 0 0, .int .i64 1]) (by simp [results, Tryz.results14, go_sem, g0, g1]) rfl ?_
    exact ⟨by rw [if_neg (by decide)], HB.out.2⟩
  case true =>
  rw [hq] at HR
  obtain ⟨f1, f2, f3⟩ := rgG_facts hq
  rw [← HLn.out] at f1 f2 f3
  have hE := rg_evn hq
  have hpos : 0 < len := by obtain ⟨m, e, hm⟩ := isP_nat f2; omega
  obtain ⟨b, off, rfl, hb, hc⟩ := hN.2 hpos
  have hsum := (hS (by have := HLn.out; omega)).2
  have HCN : Hid (∀ p, p < len → ∃ pad plen pcap, plen ≤ pcap ∧ pcap ≤ maxLen ∧ plen ≤ 1000000000 ∧ i64 (ns.getD p nd0).kind ∧ (ns.getD p nd0).text.length ≤ 9223372036854775807 ∧ IAt w pad plen (ns.getD p nd0).kids ∧ (∀ a ∈ (ns.getD p nd0).kids, isP len a = true) ∧ ∀ W, Below w.heap.size w W → W.cell? ⟨b, off + p * 3, none⟩ = some (.int .i64 (ns.getD p nd0).kind) ∧ W.cell? ⟨b, off + p * 3 + 1, none⟩ = some (.string (mk (ns.getD p nd0).text)) ∧ W.cell? ⟨b, off + p * 3 + 2, none⟩ = some (.slice pad plen pcap)) := fun p hp => by
    obtain ⟨pad, plen, pcap, q1, q2, q3, q4, q5, z0, z1, z2⟩ := hc p hp
    have hmm := mem_getD (by rw [← HLn.out]; exact hp : p < ns.length)
    have := kids_sum hmm
    exact ⟨pad, plen, pcap, q1, q2, by have := q5.1; omega, q3, q4, q5, f3 _ hmm, fun W h => ⟨(h.cell (p := ⟨b, off + p * 3, none⟩) hb).trans z0, (h.cell (p := ⟨b, off + p * 3 + 1, none⟩) hb).trans z1, (h.cell (p := ⟨b, off + p * 3 + 2, none⟩) hb).trans z2⟩⟩
  have HSR : Hid (∀ W, Below w.heap.size w W → ∀ kad klen kcap l, IAt W kad klen l → klen ≤ 1000000000 → (∀ a ∈ l, isP len a = true) → Calls Tryz.prog 30 #[gv (some ⟨b, off, none⟩) len cap r, .slice kad klen kcap] W (SrRes W (fla (srt (fun p => kp ns p.1) (ens l))))) := fun W h kad klen kcap l h1 h2 h3 => rsorted_any f1 (hG.later h (Nat.le_refl _)) h1 h2 h3
  have HCO : Hid (∀ W a1 l1 p1, GrV W (gv a1 l1 p1 r) ⟨ris ns, r⟩ → Calls Tryz.prog 31 #[gv a1 l1 p1 r] W (GRes W true 1 ⟨cnN (ris ns) (odG (ris ns) r.toNat), 0⟩)) := fun W a1 l1 p1 h => by
    have := rcan12_any h (sm2_ris hE hS)
    rw [rg_ris hq] at this
    exact this
  have HRT : Hid (∀ j, j < len → (ris ns).take (j + 1) = (ris ns).take j ++ [⟨(ns.getD j nd0).kind, (ns.getD j nd0).text, rsK ns (ns.getD j nd0)⟩]) := fun j hj => ris_take (by rw [← HLn.out]; exact hj)
  have HIW : Hid (∀ W, Below w.heap.size w W → ∀ a n l, IAt w a n l → IAt W a n l ∧ ∀ b off, 0 < n → a = some ⟨b, off, none⟩ → b < w.heap.size) := fun W h a n l q => ⟨q.later h (Nat.le_refl _), fun b off hp e => by
    obtain ⟨b2, off2, e2, hb2, _⟩ := q.2 hp
    rw [e] at e2
    injection e2 with e2
    injection e2 with e3
    omega⟩
  have H64 : Hid (i64 r) := hr64
  obtain ⟨i0, hi0, hz0, hz1, hz2⟩ := info_parts Tryz.infoNode
  obtain ⟨K4, HK4⟩ : ∃ K4, Hid (K4 = w.heap.size + 1) := ⟨_, rfl⟩
  obtain ⟨K0, HK0⟩ : ∃ K0, Hid (K0 = w.heap.size) := ⟨_, rfl⟩
  rw [← HK4.out, ← HK0.out] at HR h0
  have H0 : Hid _ := h0
  clear hS hN hc hE hsum f2 f3 hG h0 hr64 hb
  go_enter Tryz.func14, Tryz.ntmps14
  go_wp2_with fail
  rw [← HK4.out, ← HK0.out]
  generalize (w.alloc (.cells #[.slice (some ⟨b, off, none⟩) len cap, .int .i64 r] 24)).alloc (.cells #[.slice none 0 0, .int .i64 0] 24) = W0 at H0 ⊢
  refine (HR.out _ H0).mono ?_
  rintro e w1 ⟨rfl, H1⟩
  clear H0 HR
  obtain ⟨c0, c1⟩ := H1.out.g.c2
  go_upto_region 4 with fail
  have HR1 := RdS.new w1 r
  obtain ⟨K, HK⟩ : ∃ K, Hid (K = w1.heap.size) := ⟨_, rfl⟩
  rw [← HK.out] at HR1 ⊢
  have HR2 : Hid (RdS w1 _ K r (.slice none 0 0) []) := HR1
  clear HR1 c0 c1
  have HAll : Hid (∀ W, Below K w1 W → CaS w W K0 K4 (.slice (some ⟨b, off, none⟩) len cap) (.int .i64 r)) := fun W h => by
    rw [HK.out] at h
    exact H1.out.later h
  have HKK : Hid (K4 < K ∧ K0 < K ∧ w.heap.size ≤ K ∧ w.heap.size ≤ K4) := by
    have h1 := H1.out.r.lt
    have h2 := H1.out.g.lt
    have h3 := H1.out.bl.size
    have h4 := H1.out.hk
    rw [← HK.out] at h1 h2 h3
    exact ⟨h1, h2, h3, h4⟩
  clear H1
  generalize w1.alloc (.cells #[.slice none 0 0, .int .i64 r] 24) = W1 at HR2 ⊢
  go_wp2_with fail
  go_loopw [5] (fun i wr => ∃ (j : Nat) (nv : Value) (l : List (Nd × Value)), j ≤ len ∧ i = .int .i64 (j : Int) ∧ Hid (l.map (·.1) = (ris ns).take j ∧ RdS w1 wr K r nv l)) (fun i _ => len - (intOf i).toNat)
  case atStart => exact ⟨0, _, [], Nat.zero_le _, rfl, rfl, HR2.out⟩
  case round =>
    obtain ⟨j, nv, l, hj, rfl, HS⟩ := hrel
    clear HR2
    obtain ⟨na, nc, rfl, hn1, hn2⟩ := own_shapeN HS.out.2.ow
    have HLl : Hid (l.length = j) := by
      have := congrArg List.length HS.out.1
      rw [List.length_map, List.length_take, ris_len] at this
      have := HLn.out
      show _ = _
      omega
    have hca := HAll.out _ HS.out.2.bl
    obtain ⟨c0, c1⟩ := hca.g.c2
    by_cases hlt : j < len
    · have hlt2 : (j : Int) < (len : Int) := by omega
      have hj0 : (0 : Int) ≤ (j : Int) := by omega
      have HRJ := HRT.out j hlt
      obtain ⟨kad, klen, kcap, k1, k2, k3, k4, k5, k6, k7, k8⟩ := HCN.out j hlt
      obtain ⟨z0, z1, z2⟩ := k8 _ hca.bl
      obtain ⟨kk, hkk⟩ : ∃ kk, kk = (ns.getD j nd0).kind := ⟨_, rfl⟩
      obtain ⟨kx, hkx⟩ : ∃ kx, kx = (ns.getD j nd0).text := ⟨_, rfl⟩
      obtain ⟨ll, hl2⟩ : ∃ ll, ll = (ns.getD j nd0).kids := ⟨_, rfl⟩
      have HRK : Hid (rsK ns (ns.getD j nd0) = if kk = 6 then fla (srt (fun p => kp ns p.1) (ens ll)) else ll) := by
        show _ = _
        rw [hkk, hl2]; rfl
      generalize rsK ns (ns.getD j nd0) = RK at HRJ HRK
      rw [← hkk, ← hkx] at HRJ
      rw [← hkk] at z0 k4
      rw [← hkx] at z1 k5
      rw [← hl2] at k6 k7
      have HRJ2 : Hid _ := HRJ
      have H45 : Hid (i64 kk ∧ kx.length ≤ 9223372036854775807 ∧ klen ≤ kcap ∧ kcap ≤ maxLen) := ⟨k4, k5, k1, k2⟩
      have H67 : Hid (IAt w kad klen ll ∧ ∀ a ∈ ll, isP len a = true) := ⟨k6, k7⟩
      have HBW : Hid (Below w.heap.size w wr) := hca.bl
      have hKwr : K < wr.heap.size := HS.out.2.x.lt
      clear hkk hkx hl2 HRJ k1 k2 k4 k5 k6 k7 k8 hca
      go_upto_region 8 with fail
      have HX : Hid (RdS w1 (wr.alloc (.cells #[.int .i64 kk, .string (mk kx), .slice kad klen kcap] 35)) K r (.slice na l.length nc) l ∧ Bx (wr.alloc (.cells #[.int .i64 kk, .string (mk kx), .slice kad klen kcap] 35)) wr.heap.size #[.int .i64 kk, .string (mk kx), .slice kad klen kcap] 35 ∧ Below wr.heap.size wr (wr.alloc (.cells #[.int .i64 kk, .string (mk kx), .slice kad klen kcap] 35))) := ⟨HS.out.2.later (below_alloc _ _), Bx.new _ _ _, below_alloc _ _⟩
      have HSl : Hid (l.map (·.1) = (ris ns).take j) := HS.out.1
      have HSw : Hid (RdS w1 wr K r (.slice na l.length nc) l) := HS.out.2
      clear z0 z1 z2 HS c0 c1
      generalize wr.alloc (.cells #[.int .i64 kk, .string (mk kx), .slice kad klen kcap] 35) = W5 at HX ⊢
      obtain ⟨K6, HK6⟩ : ∃ K6, Hid (K6 = wr.heap.size) := ⟨_, rfl⟩
      rw [← HK6.out] at HX ⊢
      obtain ⟨g0, g1, g2⟩ := HX.out.2.1.c3
      have HBW5 : Hid (Below w.heap.size w W5) := by
        have h1 := HX.out.2.2
        rw [HK6.out] at h1
        exact HBW.out.trans (h1.mono HBW.out.size)
      have hcw := HAll.out _ HX.out.1.bl
      obtain ⟨c0, c1⟩ := hcw.g.c2
      clear hcw
      by_cases h6 : kk = 6
      case' pos =>
        subst h6
        rw [if_pos rfl] at HRK
        have hI5 := (HIW.out _ HBW5.out _ _ _ H67.out.1).1
        have HC := HSR.out _ HBW5.out kad klen kcap ll hI5 k3 H67.out.2
        rw [← HRK.out] at HC
        clear hI5
        unfold SrRes at HC
        go_upto_region 10 with (go_at_call 30; refine HC.mono ?_; rintro e w7 ⟨oa, olen, ocap, rfl, H7⟩; obtain ⟨e0, e1, e2⟩ := (HX.out.2.1.later H7.out.2.2).c3; have ez := (HX.out.2.1.later H7.out.2.2).fz 2)
        have HV : Hid (RdS w1 (w7.setCell ⟨K6, 2, none⟩ (.slice oa olen ocap)) K r (.slice na l.length nc) l ∧ Bx (w7.setCell ⟨K6, 2, none⟩ (.slice oa olen ocap)) K6 #[.int .i64 6, .string (mk kx), .slice oa olen ocap] 35 ∧ KdO (w7.setCell ⟨K6, 2, none⟩ (.slice oa olen ocap)) K (.slice na l.length nc) (⟨6, kx, RK⟩, .slice oa olen ocap)) := by
          obtain ⟨o1, o2, o3⟩ := H7.out
          have h5 := HX.out.2.2
          have hW5s : wr.heap.size ≤ W5.heap.size := by have := h5.size; omega
          have hK6 := HX.out.2.1.lt
          have hbw : Below wr.heap.size wr w7 := by
            rw [HK6.out] at h5
            exact h5.trans (o3.mono hW5s)
          have hbv : Below wr.heap.size wr (w7.setCell ⟨K6, 2, none⟩ (.slice oa olen ocap)) := hbw.setCell (p := ⟨K6, 2, none⟩) (Nat.le_of_eq HK6.out.symm) _
          have hss : (w7.setCell ⟨K6, 2, none⟩ (.slice oa olen ocap)).heap.size = w7.heap.size := World.size_setCell _ _ _
          have hi := iat_own (l := RK) (show w7.ownsRow W5.heap.size 3 1 (.slice oa olen ocap) olen (RK.map fun a => Value.int .i64 a) from by rw [o1]; rw [o1] at o2; exact o2) (fun a ha => by
            have hm : a ∈ ll := by
              rw [HRK.out] at ha
              have z : srt (fun p : Int × Int => kp ns p.1) (ens ll) = srJ (fun p => kp ns p.1) (ens ll) (ll.length / 2) := (srJ_all (Nat.le_refl _)).symm
              rw [z] at ha
              exact srJ_mem ha
            obtain ⟨q, e, hq'⟩ := isP_nat (H67.out.2 a hm)
            rw [e]
            constructor <;> omega)
          have hob : ∀ b off, 0 < olen → oa = some ⟨b, off, none⟩ → W5.heap.size ≤ b := fun b off hp e => hi.1.2 b off hp e
          refine ⟨HSw.out.later hbv, (HX.out.2.1.later o3).set 2 _, H45.out.1, H45.out.2.1, oa, olen, ocap, rfl, hi.2.1, hi.2.2, iat_keep hi.1.1 (Nat.le_of_eq hss.symm) (fun b off hp e => Below.heap_setCell _ _ _ _ (by show b ≠ K6; have := hob b off hp e; omega)), fun b off hp e => ?_⟩
          have h9 := hob b off hp e
          refine ⟨by omega, fun e2 => ?_⟩
          have := (own_block HSw.out.ow e2.symm).2
          omega
        clear HC H7 HX HSw e0 e1 e2 ez g0 g1 g2 c0 c1
        generalize w7.setCell ⟨K6, 2, none⟩ (.slice oa olen ocap) = V at HV ⊢
      case' neg =>
        rw [if_neg h6] at HRK
        have h6' : (kk == 6) = false := by simp [h6]
        have HV : Hid (RdS w1 W5 K r (.slice na l.length nc) l ∧ Bx W5 K6 #[.int .i64 kk, .string (mk kx), .slice kad klen kcap] 35 ∧ KdO W5 K (.slice na l.length nc) (⟨kk, kx, RK⟩, .slice kad klen kcap)) := by
          obtain ⟨q1, q2⟩ := HIW.out _ HBW5.out _ _ _ H67.out.1
          refine ⟨HX.out.1, HX.out.2.1, H45.out.1, H45.out.2.1, kad, klen, kcap, rfl, H45.out.2.2.1, H45.out.2.2.2, by rw [HRK.out]; exact q1, fun b off hp e => ?_⟩
          have h1 := q2 b off hp e
          have h2 := HKK.out.2.2.1
          refine ⟨by omega, fun e2 => ?_⟩
          have := (own_block HSw.out.ow e2.symm).1
          omega
        go_upto_region 10 with fail
        clear HX HSw g0 g1 g2 c0 c1 h6 h6'
        generalize W5 = V at HV ⊢
      all_goals
        obtain ⟨g0, g1, g2⟩ := HV.out.2.1.c3
        obtain ⟨n0, n1⟩ := HV.out.1.x.c2
        have hk9 : K < V.heap.size := HV.out.1.x.lt
        have hll : l.length ≤ 5000 := by have := HLl.out; omega
        go_wp2_with (at_builtin; refine wpList_append_own_at _ rfl _ _ 22 rfl (K + 1) 35 i0 (.agg #[.int .i64 0, .string ⟨#[]⟩, .slice none 0 0]) 3 48 Tryz.underNodes hi0 hz0 hz1 hz2 rfl (by decide) _ _ _ rfl (HV.out.1.ow.alloc _) ⟨V.heap.size, 0, none⟩ 1 1 _ rfl rfl (cell_three_rc _ _ _ _ _) (fun u hu => by simp at hu; rcases hu with rfl | rfl | rfl <;> rfl) (by have : maxLen = 9223372036854775807 := rfl; omega) (by omega) (by rw [World.size_alloc]; omega) ?_; intro ov W8 hown hgr hnil hat; have HY := HV.out.1.step HV.out.2.2 (below_alloc _ _) hown hgr hat; obtain ⟨va, vc, rfl, _, _⟩ := own_shapeN hown; have e0 : W8.cell? ⟨K, 0, none⟩ = some (.slice na l.length nc) := HY.1.cell 0; have ez : W8.frozen? ⟨K, 0, none⟩ = false := HY.1.fz 0)
        have HY2 := (show Hid _ from HY.2)
        clear HY hown hgr hnil hat e0 ez HV n0 n1 g0 g1 g2
        generalize W8.setCell ⟨K, 0, none⟩ (.slice va (l.length + 1) vc) = W10 at HY2 ⊢
        go_wp2_with fail
        go_roundw
        case rel => exact ⟨j + 1, _, _, by omega, by go_num, by rw [List.map_append, HSl.out, HRJ2.out]; rfl, HY2.out⟩
        case measure => (simp [intOf] <;> omega)
    · have hje : j = len := by omega
      subst hje
      obtain ⟨a1, p1, e9, HGr⟩ := HS.out.2.gr H64.out
      cases e9
      have hgl : l.map (·.1) = ris ns := by rw [HS.out.1, List.take_of_length_le (by rw [ris_len, ← HLn.out]; exact Nat.le_refl _)]
      rw [hgl] at HGr
      have HC := HCO.out _ _ _ _ HGr
      have HC2 : Hid (Calls Tryz.prog 31 #[gv na l.length nc r] wr fun e w3 => ∃ ad2 len2 cap2, e = .returned (.tuple #[gv ad2 len2 cap2 0, .int .i64 0]) ∧ Hid (GrP (K4 + 1) w3 (gv ad2 len2 cap2 0) ⟨cnN (ris ns) (odG (ris ns) r.toNat), 0⟩) ∧ Hid (CaS w w3 K0 K4 (.slice (some ⟨b, off, none⟩) j cap) (.int .i64 r)) ∧ w3.cell? ⟨K4, 0, none⟩ = some (.slice none 0 0) ∧ w3.cell? ⟨K4, 1, none⟩ = some (.int .i64 0) ∧ w3.frozen? ⟨K4, 0, none⟩ = false ∧ w3.frozen? ⟨K4, 1, none⟩ = false) := by
        refine HC.mono ?_
        rintro e w3 ⟨q3, q4⟩
        rw [if_pos rfl] at q3
        obtain ⟨v, rfl, q5⟩ := q3
        have q6 := q5.v
        obtain ⟨ad2, len2, cap2, rfl, _⟩ := q6
        have h3 := hca.later q4
        have hk := HS.out.2.x.lt
        have hk2 := HKK.out.1
        exact ⟨ad2, len2, cap2, rfl, q5.mono (by omega), h3, h3.r.c2.1, h3.r.c2.2, h3.r.fz 0, h3.r.fz 1⟩
      obtain ⟨n0, n1⟩ := HS.out.2.x.c2
      have HK9 : Hid (w.heap.size ≤ K4) := HKK.out.2.2.2
      clear HC HGr hgl HS HAll HCN HSR HCO HRT HIW hca
      go_wp2_with (go_at_call 31; refine HC2.out.mono ?_; rintro e w3 ⟨ad', len', cap', rfl, H4, H5, d0, d1, z0, z1⟩)
      have HB : Hid (_ ∧ _ ∧ _) := ⟨(H5.out.r.set 0 (.slice ad' len' cap')).set 1 (.int .i64 0), (H5.out.bl.setCell (p := ⟨K4, 0, none⟩) H5.out.hk (.slice ad' len' cap')).setCell (p := ⟨K4, 1, none⟩) H5.out.hk (.int .i64 0), (H4.out.set (i := 0) (u := .slice ad' len' cap') (K := K4) (by omega)).set (i := 1) (u := .int .i64 0) (K := K4) (by omega)⟩
      generalize (w3.setCell ⟨K4, 0, none⟩ (.slice ad' len' cap')).setCell ⟨K4, 1, none⟩ (.int .i64 0) = W9 at HB ⊢
      have g0 : W9.cell? ⟨K4, 0, none⟩ = some (.slice ad' len' cap') := HB.out.1.cell 0
      have g1 : W9.cell? ⟨K4, 1, none⟩ = some (.int .i64 0) := HB.out.1.cell 1
      refine bodyPost_ret (v := .tuple #[gv ad' len' cap' 0, .int .i64 0]) (by simp [results, Tryz.results14, go_sem, g0, g1]) rfl ?_
      exact ⟨by rw [if_pos rfl]; exact ⟨_, rfl, HB.out.2.2.mono (by have := HK9.out; omega)⟩, HB.out.2.1⟩
theorem rsrt_any {w : World} {v : Value} {g : Gr} (h : GrV w v g) (hS : Sm2 g.nodes) : Calls Tryz.prog 14 #[v] w (GRes w (rgG g) 1 ⟨cnN (ris g.nodes) (odG (ris g.nodes) g.root.toNat), 0⟩) := by
  have h' := h
  obtain ⟨ad, len, cap, rfl, _⟩ := h'
  exact rsrt_core h hS
end Go.Proofs.YtaflbooofchimaaGreatDoor.Alk
end
