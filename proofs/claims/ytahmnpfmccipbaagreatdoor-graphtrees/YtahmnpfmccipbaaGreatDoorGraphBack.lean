/- grommetlaw12.back, by its contract. -/
import Derived.Test.YtahmnpfmccipbaaGreatDoorGraphTreP
namespace Go.Proofs.YtahmnpfmccipbaaGreatDoor.Grp
open Utf Rws Pln Flw
open Go.RowKit
set_option linter.unusedSimpArgs false
set_option linter.unusedVariables false
set_option maxRecDepth 100000
set_option maxHeartbeats 4000000

def BkRes (L : Nat) (w : World) (d : Nat) (t : Tr) (n : Nat) (e : Ending) (w' : World) : Prop := ∃ (k : Int) (x y : ByteArray) (ad : Option Addr) (len cap : Nat), e = .returned (.agg #[.int .i64 k, .string x, .string y, .slice ad len cap]) ∧ Hid (TrP w.heap.size w' d (.agg #[.int .i64 k, .string x, .string y, .slice ad len cap]) t) ∧ Hid (Fr L w w') ∧ w'.cell? ⟨L, 0, none⟩ = some (.int .i64 (n : Int)) ∧ w'.frozen? ⟨L, 0, none⟩ = false
/-- a node of a graph that lies from a block on, in every world that keeps these -/
theorem grp_node {B : Nat} {W : World} {ad : Option Addr} {len cap : Nat} {r : Int} {ns : List Nd} {a : Nat} (h : GrP B W (gv ad len cap r) ⟨ns, r⟩) (ha : a < ns.length) : len = ns.length ∧ len ≤ cap ∧ cap ≤ maxLen ∧ ∃ b off kad klen kcap, ad = some ⟨b, off, none⟩ ∧ klen = (ns.getD a nd0).kids.length ∧ ∀ W', W.heap.size ≤ W'.heap.size → (∀ k, B ≤ k → k < W.heap.size → W'.heap[k]? = W.heap[k]?) →
    W'.cell? ⟨b, off + a * 3, none⟩ = some (.int .i64 (ns.getD a nd0).kind) ∧ W'.cell? ⟨b, off + a * 3 + 1, none⟩ = some (.string (mk (ns.getD a nd0).text)) ∧ W'.cell? ⟨b, off + a * 3 + 2, none⟩ = some (.slice kad klen kcap) ∧ IAt W' kad klen (ns.getD a nd0).kids := by
  obtain ⟨ad0, len0, cap0, e, h1, h2, h3, h4⟩ := h.v
  cases e
  obtain ⟨b, off, rfl, hlt, hcell⟩ := h4.2 (by have := h4.1; simp only at this; omega)
  obtain ⟨kad, klen, kcap, g1, g2, g3, g4, g5, g6, g7, g8⟩ := hcell a (by have := h4.1; simp only at this; omega)
  have hB : B ≤ b := by
    apply Nat.le_of_not_lt
    intro hb
    have q := h (W.setCell ⟨b, off + a * 3, none⟩ (.bool false)) (by rw [World.size_setCell]; exact Nat.le_refl _) (fun k hk _ => Below.heap_setCell _ _ _ _ (fun e => by simp only at e; omega))
    obtain ⟨_, _, _, e, _, _, _, q4⟩ := q
    cases e
    obtain ⟨b', off', e', _, hc'⟩ := q4.2 (by have := h4.1; simp only at this; omega)
    cases e'
    obtain ⟨_, _, _, _, _, _, _, _, q6, _⟩ := hc' a (by have := h4.1; simp only at this; omega)
    rw [World.cell?_setCell_same' W ⟨b, off + a * 3, none⟩ _ (by rw [g6]; rfl)] at q6
    cases q6
  refine ⟨h4.1, h1, h2, b, off, kad, klen, kcap, rfl, g5.1, fun W' hs hk => ?_⟩
  have eb : ∀ n, W'.cell? ⟨b, n, none⟩ = W.cell? ⟨b, n, none⟩ := fun n => World.cell?_of_block (w := W) (hk b hB hlt)
  refine ⟨(eb _).trans g6, (eb _).trans g7, (eb _).trans g8, ?_⟩
  obtain ⟨_, _, _, e, _, _, _, q4⟩ := h W' hs hk
  cases e
  obtain ⟨b', off', e', _, hc'⟩ := q4.2 (by have := h4.1; simp only at this; omega)
  cases e'
  obtain ⟨kad', klen', kcap', _, _, _, _, q5, _, _, q8⟩ := hc' a (by have := h4.1; simp only at this; omega)
  rw [eb, g8] at q8
  cases q8
  exact q5
theorem froz_of_block {w w' : World} {k i : Nat} (h : w'.heap[k]? = w.heap[k]?) : w'.frozen? ⟨k, i, none⟩ = w.frozen? ⟨k, i, none⟩ := by
  unfold World.frozen?
  simp only [h]
/-- the worlds at the start -/
theorem bk_start {w : World} {L : Nat} {c : Array Value} {u v : Value} (hL : L < w.heap.size) (hc : w.cell? ⟨L, 0, none⟩ = some v) (hf : w.frozen? ⟨L, 0, none⟩ = false) :
    Bx (((w.setCell ⟨L, 0, none⟩ u).alloc (.cells c 30)).alloc (.cells zT 24)) w.heap.size c 30 ∧ Bx (((w.setCell ⟨L, 0, none⟩ u).alloc (.cells c 30)).alloc (.cells zT 24)) (w.heap.size + 1) zT 24 ∧ Fr L w (((w.setCell ⟨L, 0, none⟩ u).alloc (.cells c 30)).alloc (.cells zT 24)) ∧ (((w.setCell ⟨L, 0, none⟩ u).alloc (.cells c 30)).alloc (.cells zT 24)).cell? ⟨L, 0, none⟩ = some u ∧ (((w.setCell ⟨L, 0, none⟩ u).alloc (.cells c 30)).alloc (.cells zT 24)).frozen? ⟨L, 0, none⟩ = false ∧ (((w.setCell ⟨L, 0, none⟩ u).alloc (.cells c 30)).alloc (.cells zT 24)).heap.size = w.heap.size + 2 := by
  have s0 : (w.setCell ⟨L, 0, none⟩ u).heap.size = w.heap.size := World.size_setCell _ _ _
  have c0 : (w.setCell ⟨L, 0, none⟩ u).cell? ⟨L, 0, none⟩ = some u := World.cell?_setCell_same' w ⟨L, 0, none⟩ _ (by rw [hc]; rfl)
  have f0 : (w.setCell ⟨L, 0, none⟩ u).frozen? ⟨L, 0, none⟩ = false := by rw [World.frozen?_setCell]; exact hf
  have fr0 : Fr L w (w.setCell ⟨L, 0, none⟩ u) := Fr.refl.set 0 u
  generalize w.setCell ⟨L, 0, none⟩ u = w1 at *
  have b1 := below_alloc w1 (.cells c 30)
  have n1 := Bx.new w1 c 30
  have s1 : (w1.alloc (.cells c 30)).heap.size = w1.heap.size + 1 := World.size_alloc _ _
  generalize w1.alloc (.cells c 30) = w2 at *
  have b2 := below_alloc w2 (.cells zT 24)
  have n2 := Bx.new w2 zT 24
  have s2 : (w2.alloc (.cells zT 24)).heap.size = w2.heap.size + 1 := World.size_alloc _ _
  rw [s0] at n1 s1
  rw [s1] at n2 s2
  have b3 := b1.trans (b2.mono b1.size)
  exact ⟨n1.later b2, n2, fr0.trans (Fr.of b3 (by omega)), (b3.cell (p := ⟨L, 0, none⟩) (by show L < w1.heap.size; omega)).trans c0, (froz_of_block (b3.block L (by omega))).trans f0, s2⟩
/-- a node's and a tree's boxes -/
theorem bk_boxes {A : World} {KR d : Nat} {c : Array Value} {k : Int} {x : Ln} (h : Bx A KR zT 24) (hs : A.heap.size = KR + 1) :
    Kb ((A.alloc (.cells c 53)).alloc (.cells #[.int .i64 k, .string (mk x), .string ⟨#[]⟩, .slice none 0 0] 24)) KR (KR + 2) d k x (.slice none 0 0) 0 [] [] ∧ Bx ((A.alloc (.cells c 53)).alloc (.cells #[.int .i64 k, .string (mk x), .string ⟨#[]⟩, .slice none 0 0] 24)) (KR + 1) c 53 ∧ Below A.heap.size A ((A.alloc (.cells c 53)).alloc (.cells #[.int .i64 k, .string (mk x), .string ⟨#[]⟩, .slice none 0 0] 24)) := by
  have b1 := below_alloc A (.cells c 53)
  have n1 := Bx.new A c 53
  have s1 : (A.alloc (.cells c 53)).heap.size = A.heap.size + 1 := World.size_alloc _ _
  have b2 := below_alloc (A.alloc (.cells c 53)) (.cells #[.int .i64 k, .string (mk x), .string ⟨#[]⟩, .slice none 0 0] 24)
  have n2 := Bx.new (A.alloc (.cells c 53)) #[.int .i64 k, .string (mk x), .string ⟨#[]⟩, .slice none 0 0] 24
  rw [s1, hs] at n2
  rw [hs] at n1
  have b3 := b1.trans (b2.mono b1.size)
  exact ⟨⟨h.later b3, n2, World.ownsRow_nil _ _ _ _, KdQ.nil _, rfl, by omega⟩, n1.later b2, b3⟩
theorem back_core {W0 w : World} {L lo d a p : Nat} {k r : Int} {x : Ln} {ad : Option Addr} {len cap : Nat} {ns : List Nd} {qs : List Nat} {ks : List Tr} (hk : i64 k) (hx : x.length ≤ 9223372036854775807)
    (HG : Hid (GrP (L + 1) W0 (gv ad len cap r) ⟨ns, r⟩)) (HF : Hid (Fr L W0 w)) (hL : L < W0.heap.size) (hns : ns.length ≤ 1000000) (hat : ns[a]? = some ⟨k, x, qs.map fun b : Nat => (b : Int)⟩) (hql : qs.length = ks.length) (hkl : ks.length ≤ 1000000) (hp : p ≤ 5000)
    (hc : w.cell? ⟨L, 0, none⟩ = some (.int .i64 ((p : Int) + 1))) (hf : w.frozen? ⟨L, 0, none⟩ = false) (hsz : szs d ks ks.length ≤ p)
    (HI : Hid (∀ W j n, j < ks.length → Fr L W0 W → tsz d (ks.getD j tr0) ≤ n → n ≤ 5000 → W.cell? ⟨L, 0, none⟩ = some (.int .i64 (n : Int)) → W.frozen? ⟨L, 0, none⟩ = false → Calls Tryz.prog 19 #[gv ad len cap r, .int .i64 ((qs.getD j 0 : Nat) : Int), .pointer (some ⟨L, 0, none⟩)] W (BkRes L W d (br d (ks.getD j tr0)) (n - tsz d (ks.getD j tr0))))) :
    Calls Tryz.prog 19 #[gv ad len cap r, .int .i64 (a : Int), .pointer (some ⟨L, 0, none⟩)] w (BkRes L w (d + 1) ⟨k, x, [], ks.map (br d)⟩ (p - szs d ks ks.length)) := by
  have hLw : L < w.heap.size := Nat.lt_of_lt_of_le hL HF.out.size
  have hal : a < ns.length := (List.getElem?_eq_some_iff.1 hat).1
  have hgd : ns.getD a nd0 = ⟨k, x, qs.map fun b : Nat => (b : Int)⟩ := by rw [List.getD_eq_getElem?_getD, hat]; rfl
  obtain ⟨hlen, hc1, hc2, gb, goff, kad, klen, kcap, rfl, hkn, hND⟩ := grp_node HG.out hal
  rw [hgd] at hkn hND
  simp only [List.length_map] at hkn
  have HQL : Hid (klen = ks.length) := by show _ = _; omega
  have hkn2 : klen ≤ 1000000 := by omega
  have HND : Hid (∀ W', Fr L W0 W' → _) := fun W' h => hND W' h.size (fun j h1 h2 => h.2 j h1 h2)
  have hal2 : a < len := by omega
  have hal3 : len ≤ 1000000 := by omega
  have st := bk_start (c := #[.slice (some ⟨gb, goff, none⟩) len cap, .int .i64 r]) (u := .int .i64 (p : Int)) hLw hc hf
  rw [show zT = #[.int .i64 0, .string ⟨#[]⟩, .string ⟨#[]⟩, .slice none 0 0] from rfl] at st
  obtain ⟨it, hi, hz0, hz1, hz2⟩ := info_parts infoTree
  have hcf : ∀ (vs : Array Value) (w : World), (callFunc 19 vs).run Tryz.prog w = .ok (.enter 19 vs) w := enters_of Tryz.func19 (by kernel_rfl) rfl
  obtain ⟨KS, HKS⟩ : ∃ KS, Hid (KS = ks.map (br d)) := ⟨_, rfl⟩
  obtain ⟨NN, HNN⟩ : ∃ NN, Hid (NN = p - szs d ks ks.length) := ⟨_, rfl⟩
  rw [← HKS.out, ← HNN.out]
  have HSZ : Hid (szs d ks ks.length ≤ p) := hsz
  clear hgd hkn hlen hND hat hql hkl hns hal HG hsz
  go_enter Tryz.func19, Tryz.ntmps19
  go_upto_region 4 with fail
  clear hc hf
  generalize ((w.setCell ⟨L, 0, none⟩ (.int .i64 (p : Int))).alloc (.cells #[.slice (some ⟨gb, goff, none⟩) len cap, .int .i64 r] 30)).alloc (.cells #[.int .i64 0, .string ⟨#[]⟩, .string ⟨#[]⟩, .slice none 0 0] 24) = A at st ⊢
  obtain ⟨nG, nR, frA, cA, fA, sA⟩ := st
  have nR2 : Bx A (w.heap.size + 1) zT 24 := nR
  obtain ⟨g0, g1, g2, g3⟩ := HND.out A (HF.out.trans frA)
  obtain ⟨q0, q1⟩ := nG.c2
  have bx := bk_boxes (d := d) (c := #[.int .i64 k, .string (mk x), .slice kad klen kcap]) (k := k) (x := x) nR2 (by rw [sA])
  obtain ⟨KR, hKR⟩ : ∃ KR, KR = w.heap.size + 1 := ⟨_, rfl⟩
  obtain ⟨K0, hK0⟩ : ∃ K0, K0 = w.heap.size := ⟨_, rfl⟩
  have HKR : Hid (w.heap.size < KR) := by show _ < _; omega
  have HK0 : Hid (w.heap.size ≤ K0 ∧ L < K0) := by show _ ∧ _; omega
  have HK04 : Hid (K0 < KR + 2) := by show _ < _; omega
  rw [← hKR] at bx ⊢
  rw [← hK0] at q0 q1 nG ⊢
  have HnG : Hid (Bx A K0 #[.slice (some ⟨gb, goff, none⟩) len cap, .int .i64 r] 30) := nG
  have HsA : Hid (A.heap.size = KR + 1) := by show _ = _; omega
  clear nG nR nR2 sA hK0 hKR
  obtain ⟨k1, nN, bA⟩ := bx
  have HFA : Hid (Fr L w ((A.alloc (.cells #[.int .i64 k, .string (mk x), .slice kad klen kcap] 53)).alloc (.cells #[.int .i64 k, .string (mk x), .string ⟨#[]⟩, .slice none 0 0] 24))) := frA.trans (Fr.of bA (by have := frA.size; omega))
  have c1 : ((A.alloc (.cells #[.int .i64 k, .string (mk x), .slice kad klen kcap] 53)).alloc (.cells #[.int .i64 k, .string (mk x), .string ⟨#[]⟩, .slice none 0 0] 24)).cell? ⟨L, 0, none⟩ = some (.int .i64 (p : Int)) := (bA.cell (p := ⟨L, 0, none⟩) (by have := frA.size; show L < A.heap.size; omega)).trans cA
  have f1 : ((A.alloc (.cells #[.int .i64 k, .string (mk x), .slice kad klen kcap] 53)).alloc (.cells #[.int .i64 k, .string (mk x), .string ⟨#[]⟩, .slice none 0 0] 24)).frozen? ⟨L, 0, none⟩ = false := (froz_of_block (bA.block L (by have := frA.size; omega))).trans fA
  have HG1 : Hid (Bx ((A.alloc (.cells #[.int .i64 k, .string (mk x), .slice kad klen kcap] 53)).alloc (.cells #[.int .i64 k, .string (mk x), .string ⟨#[]⟩, .slice none 0 0] 24)) K0 #[.slice (some ⟨gb, goff, none⟩) len cap, .int .i64 r] 30) := HnG.out.later bA
  clear frA cA fA HnG bA nN
  go_wp2_with fail
  rw [HsA.out]
  clear g0 g1 g2 g3 q0 q1 HsA
  generalize (A.alloc (.cells #[.int .i64 k, .string (mk x), .slice kad klen kcap] 53)).alloc (.cells #[.int .i64 k, .string (mk x), .string ⟨#[]⟩, .slice none 0 0] 24) = B at k1 HFA c1 f1 HG1 ⊢
  rw [show KR + 1 + 1 = KR + 2 from rfl]
  generalize KR + 2 = K2 at k1 HK04 ⊢
  go_loopw [45] (fun i wr => ∃ (j n : Nat) (u : Value) (xs : List Value), j ≤ klen ∧ i = .int .i64 j ∧ Hid (Kb wr KR K2 d k x u j xs ((ks.take j).map (br d))) ∧ Hid (Fr L w wr) ∧ Hid (wr.cell? ⟨L, 0, none⟩ = some (.int .i64 (n : Int))) ∧ Hid (wr.frozen? ⟨L, 0, none⟩ = false) ∧ Hid (n + szs d ks j = p) ∧ Hid (Bx wr K0 #[.slice (some ⟨gb, goff, none⟩) len cap, .int .i64 r] 30)) (fun i _ => klen - (intOf i).toNat)
  case atStart => exact ⟨0, p, _, [], Nat.zero_le _, rfl, k1, HFA, c1, f1, (by simp [szs] : p + szs d ks 0 = p), HG1⟩
  case round =>
    obtain ⟨j, n, u, xs, hj, rfl, HK, HR, HC, HZ, HN, HGB⟩ := hrel
    clear k1 HFA c1 f1 HG1
    by_cases hlt : j < klen
    · have hjk : j < ks.length := by have := HQL.out; omega
      obtain ⟨_, _, _, g3⟩ := HND.out wr (HF.out.trans HR.out)
      obtain ⟨b, off, rfl, hb, hcell⟩ := g3.2 (by omega)
      have x0 := (hcell j hlt).2
      have eq0 : (qs.map fun b : Nat => (b : Int)).getD j 0 = ((qs.getD j 0 : Nat) : Int) := by
        simp only [List.getD_eq_getElem?_getD, List.getElem?_map]
        cases qs[j]? <;> rfl
      rw [eq0] at x0
      clear hcell g3 eq0
      have HTK : Hid ((ks.take (j + 1)).map (br d) = (ks.take j).map (br d) ++ [br d (ks.getD j tr0)]) := by
        show _ = _
        rw [List.take_succ_eq_append_getElem hjk, List.map_append, List.getD_eq_getElem?_getD, List.getElem?_eq_getElem hjk]
        simp
      have hs1 := szs_succ d ks j hjk
      have hs2 : szs d ks (j + 1) ≤ szs d ks ks.length := szs_le d ks (j + 1)
      have hs3 : tsz d (ks.getD j tr0) ≤ n := by have := HN.out; have := HSZ.out; omega
      have HN2 : Hid (n - tsz d (ks.getD j tr0) + szs d ks (j + 1) = p) := by have := HN.out; show _ = _; omega
      have HCL : Hid (Calls Tryz.prog 19 #[gv (some ⟨gb, goff, none⟩) len cap r, .int .i64 ((qs.getD j 0 : Nat) : Int), .pointer (some ⟨L, 0, none⟩)] wr.drew (BkRes L wr.drew d (br d (ks.getD j tr0)) (n - tsz d (ks.getD j tr0)))) := HI.out _ j n hjk (HF.out.trans HR.out).drew hs3 (by have := HN.out; omega) HC.out HZ.out
      generalize n - tsz d (ks.getD j tr0) = n2 at HN2 HCL
      generalize br d (ks.getD j tr0) = tj at HTK HCL
      generalize qs.getD j 0 = qj at x0 HCL
      clear hs1 hs2 hs3
      obtain ⟨d0, d1⟩ := HGB.out.c2
      have e3 : wr.cell? ⟨K2, 3, none⟩ = some u := HK.out.bx.c4.2.2.2
      have hKlt : K2 < wr.heap.size := HK.out.bx.lt
      have hK0lt : K0 < wr.heap.size := HGB.out.lt
      have HKD : Hid (Kb wr.drew KR K2 d k x u j xs ((ks.take j).map (br d))) := kb_later HK.out (Below.refl _ wr).drew
      have HOB : Hid (∀ q, u.ownBlock = some q → q < wr.heap.size) := fun q hq => (own_blk HK.out.own hq).2
      have HLK : Hid (L < KR) := by have := HKR.out; show _ < _; omega
      have HRD : Hid (Fr L w wr.drew) := HR.out.drew
      have HGD : Hid (Bx wr.drew K0 #[.slice (some ⟨gb, goff, none⟩) len cap, .int .i64 r] 30) := HGB.out
      go_upto_region 9 with fail
      clear HI HND HC HZ HN
      go_region_law (first
        | (refine step_call rfl 19 _ _ rfl #[gv (some ⟨gb, goff, none⟩) len cap r, .int .i64 (qj : Int), .pointer (some ⟨L, 0, none⟩)] (hcf _ _) (by simp [Act.eval, Act.put]) HCL.out ?_; rintro e w2 ⟨rk, rx, ry, rad, rlen, rcap, rfl, HT2, HF2, hc2, hf2⟩; refine ⟨_, rfl, ?_⟩; have HK2 : Hid (Kb w2 KR K2 d k x u j xs ((ks.take j).map (br d))) := kb_keep HKD.out HF2.out.size (fun i h1 h2 => HF2.out.2 i (by have := HLK.out; omega) h2); have q1 : w2.cell? ⟨K2, 3, none⟩ = some u := HK2.out.bx.c4.2.2.2; have hs2 : wr.heap.size ≤ w2.heap.size := HF2.out.size; have hk2 : K2 < w2.heap.size := HK2.out.bx.lt)
        | (refine step_append_at rfl (.tmp 50) (.tmp 55) 22 rfl (K2 + 1) 24 it (.agg zT) 4 64 Tryz.underlying22 hi hz0 hz1 hz2 rfl (by decide) u j xs (by simp [Act.eval, Act.put]) (HK2.out.own.alloc _) ⟨w2.heap.size, 0, none⟩ 1 1 [.int .i64 rk, .string rx, .string ry, .slice rad rlen rcap] (by simp [Act.eval, Act.put]) rfl (cell_four _ _ _ _ _ _) (one_four _ _ _ _ _ _) (by unfold maxLen; omega) (by omega) (by rw [World.size_alloc]; omega) ?_; intro v' w3 hown' hgrow hat; obtain ⟨va, vc, rfl⟩ := own_shapeT hown'; have hb3 : Bx w3 K2 #[.int .i64 k, .string (mk x), .string ⟨#[]⟩, u] 24 := (hgrow.block K2 (by rw [World.size_alloc]; omega) (fun e => by have := own_blk HK2.out.own e.symm; omega)).trans (HK2.out.bx.later (below_alloc w2 _)); have c3 : w3.cell? ⟨K2, 3, none⟩ = some u := hb3.c4.2.2.2; have f3 := hb3.fz 3))
      all_goals
        have HK4 : Hid (Kb (w3.setCell ⟨K2, 3, none⟩ (.slice va (j + 1) vc)) KR K2 d k x (.slice va (j + 1) vc) (j + 1) (xs ++ [.int .i64 rk, .string rx, .string ry, .slice rad rlen rcap]) ((ks.take (j + 1)).map (br d))) := (by rw [HTK.out]; exact kb_more (kb_later HK2.out (below_alloc w2 _)) hown' hgrow hat (kdq_one (HT2.out.later (below_alloc w2 _)) (show K2 + 1 ≤ wr.heap.size from hKlt) HOB.out))
        have HKP : Hid (∀ i, i < w2.heap.size → i < K2 → (w3.setCell ⟨K2, 3, none⟩ (.slice va (j + 1) vc)).heap[i]? = w2.heap[i]?) := (fun i h1 h2 => by
          rw [Below.heap_setCell _ _ _ _ (fun e => by simp only at e; omega), hgrow.block i (by rw [World.size_alloc]; omega) (fun e => by have := own_blk HK2.out.own e.symm; omega)]
          exact (below_alloc w2 _).block i h1)
        have HFR : Hid (Fr L w (w3.setCell ⟨K2, 3, none⟩ (.slice va (j + 1) vc))) := (by
          have z0 : Fr L w w2 := HRD.out.trans HF2.out
          have z1 : Fr L w (w2.alloc (.cells #[.int .i64 rk, .string rx, .string ry, .slice rad rlen rcap] 24)) := z0.trans (Fr.of (below_alloc w2 _) (by have := HK0.out; omega))
          have z2 : Fr L w w3 := ⟨z1.1.grown hgrow (by have := z1.size; have := HK0.out; omega) (fun q hq => by have := (own_blk HK2.out.own hq).1; have := HLK.out; have := HK2.out.h1; omega), fun i h1 h2 => (hgrow.block i (by have := z1.size; omega) (fun e => by have := (own_blk HK2.out.own e.symm).1; have := HK0.out; have := HKR.out; have := HK2.out.h1; omega)).trans (z1.2 i h1 h2)⟩
          exact z2.new (by have := HKR.out; have := HK2.out.h1; omega) (by have := HLK.out; have := HK2.out.h1; omega) 3 _)
        have HC4 : Hid ((w3.setCell ⟨K2, 3, none⟩ (.slice va (j + 1) vc)).cell? ⟨L, 0, none⟩ = some (.int .i64 (n2 : Int))) := (World.cell?_of_block (w := w2) (HKP.out L (by have := HLK.out; have := HK2.out.h1; omega) (by have := HLK.out; have := HK2.out.h1; omega))).trans hc2
        have HZ4 : Hid ((w3.setCell ⟨K2, 3, none⟩ (.slice va (j + 1) vc)).frozen? ⟨L, 0, none⟩ = false) := (froz_of_block (HKP.out L (by have := HLK.out; have := HK2.out.h1; omega) (by have := HLK.out; have := HK2.out.h1; omega))).trans hf2
        have HG4 : Hid (Bx (w3.setCell ⟨K2, 3, none⟩ (.slice va (j + 1) vc)) K0 #[.slice (some ⟨gb, goff, none⟩) len cap, .int .i64 r] 30) := (HKP.out K0 (by omega) (by have := HK04.out; omega)).trans (HGD.out.fr HF2.out HK0.out.2)
        clear hown' hgrow hat hb3 c3 f3 q1 hs2 hk2 HK2 HT2 HF2 HCL HKD HOB HKP hc2 hf2
        go_wp2
        go_roundw
        case rel => exact ⟨j + 1, n2, _, _, by omega, by go_num, HK4, HFR, HC4, HZ4, HN2, HG4⟩
        case measure => simp [intOf]; omega
    · have e : j = klen := by omega
      subst e
      have HKE : Hid (KS = (ks.take j).map (br d)) := by
        show _ = _
        rw [HKS.out, List.take_of_length_le (by have := HQL.out; omega)]
      have HNE : Hid (NN = n) := by
        have h1 := HN.out
        have h2 := HNN.out
        rw [HQL.out] at h1
        show _ = _
        omega
      obtain ⟨ua, ul, uc, rfl, n9, t9⟩ := kb_set HK.out hk hx
      obtain ⟨d0, d1, d2, d3⟩ := HK.out.bx.c4
      obtain ⟨r0, r1, r2, r3⟩ := (show Bx wr KR #[.int .i64 0, .string ⟨#[]⟩, .string ⟨#[]⟩, .slice none 0 0] 24 from HK.out.rb).c4
      have z0 := HK.out.rb.fz 0
      have z1 := HK.out.rb.fz 1
      have z2 := HK.out.rb.fz 2
      have z3 := HK.out.rb.fz 3
      have hLK : L < KR := by have := HKR.out; omega
      have hwK : w.heap.size ≤ KR := by have := HKR.out; omega
      have HB9 : Hid (Fr L w ((((wr.setCell ⟨KR, 0, none⟩ (.int .i64 k)).setCell ⟨KR, 1, none⟩ (.string (mk x))).setCell ⟨KR, 2, none⟩ (.string ⟨#[]⟩)).setCell ⟨KR, 3, none⟩ (.slice ua ul uc))) := (((HR.out.new hwK hLK 0 _).new hwK hLK 1 _).new hwK hLK 2 _).new hwK hLK 3 _
      have hbl : ((((wr.setCell ⟨KR, 0, none⟩ (.int .i64 k)).setCell ⟨KR, 1, none⟩ (.string (mk x))).setCell ⟨KR, 2, none⟩ (.string ⟨#[]⟩)).setCell ⟨KR, 3, none⟩ (.slice ua ul uc)).heap[L]? = wr.heap[L]? := by
        rw [Below.heap_setCell _ _ _ _ (fun e => by simp only at e; omega), Below.heap_setCell _ _ _ _ (fun e => by simp only at e; omega), Below.heap_setCell _ _ _ _ (fun e => by simp only at e; omega), Below.heap_setCell _ _ _ _ (fun e => by simp only at e; omega)]
      have HC9 : Hid (_ = some (Value.int .i64 (n : Int))) := (World.cell?_of_block (w := wr) (a := ⟨L, 0, none⟩) hbl).trans HC.out
      have HZ9 : Hid (_ = false) := (froz_of_block (i := 0) hbl).trans HZ.out
      have HT9 : Hid (TrP (K2 + 1) _ (d + 1) _ _) := t9
      have HN9 : Hid (Bx _ KR _ _) := n9
      have hne : K2 ≠ KR := by have := HK.out.h1; omega
      have HLE : Hid (w.heap.size ≤ K2 + 1) := by have := HK.out.h1; show _ ≤ _; omega
      clear t9 n9 HK hcf HC HZ hbl HR HND HI
      go_wp2
      generalize (((wr.setCell ⟨KR, 0, none⟩ (.int .i64 k)).setCell ⟨KR, 1, none⟩ (.string (mk x))).setCell ⟨KR, 2, none⟩ (.string ⟨#[]⟩)).setCell ⟨KR, 3, none⟩ (.slice ua ul uc) = W9 at HB9 HT9 HN9 HC9 HZ9 ⊢
      obtain ⟨g0, g1, g2, g3⟩ := HN9.out.c4
      refine bodyPost_ret (v := .agg #[.int .i64 k, .string (mk x), .string ⟨#[]⟩, .slice ua ul uc]) (by simp [results, Tryz.results19, go_sem, g0, g1, g2, g3]) rfl ?_
      refine ⟨k, mk x, ⟨#[]⟩, ua, ul, uc, rfl, ?_, HB9, ?_, HZ9.out⟩
      · rw [HKE.out]
        exact HT9.out.mono HLE.out
      · rw [HNE.out]; exact HC9.out
theorem back_any {W0 : World} {L lo : Nat} {r : Int} {ad : Option Addr} {len cap : Nat} {ns : List Nd} (HG : GrP (L + 1) W0 (gv ad len cap r) ⟨ns, r⟩) (hL : L < W0.heap.size) (hns : ns.length ≤ 1000000) (hok : ∀ n ∈ ns, i64 n.kind ∧ n.text.length ≤ 9223372036854775807) :
    ∀ (d a n : Nat) (t : Tr) (w : World), Fr L W0 w → unf d lo ns a t → tsz d t ≤ n → n ≤ 5000 → w.cell? ⟨L, 0, none⟩ = some (.int .i64 (n : Int)) → w.frozen? ⟨L, 0, none⟩ = false →
      Calls Tryz.prog 19 #[gv ad len cap r, .int .i64 (a : Int), .pointer (some ⟨L, 0, none⟩)] w (BkRes L w d (br d t) (n - tsz d t))
  | 0, a, n, t, w, _, hu, _, _, _, _ => hu.elim
  | d + 1, a, n, t, w, hF, hu, hz, hn, hc, hf => by
    obtain ⟨_, qs, h1, h2, h3⟩ := hu
    obtain ⟨p, rfl⟩ : ∃ p, n = p + 1 := ⟨n - 1, by rw [tsz] at hz; omega⟩
    have hkk := hok _ (List.mem_of_getElem? h1)
    have hsz : szs d t.kids t.kids.length ≤ p := by rw [szs_all]; rw [tsz] at hz; omega
    have hkl : t.kids.length ≤ szs d t.kids t.kids.length := by
      rw [szs_all]
      refine kids_tsz t.kids fun u hu => ?_
      obtain ⟨i, hi, rfl⟩ := List.getElem_of_mem hu
      have := h3 i hi
      cases d with
      | zero => exact this.elim
      | succ d => rw [tsz]; omega
    have := back_core (lo := lo) (ks := t.kids) (p := p) (d := d) hkk.1 hkk.2 HG hF hL hns h1 h2 (by omega) (by omega) (by simpa using hc) hf hsz
      (fun W j n' hj hW h4 h5 h6 h7 => back_any HG hL hns hok d _ n' _ W hW (h3 j hj) h4 h5 h6 h7)
    rw [szs_all, show p - (t.kids.map (tsz d)).sum = p + 1 - tsz (d + 1) t by rw [tsz]; omega] at this
    exact this
end Go.Proofs.YtahmnpfmccipbaaGreatDoor.Grp
