/- Several texts as one: LayTr. -/
import Derived.Test.YtaphijgbebhdlaaGreatDoorV18LaySt
section
/- Package lay's tree: a node's tree, by its contract. -/
namespace Go.Proofs.YtaphijgbebhdlaaGreatDoor.Grp
open Utf Rws Pln Flw
open Go.RowKit
set_option linter.unusedSimpArgs false
set_option linter.unusedVariables false
set_option maxRecDepth 100000
set_option maxHeartbeats 8000000

/-- what tree answers -/
def LRes (w0 W : World) (K CA CC : Nat) (nsl : Value) (len : Nat) (nm : Nat → Ln) (d : Nat) (r : Tr × List Nat × List Nat) (e : Ending) (W' : World) : Prop :=
  ∃ (k : Int) (x y : ByteArray) (ad : Option Addr) (l c : Nat), e = .returned (.agg #[.int .i64 k, .string x, .string y, .slice ad l c]) ∧ Hid (TrP W.heap.size W' d (.agg #[.int .i64 k, .string x, .string y, .slice ad l c]) r.1) ∧ Hid (LyS w0 W' K CA CC nsl len nm r.2.1) ∧ Hid (Ex CC W W')
theorem tree_core {w0 : World} {b off len cap : Nat} {ns : List Nd} {nm : Nat → Ln} (K CA CC : Nat) (hlen : len ≤ 4096) (hnm : ∀ a, (nm a).length ≤ 65536) (HC : Hid (CN w0 b off len ns)) (HP : Hid (∀ n ∈ ns, ∀ a ∈ n.kids, isP len a = true)) (HL : Hid (len = ns.length))
    (d a : Nat) (out : List Nat) (W : World) (HS : Hid (LyS w0 W K CA CC (.slice (some ⟨b, off, none⟩) len cap) len nm out)) (ho : OkO len out) (ha : a < len) (hd : len < d + 1 + out.length)
    (HI : Hid (∀ (c : Nat) (out' : List Nat) (W' : World), OkO len out' → c < len → len < d + out'.length → LyS w0 W' K CA CC (.slice (some ⟨b, off, none⟩) len cap) len nm out' →
      Calls Tryz.prog 30 #[.pointer (some ⟨K, 0, none⟩), .int .i64 (c : Int)] W' (LRes w0 W' K CA CC (.slice (some ⟨b, off, none⟩) len cap) len nm d (lyT ns nm d c out')))) :
    Calls Tryz.prog 30 #[.pointer (some ⟨K, 0, none⟩), .int .i64 (a : Int)] W (LRes w0 W K CA CC (.slice (some ⟨b, off, none⟩) len cap) len nm (d + 1) (lyT ns nm (d + 1) a out)) := by
  have b1 := below_alloc W (.cells zT 29)
  have H1 : Hid (LyS w0 (W.alloc (.cells zT 29)) K CA CC (.slice (some ⟨b, off, none⟩) len cap) len nm out) := HS.out.later b1
  have R1 : Hid (Bx (W.alloc (.cells zT 29)) W.heap.size zT 29) := Bx.new _ _ _
  have X1 : Hid (Ex CC W (W.alloc (.cells zT 29))) := Ex.of b1
  have hKW : K < W.heap.size ∧ CA < W.heap.size ∧ CC < W.heap.size ∧ w0.heap.size ≤ W.heap.size := ⟨HS.out.s.lt, HS.out.a.lt, HS.out.c.lt, HS.out.bl.size⟩
  have hs1 : (W.alloc (.cells zT 29)).heap.size = W.heap.size + 1 := World.size_alloc _ _
  obtain ⟨Wa, hWa⟩ : ∃ Wa, Wa = W.alloc (.cells zT 29) := ⟨_, rfl⟩
  have HWa : Hid (W.alloc (.cells #[.int .i64 0, .string ⟨#[]⟩, .string ⟨#[]⟩, .slice none 0 0] 29) = Wa) := hWa.symm
  rw [← hWa] at H1 R1 X1 hs1
  obtain ⟨KR, hKR⟩ : ∃ KR, KR = W.heap.size := ⟨_, rfl⟩
  have HKR : Hid (W.heap.size = KR) := hKR.symm
  have ha0 : (0 : Int) ≤ (a : Int) := by omega
  have ha1 : (a : Int) < (len : Int) := by omega
  have r1 := R1.out
  rw [← hKR] at R1 r1 hs1 hKW
  clear b1 hWa hKR
  obtain ⟨c0, c1, c2⟩ := H1.out.s.c3
  have x0 := (H1.out.c.cell a).trans (bM_get out ha)
  have x1 := (H1.out.a.cell a).trans (sA_get nm ha)
  by_cases hin : a ∈ out
  · rw [decide_eq_true hin] at x0
    rw [ly_old hin]
    obtain ⟨r0, r1, r2, r3⟩ := (show Bx Wa KR #[.int .i64 0, .string ⟨#[]⟩, .string ⟨#[]⟩, .slice none 0 0] 29 from R1.out).c4
    have z0 := R1.out.fz 0
    have z1 := R1.out.fz 1
    have z2 := R1.out.fz 2
    have z3 := R1.out.fz 3
    clear HC HP HI hin ho
    go_enter Tryz.func30, Tryz.ntmps30
    go_upto_region 1 with fail
    rw [HWa.out, HKR.out]
    go_wp2_with fail
    have H9 : Hid (LyS w0 ((((Wa.setCell ⟨KR, 0, none⟩ (.int .i64 7)).setCell ⟨KR, 1, none⟩ (.string ⟨#[]⟩)).setCell ⟨KR, 2, none⟩ (.string (mk (nm a)))).setCell ⟨KR, 3, none⟩ (.slice none 0 0)) K CA CC (.slice (some ⟨b, off, none⟩) len cap) len nm out) := by
      obtain ⟨k1, k2, k3, k4⟩ := hKW
      exact (((H1.out.new k4 (by omega) (by omega) (by omega) 0 _).new k4 (by omega) (by omega) (by omega) 1 _).new k4 (by omega) (by omega) (by omega) 2 _).new k4 (by omega) (by omega) (by omega) 3 _
    have X9 : Hid (Ex CC W ((((Wa.setCell ⟨KR, 0, none⟩ (.int .i64 7)).setCell ⟨KR, 1, none⟩ (.string ⟨#[]⟩)).setCell ⟨KR, 2, none⟩ (.string (mk (nm a)))).setCell ⟨KR, 3, none⟩ (.slice none 0 0))) := by
      have k5 : W.heap.size ≤ KR := by rw [HKR.out]; exact Nat.le_refl _
      exact (((X1.out.new k5 0 _).new k5 1 _).new k5 2 _).new k5 3 _
    have B9 : Hid (Bx ((((Wa.setCell ⟨KR, 0, none⟩ (.int .i64 7)).setCell ⟨KR, 1, none⟩ (.string ⟨#[]⟩)).setCell ⟨KR, 2, none⟩ (.string (mk (nm a)))).setCell ⟨KR, 3, none⟩ (.slice none 0 0)) KR #[.int .i64 7, .string ⟨#[]⟩, .string (mk (nm a)), .slice none 0 0] 29) := (((R1.out.set 0 _).set 1 _).set 2 _).set 3 _
    generalize (((Wa.setCell ⟨KR, 0, none⟩ (.int .i64 7)).setCell ⟨KR, 1, none⟩ (.string ⟨#[]⟩)).setCell ⟨KR, 2, none⟩ (.string (mk (nm a)))).setCell ⟨KR, 3, none⟩ (.slice none 0 0) = W9 at H9 X9 B9 ⊢
    obtain ⟨g0, g1, g2, g3⟩ := B9.out.c4
    refine bodyPost_ret (v := .agg #[.int .i64 7, .string ⟨#[]⟩, .string (mk (nm a)), .slice none 0 0]) (by simp [results, Tryz.results30, go_sem, g0, g1, g2, g3]) rfl ?_
    exact ⟨7, ⟨#[]⟩, mk (nm a), none, 0, 0, rfl, ⟨none, 0, 0, rfl, rfl, Nat.le_refl _, Nat.zero_le _, ⟨(by decide : (-9223372036854775808 : Int) ≤ 7), (by decide : (7 : Int) ≤ 9223372036854775807), by simp, by have := hnm a; show (nm a).length ≤ _; omega⟩, fun h => absurd h (by omega)⟩, H9, X9⟩
  · rw [decide_eq_false hin] at x0
    rw [ly_new hin]
    obtain ⟨pad, plen, pcap, hpl, hpb, hki, hxl, hkc, hnc⟩ := HC.out a ha
    have hal : a < ns.length := by have := HL.out; omega
    have HKA : Hid (∀ k, k < plen → ∃ p : Nat, (ns.getD a nd0).kids.getD k 0 = (p : Int) ∧ p < len ∧ (kd ns a).take (k + 1) = (kd ns a).take k ++ [p]) := fun k hk => kd_at (by omega) (HP.out _ (mem_getD hal))
    have HKL : Hid (plen = (kd ns a).length) := by show _ = _; unfold kd; rw [List.length_map]; exact hpl
    have HKT : Hid (∀ c ∈ kd ns a, c < len) := kd_lt HP.out HL.out a ha
    have HDK : Hid (∀ a, a < len → ∀ c ∈ kd ns a, c < len) := kd_lt HP.out HL.out
    have HS1 : Hid (LyS w0 (Wa.setCell ⟨CC, a, none⟩ (.bool true)) K CA CC (.slice (some ⟨b, off, none⟩) len cap) len nm (out ++ [a])) := H1.out.came a
    have X2 : Hid (Ex CC W (Wa.setCell ⟨CC, a, none⟩ (.bool true))) := X1.out.set a _
    have R2 : Hid (Bx (Wa.setCell ⟨CC, a, none⟩ (.bool true)) KR zT 29) := R1.out.other (by omega) _ _
    have z0 := H1.out.c.fz a
    have ho1 : OkO len (out ++ [a]) := ho.snoc ha hin
    have hd1 : len < d + (out ++ [a]).length := by rw [List.length_append, List.length_singleton]; omega
    have HKC : Hid (∀ W, Below w0.heap.size w0 W → ∀ i, i < plen → ∃ kb koff, pad = some ⟨kb, koff, none⟩ ∧ W.cell? ⟨kb, koff + i, none⟩ = some (.int .i64 ((ns.getD a nd0).kids.getD i 0))) := fun W hW i hi => by
      obtain ⟨kb, koff, e1, h⟩ := hkc (by omega)
      exact ⟨kb, koff, e1, h W hW i hi⟩
    obtain ⟨y0, y1, y2⟩ := hnc _ HS1.out.bl
    obtain ⟨S0, HS0⟩ : ∃ S0, Hid (S0 = out ++ [a]) := ⟨_, rfl⟩
    rw [← HS0.out] at HS1 ho1 hd1 ⊢
    have HOK : Hid (OkO len S0 ∧ len < d + S0.length) := ⟨ho1, hd1⟩
    obtain ⟨RR, HRR⟩ : ∃ RR, Hid (RR = lyK (lyT ns nm d) (kd ns a) S0) := ⟨_, rfl⟩
    rw [← HRR.out]
    generalize (ns.getD a nd0).kind = kk at y0 hki hnc ⊢
    generalize (ns.getD a nd0).text = kx at y1 hxl hnc ⊢
    generalize (ns.getD a nd0).kids = ll at HKA HKC hpl hkc
    generalize kd ns a = L at HKA HKL HKT HRR
    obtain ⟨an, han⟩ : ∃ an, an = nm a := ⟨_, rfl⟩
    have hal2 : an.length ≤ 9223372036854775807 := by rw [han]; have := hnm a; omega
    have HX1 : Hid (∀ W, LyS w0 W K CA CC (.slice (some ⟨b, off, none⟩) len cap) len nm S0 → W.cell? ⟨CA, a, none⟩ = some (.string (mk an))) := fun W h => by rw [han]; exact (h.a.cell a).trans (sA_get nm ha)
    rw [← han] at x1 ⊢
    have hKK : W.heap.size = KR := HKR.out
    clear han hnc hkc HC hpl HS0 ho1 hd1 ho hin HP H1 X1 R1 r1
    obtain ⟨it, hi, hz0, hz1, hz2⟩ := info_parts infoTree
    have hcf : ∀ (vs : Array Value) (w : World), (callFunc 30 vs).run Tryz.prog w = .ok (.enter 30 vs) w := enters_of Tryz.func30 (by kernel_rfl) rfl
    go_enter Tryz.func30, Tryz.ntmps30
    go_upto_region 1 with fail
    rw [HWa.out]
    try rw [HKR.out]
    go_upto_region 4 with fail
    generalize Wa.setCell ⟨CC, a, none⟩ (.bool true) = W1 at HS1 X2 R2 y0 y1 y2 ⊢
    clear c0 c1 c2 x0 x1 z0
    obtain ⟨c0, c1, c2⟩ := HS1.out.s.c3
    go_upto_region 5 with fail
    have HS3 : Hid (LyS w0 (W1.alloc (.cells #[.int .i64 kk, .string (mk kx), .slice pad plen pcap] 47)) K CA CC (.slice (some ⟨b, off, none⟩) len cap) len nm S0) := HS1.out.later (below_alloc _ _)
    have X3 : Hid (Ex CC W (W1.alloc (.cells #[.int .i64 kk, .string (mk kx), .slice pad plen pcap] 47))) := X2.out.trans (Ex.of (below_alloc _ _))
    have R3 : Hid (Bx (W1.alloc (.cells #[.int .i64 kk, .string (mk kx), .slice pad plen pcap] 47)) KR zT 29) := R2.out.later (below_alloc _ _)
    have N3 : Hid (Bx (W1.alloc (.cells #[.int .i64 kk, .string (mk kx), .slice pad plen pcap] 47)) W1.heap.size #[.int .i64 kk, .string (mk kx), .slice pad plen pcap] 47) := Bx.new _ _ _
    have hK3 : KR < W1.heap.size := R2.out.lt
    generalize W1.alloc (.cells #[.int .i64 kk, .string (mk kx), .slice pad plen pcap] 47) = W2 at HS3 X3 R3 N3 ⊢
    generalize W1.heap.size = K3 at N3 hK3 ⊢
    clear HS1 X2 R2 y0 y1 y2 c0 c1 c2
    obtain ⟨c0, c1, c2⟩ := HS3.out.s.c3
    obtain ⟨d0, d1, d2⟩ := N3.out.c3
    have x1 := HX1.out _ HS3.out
    have hK2 : K3 < W2.heap.size := N3.out.lt
    have hK4 : K < W2.heap.size ∧ CA < W2.heap.size ∧ CC < W2.heap.size := ⟨HS3.out.s.lt, HS3.out.a.lt, HS3.out.c.lt⟩
    obtain ⟨hK5, hK6, hK7⟩ := hK4
    go_wp2_with fail
    go_region
    have HS4 : Hid (LyS w0 (W2.alloc (.cells #[.int .i64 kk, .string (mk kx), .string (mk an), .slice none 0 0] 29)).drew K CA CC (.slice (some ⟨b, off, none⟩) len cap) len nm S0) := HS3.out.later (below_alloc _ _).drew
    have X4 : Hid (Ex CC W (W2.alloc (.cells #[.int .i64 kk, .string (mk kx), .string (mk an), .slice none 0 0] 29)).drew) := X3.out.trans (Ex.of (below_alloc _ _).drew)
    have N4 : Hid (Bx (W2.alloc (.cells #[.int .i64 kk, .string (mk kx), .string (mk an), .slice none 0 0] 29)).drew K3 #[.int .i64 kk, .string (mk kx), .slice pad plen pcap] 47) := N3.out.later (below_alloc _ _).drew
    have HK4 : Hid (Kt (W2.alloc (.cells #[.int .i64 kk, .string (mk kx), .string (mk an), .slice none 0 0] 29)).drew KR W2.heap.size d kk kx an (.slice none 0 0) 0 [] []) := by
      refine ⟨R3.out.later (below_alloc _ _).drew, ?_, World.ownsRow_nil _ _ _ _, KdQ.nil _, rfl, by omega⟩
      exact Bx.new W2 _ _
    have HKN : Hid (K < KR ∧ CA < KR ∧ CC < KR ∧ w0.heap.size ≤ KR) := hKW
    generalize (W2.alloc (.cells #[.int .i64 kk, .string (mk kx), .string (mk an), .slice none 0 0] 29)).drew = W3 at HS4 X4 N4 HK4 ⊢
    generalize W2.heap.size = K2 at HK4 hK2 hK5 hK6 hK7 ⊢
    clear HS3 X3 R3 N3 c0 c1 c2 d0 d1 d2 x1 hK5 hK6 hK7 hs1 hKW
    obtain ⟨d0, d1, d2⟩ := N4.out.c3
    go_wp2_with fail
    clear d0 d1 d2 N4
    go_loopw [52] (fun i wr => ∃ (j : Nat) (u : Value) (xs : List Value) (ts : List Tr) (o : List Nat), j ≤ plen ∧ i = .int .i64 j ∧ Hid (Kt wr KR K2 d kk kx an u j xs ts) ∧ Hid (LyS w0 wr K CA CC (.slice (some ⟨b, off, none⟩) len cap) len nm o) ∧ Hid (Ex CC W wr) ∧ Hid (ts = (lyK (lyT ns nm d) (L.take j) S0).1 ∧ o = (lyK (lyT ns nm d) (L.take j) S0).2.1)) (fun i _ => plen - (intOf i).toNat)
    case atStart => exact ⟨0, _, [], [], S0, Nat.zero_le _, rfl, HK4, HS4, X4, ⟨rfl, rfl⟩⟩
    case round =>
      obtain ⟨j, u, xs, ts, o, hj, rfl, HK, HSS, HX, HE⟩ := hrel
      clear HK4 HS4 X4
      by_cases hlt : j < plen
      · obtain ⟨kb, koff, rfl, x0⟩ := HKC.out wr HSS.out.bl j hlt
        obtain ⟨p, hp, hpl, htk⟩ := HKA.out j hlt
        rw [hp] at x0
        have ok : OkO len o ∧ len < d + o.length := by
          obtain ⟨nw, R⟩ := ly_k (ly_t (nm := nm) HDK.out d) (L.take j) S0 HOK.out.1 (fun c hc => HKT.out c (List.mem_of_mem_take hc)) HOK.out.2
          rw [HE.out.2]
          exact ⟨R.ok, by rw [R.e, List.length_append]; have := HOK.out.2; omega⟩
        have HE2 : Hid (ts ++ [(lyT ns nm d p o).1] = (lyK (lyT ns nm d) (L.take (j + 1)) S0).1 ∧ (lyT ns nm d p o).2.1 = (lyK (lyT ns nm d) (L.take (j + 1)) S0).2.1) := by
          show _ ∧ _
          obtain ⟨q1, q2⟩ := lyK_snoc (f := lyT ns nm d) p (L.take j) S0
          rw [htk, q1, q2, ← HE.out.1, ← HE.out.2]
          exact ⟨rfl, rfl⟩
        have HC0 : ∀ W', LyS w0 W' K CA CC (.slice (some ⟨b, off, none⟩) len cap) len nm o → Calls Tryz.prog 30 #[.pointer (some ⟨K, 0, none⟩), .int .i64 (p : Int)] W' (LRes w0 W' K CA CC (.slice (some ⟨b, off, none⟩) len cap) len nm d (lyT ns nm d p o)) := fun W' h => HI.out p o W' ok.1 hpl ok.2 h
        generalize lyT ns nm d p o = r at HC0 HE2
        have hk0 : (0 : Int) ≤ (j : Int) := by omega
        have hk1 : (j : Int) < (plen : Int) := by omega
        clear hp htk ok HE
        go_upto_region 9 with fail
        have e3 : wr.cell? ⟨K2, 3, none⟩ = some u := HK.out.bx.c4.2.2.2
        have HC : Hid (Calls Tryz.prog 30 #[.pointer (some ⟨K, 0, none⟩), .int .i64 (p : Int)] wr.drew (LRes w0 wr.drew K CA CC (.slice (some ⟨b, off, none⟩) len cap) len nm d r)) := HC0 _ (HSS.out.later (Below.refl _ wr).drew)
        have HKD : Hid (Kt wr.drew KR K2 d kk kx an u j xs ts) := kt_later HK.out (Below.refl _ wr).drew
        have HOB : Hid (∀ q, u.ownBlock = some q → q < wr.heap.size) := fun q hq => (own_blk HK.out.own hq).2
        have HKW : Hid (K2 + 1 ≤ wr.heap.size) := HK.out.bx.lt
        clear HC0 HI x0
        go_region_law (first
          | (refine step_call rfl 30 _ _ rfl #[.pointer (some ⟨K, 0, none⟩), .int .i64 (p : Int)] (hcf _ _) (by simp [Act.eval, Act.put]) HC.out ?_; rintro e w2 ⟨rk, rx, ry, rad, rlen, rcap, rfl, HT2, HL2, HX2⟩; refine ⟨_, rfl, ?_⟩; have HK2 : Hid (Kt w2 KR K2 d kk kx an u j xs ts) := kt_ex HKD.out HX2.out HKN.out.2.2.1; have q1 : w2.cell? ⟨K2, 3, none⟩ = some u := HK2.out.bx.c4.2.2.2; have hs2 : wr.heap.size ≤ w2.heap.size := HX2.out.size; have hk2 : K2 < w2.heap.size := HK2.out.bx.lt)
          | (refine step_append_at rfl (.tmp 57) (.tmp 61) 27 rfl (K2 + 1) 29 it (.agg zT) 4 64 Tryz.underlying27 hi hz0 hz1 hz2 rfl (by decide) u j xs (by simp [Act.eval, Act.put]) (HK2.out.own.alloc _) ⟨w2.heap.size, 0, none⟩ 1 1 [.int .i64 rk, .string rx, .string ry, .slice rad rlen rcap] (by simp [Act.eval, Act.put]) rfl (cell_four _ _ _ _ _ _) (one_four _ _ _ _ _ _) (by unfold maxLen; omega) (by omega) (by rw [World.size_alloc]; have := HKW.out; omega) ?_; intro v' w3 hown' hgrow hat; obtain ⟨va, vc, rfl⟩ := own_shapeT hown'; have hb3 : Bx w3 K2 #[.int .i64 kk, .string (mk kx), .string (mk an), u] 29 := (hgrow.block K2 (by rw [World.size_alloc]; omega) (fun e => by have := own_blk HK2.out.own e.symm; omega)).trans (HK2.out.bx.later (below_alloc w2 _)); have c3 : w3.cell? ⟨K2, 3, none⟩ = some u := hb3.c4.2.2.2; have f3 := hb3.fz 3))
        all_goals
          have HKE : Hid (KR < K2) := HK2.out.h1
          have HOQ : Hid (∀ q, u.ownBlock = some q → K2 + 1 ≤ q) := fun q hq => (own_blk HK2.out.own hq).1
          have HK5 : Hid (Kt (w3.setCell ⟨K2, 3, none⟩ (.slice va (j + 1) vc)) KR K2 d kk kx an (.slice va (j + 1) vc) (j + 1) (xs ++ [.int .i64 rk, .string rx, .string ry, .slice rad rlen rcap]) (ts ++ [r.1])) := kt_more (kt_later HK2.out (below_alloc w2 _)) hown' hgrow hat (kdt_one (HT2.out.later (below_alloc w2 _)) HKW.out HOB.out)
          have HL5 : Hid (LyS w0 (w3.setCell ⟨K2, 3, none⟩ (.slice va (j + 1) vc)) K CA CC (.slice (some ⟨b, off, none⟩) len cap) len nm r.2.1) := (by
            obtain ⟨k1, k2, k3, k4⟩ := HKN.out
            have k5 := HKE.out
            exact ((HL2.out.later (below_alloc w2 _)).grown hgrow (fun q hq => by have := HOQ.out q hq; omega)).new (k := K2) (by omega) (by omega) (by omega) (by omega) 3 _)
          have HX5 : Hid (Ex CC W (w3.setCell ⟨K2, 3, none⟩ (.slice va (j + 1) vc))) := (by
            have k5 := HKE.out
            exact ((((HX.out.trans (Ex.of (Below.refl _ wr).drew)).trans HX2.out).trans (Ex.of (below_alloc w2 _))).grown hgrow (fun q hq => by have := HOQ.out q hq; omega)).new (k := K2) (by omega) 3 _)
          clear hown' hgrow hat hb3 c3 f3 q1 hs2 hk2 HK2 HT2 HL2 HX2 HC HKD HOB HKE HOQ
          go_wp2
          go_roundw
          case rel => exact ⟨j + 1, _, _, _, _, by omega, by go_num, HK5, HL5, HX5, HE2⟩
          case measure => (simp [intOf] <;> omega)
      · have e : j = plen := by omega
        have HTE : Hid (ts = RR.1 ∧ o = RR.2.1) := by
          have h1 := HE.out
          rw [e, List.take_of_length_le (by rw [HKL.out]; exact Nat.le_refl _), ← HRR.out] at h1
          exact h1
        clear e HE
        obtain ⟨ua, ul, uc, rfl, n9, t9⟩ := kt_set HK.out hki hxl hal2
        obtain ⟨d0, d1, d2, d3⟩ := HK.out.bx.c4
        obtain ⟨r0, r1, r2, r3⟩ := (show Bx wr KR #[.int .i64 0, .string ⟨#[]⟩, .string ⟨#[]⟩, .slice none 0 0] 29 from HK.out.rb).c4
        have z0 := HK.out.rb.fz 0
        have z1 := HK.out.rb.fz 1
        have z2 := HK.out.rb.fz 2
        have z3 := HK.out.rb.fz 3
        obtain ⟨k1, k2, k3, k4⟩ := HKN.out
        have hwk : W.heap.size ≤ KR := by omega
        have HL9 : Hid (LyS w0 ((((wr.setCell ⟨KR, 0, none⟩ (.int .i64 kk)).setCell ⟨KR, 1, none⟩ (.string (mk kx))).setCell ⟨KR, 2, none⟩ (.string (mk an))).setCell ⟨KR, 3, none⟩ (.slice ua ul uc)) K CA CC (.slice (some ⟨b, off, none⟩) len cap) len nm o) :=
          (((HSS.out.new k4 (by omega) (by omega) (by omega) 0 _).new k4 (by omega) (by omega) (by omega) 1 _).new k4 (by omega) (by omega) (by omega) 2 _).new k4 (by omega) (by omega) (by omega) 3 _
        have HX9 : Hid (Ex CC W ((((wr.setCell ⟨KR, 0, none⟩ (.int .i64 kk)).setCell ⟨KR, 1, none⟩ (.string (mk kx))).setCell ⟨KR, 2, none⟩ (.string (mk an))).setCell ⟨KR, 3, none⟩ (.slice ua ul uc))) :=
          (((HX.out.new hwk 0 _).new hwk 1 _).new hwk 2 _).new hwk 3 _
        have HT9 : Hid (TrP (K2 + 1) _ (d + 1) _ _) := t9
        have HN9 : Hid (Bx _ KR _ _) := n9
        have hne : K2 ≠ KR := by have := HK.out.h1; omega
        have HLE : Hid (W.heap.size ≤ K2 + 1) := by have := HK.out.h1; show _ ≤ _; omega
        clear t9 n9 HK HSS HX hcf k1 k2 k3 k4 hwk
        go_wp2
        generalize (((wr.setCell ⟨KR, 0, none⟩ (.int .i64 kk)).setCell ⟨KR, 1, none⟩ (.string (mk kx))).setCell ⟨KR, 2, none⟩ (.string (mk an))).setCell ⟨KR, 3, none⟩ (.slice ua ul uc) = W9 at HL9 HX9 HT9 HN9 ⊢
        obtain ⟨g0, g1, g2, g3⟩ := HN9.out.c4
        refine bodyPost_ret (v := .agg #[.int .i64 kk, .string (mk kx), .string (mk an), .slice ua ul uc]) (by simp [results, Tryz.results30, go_sem, g0, g1, g2, g3]) rfl ?_
        refine ⟨kk, mk kx, mk an, ua, ul, uc, rfl, ?_, ?_, HX9⟩
        · rw [← HTE.out.1]
          exact HT9.out.mono HLE.out
        · rw [← HTE.out.2]
          exact HL9
theorem ltree_any {w0 : World} {b off len cap : Nat} {ns : List Nd} {nm : Nat → Ln} (K CA CC : Nat) (hlen : len ≤ 4096) (hnm : ∀ a, (nm a).length ≤ 65536) (HC : CN w0 b off len ns) (HP : ∀ n ∈ ns, ∀ a ∈ n.kids, isP len a = true) (HL : len = ns.length) :
    ∀ (d a : Nat) (out : List Nat) (W : World), OkO len out → a < len → len < d + out.length → LyS w0 W K CA CC (.slice (some ⟨b, off, none⟩) len cap) len nm out →
      Calls Tryz.prog 30 #[.pointer (some ⟨K, 0, none⟩), .int .i64 (a : Int)] W (LRes w0 W K CA CC (.slice (some ⟨b, off, none⟩) len cap) len nm d (lyT ns nm d a out))
  | 0, a, out, W, ho, _, hd, _ => absurd ho.le (by omega)
  | d + 1, a, out, W, ho, ha, hd, hS => tree_core K CA CC hlen hnm HC HP HL d a out W hS ho ha hd (fun c out' W' h1 h2 h3 h4 => ltree_any K CA CC hlen hnm HC HP HL d c out' W' h1 h2 h3 h4)
end Go.Proofs.YtaphijgbebhdlaaGreatDoor.Grp
end
