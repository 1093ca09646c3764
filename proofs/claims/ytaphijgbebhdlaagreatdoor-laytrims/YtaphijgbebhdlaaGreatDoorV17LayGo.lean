/- Several texts as one: LayGo, LayDp. -/
import Derived.Test.YtaphijgbebhdlaaGreatDoorV16GraphTop2I
import Derived.Test.YtaphijgbebhdlaaGreatDoorV14GraphGo
section
/- Going down a graph: package lay's isList, goTo and deepest, by their contracts. -/
namespace Go.Proofs.YtaphijgbebhdlaaGreatDoor.Grp
open Utf Rws Pln Flw
open Go.RowKit
set_option linter.unusedSimpArgs false
set_option linter.unusedVariables false
set_option maxRecDepth 100000
set_option maxHeartbeats 4000000

def lsB (k : Int) : Bool := decide (k = 5) || decide (k = 6)
theorem lsB_N (ns : List Nd) (a : Nat) : lsN ns a = if lsB (ns.getD a nd0).kind = true then 1 else 0 := by
  unfold lsN lsB
  simp only [Bool.or_eq_true, decide_eq_true_iff]
theorem isListN_any {w : World} {k : Int} {x : Ln} {ad : Option Addr} {len cap : Nat} : Calls Tryz.prog 43 #[nv k x ad len cap] w fun e w' => e = .returned (.bool (lsB k)) ∧ Below w.heap.size w w' := by
  have b0 := below_alloc w (.cells #[.int .i64 k, .string (mk x), .slice ad len cap] 47)
  have n0 := Bx.new w #[.int .i64 k, .string (mk x), .slice ad len cap] 47
  by_cases h5 : k = 5
  · have HV : Hid (lsB k = true) := by unfold lsB; rw [decide_eq_true h5]; exact rfl
    subst h5
    go_enter Tryz.func43, Tryz.ntmps43
    go_wp2
    go_ret
    exact ⟨by rw [HV.out]; first | done | rfl, b0⟩
  · by_cases h6 : k = 6
    · have HV : Hid (lsB k = true) := by show lsB k = true; unfold lsB; rw [decide_eq_true h6, Bool.or_true]
      subst h6
      go_enter Tryz.func43, Tryz.ntmps43
      go_wp2
      go_ret
      exact ⟨by rw [HV.out]; rfl, b0⟩
    · have HV : Hid (lsB k = false) := by unfold lsB; rw [decide_eq_false h5, decide_eq_false h6]; exact rfl
      have e5 : (k == 5) = false := by simpa using h5
      have e6 : (k == 6) = false := by simpa using h6
      go_enter Tryz.func43, Tryz.ntmps43
      go_wp2
      go_ret
      exact ⟨by rw [HV.out]; first | rfl | simp [e5, e6], b0⟩
/-- marks -/
def bM (out : List Nat) (n : Nat) : Array Value := ((List.range n).map fun i => Value.bool (decide (i ∈ out))).toArray
theorem bM_get (out : List Nat) {n i : Nat} (h : i < n) : (bM out n)[i]? = some (.bool (decide (i ∈ out))) := by simp [bM, h]
theorem bM_set (out : List Nat) (n a : Nat) : (bM out n).setIfInBounds a (.bool true) = bM (out ++ [a]) n := by
  apply Array.ext_getElem?
  intro k
  rw [Array.getElem?_setIfInBounds]
  by_cases hk : k < n
  · rw [bM_get _ hk, bM_get _ hk]
    by_cases e : a = k
    · subst e
      rw [if_pos rfl]
      simp [bM, hk]
    · rw [if_neg e]
      simp [Ne.symm e]
  · have e1 : (bM out n)[k]? = none := by simp [bM]; omega
    have e2 : (bM (out ++ [a]) n)[k]? = none := by simp [bM]; omega
    rw [e1, e2]
    split
    · simp [bM]; omega
    · rfl
theorem bM_made (n : Nat) : madeCells #[Value.bool false] n = bM [] n := by
  apply Array.ext_getElem?
  intro k
  by_cases hk : k < n
  · rw [bM_get _ hk]
    simp [madeCells, hk, Nat.mod_one]
  · have e2 : (bM [] n)[k]? = none := by simp [bM]; omega
    rw [e2]
    simp [madeCells]; omega
/-- the nodes' cells, in all later worlds -/
def CN (w : World) (b off len : Nat) (ns : List Nd) : Prop := ∀ p, p < len → ∃ pad plen pcap, plen = (ns.getD p nd0).kids.length ∧ plen ≤ 1000000000 ∧ i64 (ns.getD p nd0).kind ∧ (ns.getD p nd0).text.length ≤ 9223372036854775807 ∧
  (0 < plen → ∃ kb koff, pad = some ⟨kb, koff, none⟩ ∧ ∀ W, Below w.heap.size w W → ∀ i, i < plen → W.cell? ⟨kb, koff + i, none⟩ = some (.int .i64 ((ns.getD p nd0).kids.getD i 0))) ∧
  ∀ W, Below w.heap.size w W → W.cell? ⟨b, off + p * 3, none⟩ = some (.int .i64 (ns.getD p nd0).kind) ∧ W.cell? ⟨b, off + p * 3 + 1, none⟩ = some (.string (mk (ns.getD p nd0).text)) ∧ W.cell? ⟨b, off + p * 3 + 2, none⟩ = some (.slice pad plen pcap)
theorem cn_of {w : World} {ad : Option Addr} {len : Nat} {ns : List Nd} (hN : NAt w ad len ns) (hp : 0 < len) (hsum : sumK ns ≤ 1000000000) : ∃ b off, ad = some ⟨b, off, none⟩ ∧ CN w b off len ns := by
  obtain ⟨b, off, rfl, hb, hc⟩ := hN.2 hp
  refine ⟨b, off, rfl, fun p hp => ?_⟩
  obtain ⟨pad, plen, pcap, q1, q2, q3, q4, q5, z0, z1, z2⟩ := hc p hp
  have hmm := mem_getD (by rw [← hN.1]; exact hp : p < ns.length)
  have := kids_sum hmm
  refine ⟨pad, plen, pcap, q5.1, by have := q5.1; omega, q3, q4, fun hpp => ?_, fun W h => ⟨(h.cell (p := ⟨b, off + p * 3, none⟩) hb).trans z0, (h.cell (p := ⟨b, off + p * 3 + 1, none⟩) hb).trans z1, (h.cell (p := ⟨b, off + p * 3 + 2, none⟩) hb).trans z2⟩⟩
  obtain ⟨kb, koff, e, hkb, hkc⟩ := q5.2 hpp
  exact ⟨kb, koff, e, fun W h i hi => (h.cell (p := ⟨kb, koff + i, none⟩) hkb).trans (hkc i hi).2⟩
theorem kd_at {N : Nat} {ns : List Nd} {a k : Nat} (h : k < (ns.getD a nd0).kids.length) (hP : ∀ c ∈ (ns.getD a nd0).kids, isP N c = true) : ∃ p : Nat, (ns.getD a nd0).kids.getD k 0 = (p : Int) ∧ p < N ∧ (kd ns a).take (k + 1) = (kd ns a).take k ++ [p] := by
  obtain ⟨p, hp, hpl⟩ := isP_nat (hP _ (mem_getI h))
  refine ⟨p, hp, hpl, ?_⟩
  have h1 : (kd ns a)[k]? = some p := by
    unfold kd
    rw [List.getElem?_map, List.getElem?_eq_getElem h]
    have : (ns.getD a nd0).kids[k] = (p : Int) := by
      rw [← hp, List.getD_eq_getElem?_getD (l := (ns.getD a nd0).kids), List.getElem?_eq_getElem h]; rfl
    rw [this]
    rfl
  rw [List.take_add_one, h1]
  rfl
theorem dgK_snoc (f : Nat → List Nat × Nat → List Nat × Nat) (b : Nat) : ∀ (l : List Nat) (s : List Nat × Nat), dgK f (l ++ [b]) s = f b (dgK f l s)
  | [], s => rfl
  | c :: l, s => dgK_snoc f b l (f c s)
theorem dgK_ok {ns : List Nd} {N d e : Nat} (hk : ∀ a, a < N → ∀ b ∈ kd ns a, b < N) {l : List Nat} {s : List Nat × Nat} (ho : OkO N s.1) (hl : ∀ b ∈ l, b < N) (hd : N < d + s.1.length) : OkO N (dgK (fun b => dg ns d b e) l s).1 ∧ s.1.length ≤ (dgK (fun b => dg ns d b e) l s).1.length := by
  rw [dgK_out (g := lyT ns (fun _ => []) d) (fun b s => dg_out _ d b e s)]
  obtain ⟨nw, R⟩ := ly_k (ly_t (nm := fun _ => []) hk d) l s.1 ho hl hd
  exact ⟨R.ok, by rw [R.e, List.length_append]; omega⟩
/-- a descent in memory -/
structure DcS (w0 W : World) (K C : Nat) (nsl : Value) (len : Nat) (out : List Nat) (m : Nat) : Prop where
  s : Bx W K #[nsl, .slice (some ⟨C, 0, none⟩) len len, .int .i64 (m : Int)] 72
  c : Bx W C (bM out len) 4
  bl : Below w0.heap.size w0 W
  hk : w0.heap.size ≤ K
  hc : w0.heap.size ≤ C
  ck : C < K
theorem DcS.later {w0 W W' : World} {K C len m : Nat} {nsl : Value} {out : List Nat} (h : DcS w0 W K C nsl len out m) (hb : Below W.heap.size W W') : DcS w0 W' K C nsl len out m :=
  ⟨h.s.later hb, h.c.later hb, h.bl.trans (hb.mono h.bl.size), h.hk, h.hc, h.ck⟩
theorem DcS.came {w0 W : World} {K C len m : Nat} {nsl : Value} {out : List Nat} (h : DcS w0 W K C nsl len out m) (a : Nat) : DcS w0 (W.setCell ⟨C, a, none⟩ (.bool true)) K C nsl len (out ++ [a]) m := by
  refine ⟨h.s.other (by have := h.ck; omega) _ _, ?_, h.bl.setCell (p := ⟨C, a, none⟩) h.hc _, h.hk, h.hc, h.ck⟩
  have := h.c.set a (.bool true)
  rw [bM_set] at this
  exact this
theorem DcS.deep {w0 W : World} {K C len m : Nat} {nsl : Value} {out : List Nat} (h : DcS w0 W K C nsl len out m) (e : Nat) : DcS w0 (W.setCell ⟨K, 2, none⟩ (.int .i64 (e : Int))) K C nsl len out e :=
  ⟨h.s.set 2 _, h.c.other (by have := h.ck; omega) _ _, h.bl.setCell (p := ⟨K, 2, none⟩) h.hk _, h.hk, h.hc, h.ck⟩
theorem down_core {w0 : World} {b off len cap : Nat} {ns : List Nd} (K C : Nat) (hlen : len ≤ 4096) (HC : Hid (CN w0 b off len ns)) (HP : Hid (∀ n ∈ ns, ∀ a ∈ n.kids, isP len a = true)) (HL : Hid (len = ns.length))
    (d a e m : Nat) (out : List Nat) (W : World) (HS : Hid (DcS w0 W K C (.slice (some ⟨b, off, none⟩) len cap) len out m)) (ho : OkO len out) (ha : a < len) (hd : len < d + 1 + out.length) (he : e + (d + 1) ≤ 10000) (hm : m ≤ 10000)
    (HI : Hid (∀ (c e' m' : Nat) (out' : List Nat) (W' : World), OkO len out' → c < len → len < d + out'.length → e' + d ≤ 10000 → m' ≤ 10000 → DcS w0 W' K C (.slice (some ⟨b, off, none⟩) len cap) len out' m' →
      Calls Tryz.prog 27 #[.pointer (some ⟨K, 0, none⟩), .int .i64 (c : Int), .int .i64 (e' : Int)] W' fun r W'' => (∃ v, r = .returned v) ∧ DcS w0 W'' K C (.slice (some ⟨b, off, none⟩) len cap) len (dg ns d c e' (out', m')).1 (dg ns d c e' (out', m')).2)) :
    Calls Tryz.prog 27 #[.pointer (some ⟨K, 0, none⟩), .int .i64 (a : Int), .int .i64 (e : Int)] W fun r W'' => (∃ v, r = .returned v) ∧ DcS w0 W'' K C (.slice (some ⟨b, off, none⟩) len cap) len (dg ns (d + 1) a e (out, m)).1 (dg ns (d + 1) a e (out, m)).2 := by
  obtain ⟨c0, c1, c2⟩ := HS.out.s.c3
  have x0 := (HS.out.c.cell a).trans (bM_get out ha)
  have ha0 : (0 : Int) ≤ (a : Int) := by omega
  have ha1 : (a : Int) < (len : Int) := by omega
  by_cases hin : a ∈ out
  · rw [decide_eq_true hin] at x0
    rw [dg_old (ns := ns) (d := d) (e := e) (s := (out, m)) hin]
    clear HC HP HI hin ho
    go_enter Tryz.func27, Tryz.ntmps27
    go_wp2
    refine bodyPost_ret (results_none rfl _ _ _) rfl ?_
    exact ⟨⟨_, rfl⟩, HS.out⟩
  · rw [decide_eq_false hin] at x0
    rw [dg_new (ns := ns) (d := d) (e := e) (s := (out, m)) hin]
    obtain ⟨pad, plen, pcap, hpl, hpb, hki, hxl, hkc, hnc⟩ := HC.out a ha
    have hal : a < ns.length := by have := HL.out; omega
    have HKA : Hid (∀ k, k < plen → ∃ p : Nat, (ns.getD a nd0).kids.getD k 0 = (p : Int) ∧ p < len ∧ (kd ns a).take (k + 1) = (kd ns a).take k ++ [p]) := fun k hk => kd_at (by omega) (HP.out _ (mem_getD hal))
    have HKL : Hid (plen = (kd ns a).length) := by show _ = _; unfold kd; rw [List.length_map]; exact hpl
    have HKT : Hid (∀ c ∈ kd ns a, c < len) := kd_lt HP.out HL.out a ha
    have HDK : Hid (∀ a, a < len → ∀ c ∈ kd ns a, c < len) := kd_lt HP.out HL.out
    have HS1 : Hid (DcS w0 (W.setCell ⟨C, a, none⟩ (.bool true)) K C (.slice (some ⟨b, off, none⟩) len cap) len (out ++ [a]) m) := HS.out.came a
    have z0 := HS.out.c.fz a
    have ho1 : OkO len (out ++ [a]) := ho.snoc ha hin
    have hd1 : len < d + (out ++ [a]).length := by rw [List.length_append, List.length_singleton]; omega
    have hls := lsB_N ns a
    have HKC : Hid (∀ W, Below w0.heap.size w0 W → ∀ i, i < plen → ∃ kb koff, pad = some ⟨kb, koff, none⟩ ∧ W.cell? ⟨kb, koff + i, none⟩ = some (.int .i64 ((ns.getD a nd0).kids.getD i 0))) := fun W hW i hi => by
      obtain ⟨kb, koff, e1, h⟩ := hkc (by omega)
      exact ⟨kb, koff, e1, h W hW i hi⟩
    obtain ⟨y0, y1, y2⟩ := hnc _ HS1.out.bl
    obtain ⟨E, hE⟩ : ∃ E, E = e + lsN ns a := ⟨_, rfl⟩
    have hE1 : e ≤ E ∧ E ≤ e + 1 := by have := lsN_le ns a; omega
    obtain ⟨M, hMe⟩ : ∃ M, M = max m E := ⟨_, rfl⟩
    obtain ⟨S0, HS0⟩ : ∃ S0, Hid (S0 = (out ++ [a], M)) := ⟨_, rfl⟩
    have e0 : ((out, m).1 ++ [a], max (out, m).2 (e + lsN ns a)) = S0 := by rw [HS0.out, hMe, hE]
    rw [e0, ← hE]
    clear e0
    generalize (ns.getD a nd0).kind = kk at hls y0 hki hnc
    generalize (ns.getD a nd0).text = kx at y1 hxl hnc
    generalize (ns.getD a nd0).kids = ll at HKA HKC hpl hkc
    generalize kd ns a = L at HKA HKL HKT ⊢
    generalize lsN ns a = q at hls hE
    clear hkc hnc HC hpl ho hin HS hd hal HP
    go_enter Tryz.func27, Tryz.ntmps27
    go_upto_region 2 with fail
    generalize W.setCell ⟨C, a, none⟩ (.bool true) = W1 at HS1 y0 y1 y2 ⊢
    clear c0 c1 c2 x0 z0
    obtain ⟨c0, c1, c2⟩ := HS1.out.s.c3
    go_upto_region 3 with fail
    have H2 : Hid (DcS w0 (W1.alloc (.cells #[.int .i64 kk, .string (mk kx), .slice pad plen pcap] 47)) K C (.slice (some ⟨b, off, none⟩) len cap) len (out ++ [a]) m) := HS1.out.later (below_alloc _ _)
    have N2 := Bx.new W1 #[.int .i64 kk, .string (mk kx), .slice pad plen pcap] 47
    have hK1 : K < W1.heap.size := HS1.out.s.lt
    generalize W1.alloc (.cells #[.int .i64 kk, .string (mk kx), .slice pad plen pcap] 47) = W2 at H2 N2 ⊢
    generalize W1.heap.size = K3 at N2 hK1 ⊢
    clear c0 c1 c2 y0 y1 y2 HS1
    obtain ⟨d0, d1, d2⟩ := N2.c3
    have HNB : Hid (Bx W2 K3 #[.int .i64 kk, .string (mk kx), .slice pad plen pcap] 47) := N2
    have HIL : Hid (Calls Tryz.prog 43 #[.agg #[.int .i64 kk, .string (mk kx), .slice pad plen pcap]] W2 fun e w' => e = .returned (.bool (lsB kk)) ∧ Hid (Below W2.heap.size W2 w')) := isListN_any
    clear N2
    have hB : (lsB kk = true ∧ q = 1) ∨ (lsB kk = false ∧ q = 0) := by
      cases h : lsB kk
      · rw [h] at hls; exact .inr ⟨rfl, by simpa using hls⟩
      · rw [h] at hls; exact .inl ⟨rfl, by simpa using hls⟩
    clear hls
    rcases hB with ⟨hb, rfl⟩ | ⟨hb, rfl⟩
    all_goals
      rw [hb] at HIL
      clear hb
      go_upto_region 5 with (go_at_call 43; refine HIL.out.mono ?_; rintro r w3 ⟨rfl, B3⟩; have H3 : Hid (DcS w0 w3 K C (.slice (some ⟨b, off, none⟩) len cap) len (out ++ [a]) m) := H2.out.later B3.out; have N3 : Hid (Bx w3 K3 #[.int .i64 kk, .string (mk kx), .slice pad plen pcap] 47) := HNB.out.later B3.out)
      clear d0 d1 d2 H2 HNB B3 HIL
      first | rw [show (e : Int) + 1 = (E : Int) by omega] | (obtain rfl : E = e := by omega)
      have hMm : m ≤ M := by omega
      have hEd : E + d ≤ 10000 := by omega
      clear hE hE1
      have hM : max (m : Int) (E : Int) = ((max m E : Nat) : Int) := by omega
      obtain ⟨c0, c1, c2⟩ := H3.out.s.c3
      have z2 := H3.out.s.fz 2
      rw [← hMe] at hM
      have hMb : M ≤ 10000 := by omega
      have hME : E ≤ M := by omega
      have H4 : Hid (DcS w0 (w3.setCell ⟨K, 2, none⟩ (.int .i64 (M : Int))) K C (.slice (some ⟨b, off, none⟩) len cap) len (out ++ [a]) M) := H3.out.deep M
      have N4 : Hid (Bx (w3.setCell ⟨K, 2, none⟩ (.int .i64 (M : Int))) K3 #[.int .i64 kk, .string (mk kx), .slice pad plen pcap] 47) := N3.out.other (by omega) _ _
      clear hMe
      go_upto_region 6 with fail
      try rw [hM]
      generalize w3.setCell ⟨K, 2, none⟩ (.int .i64 (M : Int)) = W4 at H4 N4 ⊢
      clear c0 c1 c2 z2 H3 N3 hM
      obtain ⟨d0, d1, d2⟩ := N4.out.c3
      have HW0 : Hid (DcS w0 W4 K C (.slice (some ⟨b, off, none⟩) len cap) len S0.1 S0.2) := by rw [HS0.out]; exact H4.out
      have HOK : Hid (OkO len S0.1 ∧ len < d + S0.1.length ∧ S0.2 ≤ 10000) := by rw [HS0.out]; exact ⟨ho1, hd1, hMb⟩
      clear H4 HS0 ho1 hd1
      go_wp2_with fail
      go_loopw [45] (fun i wr => ∃ (k : Nat) (S : List Nat × Nat), k ≤ plen ∧ i = .int .i64 k ∧ Hid (DcS w0 wr K C (.slice (some ⟨b, off, none⟩) len cap) len S.1 S.2) ∧ Hid (S = dgK (fun b => dg ns d b E) (L.take k) S0)) (fun i _ => plen - (intOf i).toNat)
      case atStart => exact ⟨0, S0, Nat.zero_le _, rfl, HW0, (by simp [dgK] : S0 = dgK (fun b => dg ns d b E) (L.take 0) S0)⟩
      case round =>
        obtain ⟨k, S, hk, rfl, HSS, HWS⟩ := hrel
        clear HW0 d0 d1 d2 N4
        by_cases hkt : k < plen
        · obtain ⟨kb, koff, rfl, x0⟩ := HKC.out wr HSS.out.bl k hkt
          obtain ⟨p, hp, hpl, htk⟩ := HKA.out k hkt
          rw [hp] at x0
          obtain ⟨k1, k2⟩ := dgK_ok HDK.out (d := d) (e := E) (l := L.take k) (s := S0) HOK.out.1 (fun c hc => HKT.out c (List.mem_of_mem_take hc)) HOK.out.2.1
          rw [← HWS.out] at k1 k2
          have k3 : S.2 ≤ 10000 := by
            rw [HWS.out]
            exact dgK_bd (fun b s hs => dg_bd d b E s hs hEd) _ _ HOK.out.2.2
          have HCall : Hid (Calls Tryz.prog 27 #[.pointer (some ⟨K, 0, none⟩), .int .i64 (p : Int), .int .i64 (E : Int)] wr fun r W'' => (∃ v, r = .returned v) ∧ Hid (DcS w0 W'' K C (.slice (some ⟨b, off, none⟩) len cap) len (dg ns d p E S).1 (dg ns d p E S).2)) :=
            HI.out p E S.2 S.1 wr k1 hpl (by have := HOK.out.2.1; omega) hEd k3 HSS.out
          have HW2 : Hid (dg ns d p E S = dgK (fun b => dg ns d b E) (L.take (k + 1)) S0) := by
            show _ = _
            rw [htk, dgK_snoc, ← HWS.out]
          clear hp htk k1 k2 k3 HSS HWS
          generalize dg ns d p E S = S' at HCall HW2
          have hk0 : (0 : Int) ≤ (k : Int) := by omega
          have hk1 : (k : Int) < (plen : Int) := by omega
          go_wp2_with (go_at_call 27; refine HCall.out.mono ?_; rintro e W5 ⟨⟨v, rfl⟩, HS5⟩)
          go_roundw
          case rel => exact ⟨k + 1, S', by omega, by go_num, HS5, HW2⟩
          case measure => (simp [intOf] <;> omega)
        · have hke : k = plen := by omega
          have HF : Hid (DcS w0 wr K C (.slice (some ⟨b, off, none⟩) len cap) len (dgK (fun b => dg ns d b E) L S0).1 (dgK (fun b => dg ns d b E) L S0).2) := by
            have h1 := HWS.out
            rw [hke, List.take_of_length_le (by rw [HKL.out]; exact Nat.le_refl _)] at h1
            rw [← h1]
            exact HSS.out
          clear HSS HWS
          go_wp2
          go_end0
          exact ⟨⟨_, rfl⟩, HF.out⟩
theorem down_any {w0 : World} {b off len cap : Nat} {ns : List Nd} (K C : Nat) (hlen : len ≤ 4096) (HC : CN w0 b off len ns) (HP : ∀ n ∈ ns, ∀ a ∈ n.kids, isP len a = true) (HL : len = ns.length) :
    ∀ (d a e m : Nat) (out : List Nat) (W : World), OkO len out → a < len → len < d + out.length → e + d ≤ 10000 → m ≤ 10000 → DcS w0 W K C (.slice (some ⟨b, off, none⟩) len cap) len out m →
      Calls Tryz.prog 27 #[.pointer (some ⟨K, 0, none⟩), .int .i64 (a : Int), .int .i64 (e : Int)] W fun r W'' => (∃ v, r = .returned v) ∧ DcS w0 W'' K C (.slice (some ⟨b, off, none⟩) len cap) len (dg ns d a e (out, m)).1 (dg ns d a e (out, m)).2
  | 0, a, e, m, out, W, ho, _, hd, _, _, _ => absurd ho.le (by omega)
  | d + 1, a, e, m, out, W, ho, ha, hd, he, hm, hS => down_core K C hlen HC HP HL d a e m out W hS ho ha hd he hm (fun c e' m' out' W' h1 h2 h3 h4 h5 h6 => down_any K C hlen HC HP HL d c e' m' out' W' h1 h2 h3 h4 h5 h6)
end Go.Proofs.YtaphijgbebhdlaaGreatDoor.Grp
end

section
/- Package lay's deepest, by its contract. -/
namespace Go.Proofs.YtaphijgbebhdlaaGreatDoor.Grp
open Utf Rws Pln Flw
open Go.RowKit
set_option linter.unusedSimpArgs false
set_option linter.unusedVariables false
set_option maxRecDepth 100000
set_option maxHeartbeats 4000000

theorem infoBoolD : (Tryz.prog.info? 4).map (fun i => (i.zero, i.size, i.bytes)) = some (some (.bool false), 1, 1) := by kernel_rfl
theorem underBoolD : Tryz.prog.underlying 54 = some (.slice 4) := by kernel_rfl
theorem deepest_core {w : World} {b off len cap m : Nat} {ns : List Nd} (hlen : len ≤ 4096) (HC : CN w b off len ns) (HP : ∀ n ∈ ns, ∀ a ∈ n.kids, isP len a = true) (HL : len = ns.length) (hm : m < len) :
    Calls Tryz.prog 16 #[gv (some ⟨b, off, none⟩) len cap (m : Int)] w fun e w' => e = .returned (.int .i64 (((dg ns (len + 1) m 0 ([], 0)).2 : Nat) : Int)) ∧ Hid (Below w.heap.size w w') := by
  have HGo : Hid (∀ (K C : Nat) (W : World), DcS w W K C (.slice (some ⟨b, off, none⟩) len cap) len [] 0 → Calls Tryz.prog 27 #[.pointer (some ⟨K, 0, none⟩), .int .i64 (m : Int), .int .i64 0] W fun e W'' => (∃ v, e = .returned v) ∧ Hid (DcS w W'' K C (.slice (some ⟨b, off, none⟩) len cap) len (dg ns (len + 1) m 0 ([], 0)).1 (dg ns (len + 1) m 0 ([], 0)).2)) :=
    fun K C W h => down_any K C hlen HC HP HL (len + 1) m 0 0 [] W ⟨List.nodup_nil, fun b hb => by cases hb⟩ hm (by simp) (by omega) (by omega) h
  have hmk := fun w' : World => run_make_row' (P := Tryz.prog) 54 4 (.bool false) 1 underBoolD infoBoolD rfl .i64 .i64 len (by omega) (by omega) w'
  generalize dg ns (len + 1) m 0 ([], 0) = R at *
  clear HC HP HL
  go_enter Tryz.func16, Tryz.ntmps16
  go_wp2_with fail
  go_region
  have h0 : DcS w (((w.alloc (.cells #[.slice (some ⟨b, off, none⟩) len cap, .int .i64 (m : Int)] 24)).alloc (.cells (madeCells #[.bool false] len) 4)).alloc (.cells #[.slice (some ⟨b, off, none⟩) len cap, .slice (some ⟨w.heap.size + 1, 0, none⟩) len len, .int .i64 0] 72)).drew (w.heap.size + 1 + 1) (w.heap.size + 1) (.slice (some ⟨b, off, none⟩) len cap) len [] 0 ∧ Bx (((w.alloc (.cells #[.slice (some ⟨b, off, none⟩) len cap, .int .i64 (m : Int)] 24)).alloc (.cells (madeCells #[.bool false] len) 4)).alloc (.cells #[.slice (some ⟨b, off, none⟩) len cap, .slice (some ⟨w.heap.size + 1, 0, none⟩) len len, .int .i64 0] 72)).drew w.heap.size #[.slice (some ⟨b, off, none⟩) len cap, .int .i64 (m : Int)] 24 := by
    rw [bM_made]
    have b1 := below_alloc w (.cells #[.slice (some ⟨b, off, none⟩) len cap, .int .i64 (m : Int)] 24)
    have n1 := Bx.new w #[.slice (some ⟨b, off, none⟩) len cap, .int .i64 (m : Int)] 24
    have s1 : (w.alloc (.cells #[.slice (some ⟨b, off, none⟩) len cap, .int .i64 (m : Int)] 24)).heap.size = w.heap.size + 1 := World.size_alloc _ _
    generalize w.alloc (.cells #[.slice (some ⟨b, off, none⟩) len cap, .int .i64 (m : Int)] 24) = w1 at *
    have b2 := below_alloc w1 (.cells (bM [] len) 4)
    have n2 := Bx.new w1 (bM [] len) 4
    have s2 : (w1.alloc (.cells (bM [] len) 4)).heap.size = w.heap.size + 1 + 1 := by rw [World.size_alloc, s1]
    rw [s1] at n2
    have n1 := n1.later b2
    generalize w1.alloc (.cells (bM [] len) 4) = w2 at *
    have b3 := below_alloc w2 (.cells #[.slice (some ⟨b, off, none⟩) len cap, .slice (some ⟨w.heap.size + 1, 0, none⟩) len len, .int .i64 0] 72)
    have n3 := Bx.new w2 #[.slice (some ⟨b, off, none⟩) len cap, .slice (some ⟨w.heap.size + 1, 0, none⟩) len len, .int .i64 0] 72
    rw [s2] at n3
    have n2 := n2.later b3
    have n1 := n1.later b3
    have bl := ((b1.trans (b2.mono b1.size)).trans (b3.mono (by omega))).drew
    exact ⟨⟨n3, n2, bl, by omega, by omega, by omega⟩, n1⟩
  generalize (((w.alloc (.cells #[.slice (some ⟨b, off, none⟩) len cap, .int .i64 (m : Int)] 24)).alloc (.cells (madeCells #[.bool false] len) 4)).alloc (.cells #[.slice (some ⟨b, off, none⟩) len cap, .slice (some ⟨w.heap.size + 1, 0, none⟩) len len, .int .i64 0] 72)).drew = W0 at h0 ⊢
  generalize w.heap.size + 1 + 1 = K at h0 ⊢
  generalize w.heap.size + 1 = C at h0 ⊢
  have HCall := HGo.out K C W0 h0.1
  obtain ⟨c0, c1⟩ := h0.2.c2
  clear hmk h0 HGo
  go_wp2_with (go_at_call 27; refine HCall.mono ?_; rintro e W4 ⟨⟨v, rfl⟩, HS4⟩; obtain ⟨e0, e1, e2⟩ := HS4.out.s.c3)
  go_ret
  exact ⟨rfl, HS4.out.bl⟩
end Go.Proofs.YtaphijgbebhdlaaGreatDoor.Grp
end
