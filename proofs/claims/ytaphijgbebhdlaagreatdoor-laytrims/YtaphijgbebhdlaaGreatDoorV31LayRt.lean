/- Several texts as one: LayRt. -/
import Derived.Test.YtaphijgbebhdlaaGreatDoorV30LayRn
import Derived.Test.YtaphijgbebhdlaaGreatDoorV23LayLd
import Derived.Test.YtaphijgbebhdlaaGreatDoorV14GraphGo
import Derived.Deep.RegionWith
section
/- The document's tree, by its contract. -/
namespace Go.Proofs.YtaphijgbebhdlaaGreatDoor.Grp
open Utf Rws Pln Flw
open Go.RowKit
set_option linter.unusedSimpArgs false
set_option linter.unusedVariables false
set_option maxRecDepth 100000
set_option maxHeartbeats 16000000

/-- a frame as a family of frames has it -/
def MF (F : (Nat → Value) → Go.Act) (a : Go.Act) : Prop := ∃ vs, a = F vs
theorem mf_leaf {a : Go.Act} {F : (Nat → Value) → Go.Act} (h : a = F (fun i => a.tmps.getD i undef)) : MF F a := ⟨_, h⟩
theorem wp_mergeV {P : Program} {c : Code} {Q : Exit → Go.Act → World → Prop} {a : Go.Act} {w : World} (F : (Nat → Value) → Go.Act) {I : World → Prop} (h1 : c.wp P (fun e a' w' => e = .normal ∧ MF F a' ∧ I w') a w) (h2 : ∀ vs w', I w' → Q .normal (F vs) w') : c.wp P Q a w :=
  Code.wp_mono (fun e a w h => by obtain ⟨rfl, ⟨vs, rfl⟩, h⟩ := h; exact h2 vs w h) h1
/-- what tree answers -/
def RRes (w0 W : World) (K CC : Nat) (nsl rv : Value) (sad : Option Addr) (scap : Nat) (S : List Nat) (len d : Nat) (T : Tr) (out : List Nat) (b : Bool) (e : Ending) (W' : World) : Prop :=
  ∃ (k : Int) (x y : ByteArray) (ad : Option Addr) (l c : Nat), e = .returned (.agg #[.int .i64 k, .string x, .string y, .slice ad l c]) ∧ Hid (TrP W.heap.size W' d (.agg #[.int .i64 k, .string x, .string y, .slice ad l c]) T) ∧ Hid (RlS w0 W' K CC nsl rv sad scap S len out b) ∧ Hid (Ex2 K CC W W')
theorem kt_ex2 {w w1 : World} {KR K2 d m : Nat} {k : Int} {x a : Ln} {u : Value} {xs : List Value} {ks : List Tr} {c1 c2 : Nat} (h : Kt w KR K2 d k x a u m xs ks) (hb : Ex2 c1 c2 w w1) (h1 : c1 < KR) (h2 : c2 < KR) : Kt w1 KR K2 d k x a u m xs ks := kt_keep h hb.size (fun j h3 hj => hb.block j hj (by omega) (by omega))
theorem RlS.fresh {w0 W : World} {K CC len scap KR k : Nat} {nsl rv : Value} {sad : Option Addr} {S out : List Nat} {b : Bool} (h : RlS w0 W K CC nsl rv sad scap S len out b) (hk : K < KR) (hc : CC < KR) (hS : ∀ j, j < S.length → ∃ ob ooff, sad = some ⟨ob, ooff, none⟩ ∧ ob < KR) (hw : w0.heap.size ≤ KR) (hkr : KR ≤ k) (i : Nat) (v : Value) : RlS w0 (W.setCell ⟨k, i, none⟩ v) K CC nsl rv sad scap S len out b :=
  h.beside hk hc hS (h.bl.setCell (p := ⟨k, i, none⟩) (by show w0.heap.size ≤ k; omega) _) (by simp [World.setCell]) (fun j hj => Below.heap_setCell _ _ _ _ (fun e => by simp only at e; omega))
structure R5E where
  K2 : Nat
  W : World
/-- what lies there while a node's tree is begun -/
structure R5B (w0 W W2 W' : World) (K CC KR K3 : Nat) (nsl rv : Value) (sad : Option Addr) (scap : Nat) (S : List Nat) (len : Nat) (out : List Nat) (fl : Bool) (kk : Int) (kx : Ln) (pad : Option Addr) (plen pcap : Nat) : Prop where
  l : RlS w0 W' K CC nsl rv sad scap S len out fl
  x : Ex2 K CC W W'
  r : Bx W' KR zT 29
  n : Bx W' K3 #[.int .i64 kk, .string (mk kx), .slice pad plen pcap] 47
  sz : W2.heap.size ≤ W'.heap.size
  k1 : K < KR
  k2 : CC < KR
  k3 : w0.heap.size ≤ KR
  k4 : W.heap.size = KR
  k5 : KR < K3
  k6 : K3 < W2.heap.size
  sb : ∀ j, j < S.length → ∃ ob ooff, sad = some ⟨ob, ooff, none⟩ ∧ ob < KR
section
variable {w0 W W2 W' W'' : World} {K CC KR K3 : Nat} {nsl rv : Value} {sad : Option Addr} {scap : Nat} {S : List Nat} {len : Nat} {out : List Nat} {fl : Bool} {kk : Int} {kx : Ln} {pad : Option Addr} {plen pcap : Nat}
theorem R5B.later (h : R5B w0 W W2 W' K CC KR K3 nsl rv sad scap S len out fl kk kx pad plen pcap) (hb : Below W'.heap.size W' W'') : R5B w0 W W2 W'' K CC KR K3 nsl rv sad scap S len out fl kk kx pad plen pcap :=
  ⟨h.l.later hb, h.x.trans (Ex2.of hb), h.r.later hb, h.n.later hb, Nat.le_trans h.sz hb.size, h.k1, h.k2, h.k3, h.k4, h.k5, h.k6, h.sb⟩
theorem R5B.set (h : R5B w0 W W2 W' K CC KR K3 nsl rv sad scap S len out fl kk kx pad plen pcap) {k : Nat} (hk : W2.heap.size ≤ k) (i : Nat) (v : Value) : R5B w0 W W2 (W'.setCell ⟨k, i, none⟩ v) K CC KR K3 nsl rv sad scap S len out fl kk kx pad plen pcap := by
  have h4 := h.k4
  have h5 := h.k5
  have h6 := h.k6
  exact ⟨h.l.fresh h.k1 h.k2 h.sb h.k3 (by omega) i v, h.x.new (by omega) i v, h.r.other (by omega) _ _, h.n.other (by omega) _ _, by simpa [World.setCell] using h.sz, h.k1, h.k2, h.k3, h.k4, h.k5, h.k6, h.sb⟩
end
def r5Dp : List (List Nat) := [[], [0], [], [2], [], [], [4, 5], [1, 3, 6], [], [7, 8]]
structure R10E where
  k : Int
  x : ByteArray
  y : ByteArray
  ad : Option Addr
  l : Nat
  c : Nat
  B : Nat
  v : Value
  W : World
def r10Dp : List (List Nat) := [[], [0], [], [], [3], [], [4, 5], [6], [], [8], [2, 7, 9], [10], [1, 11], [], [12, 13]]
theorem bx_four {w : World} {K : Nat} {a b c d : Value} {t : TypeId} (h : Bx w K #[a, b, c, d] t) : ∀ j u, [a, b, c, d][j]? = some u → w.cell? ((⟨K, 0, none⟩ : Addr).add j) = some u := by
  intro j u hj
  have e : (⟨K, 0, none⟩ : Addr).add j = ⟨K, j, none⟩ := by simp [Addr.add]; intro h; exact h.symm
  rw [e, h.cell j]
  simpa using hj
theorem rtree_core {w0 : World} {b off len cap : Nat} {ns : List Nd} {rv : Value} {sad : Option Addr} {scap : Nat} {S : List Nat} (K CC : Nat) (hlen : len ≤ 4096) (hSl : S.length ≤ 100000) (hnm : ∀ a, (nmS S a).length ≤ 65536) (HC : Hid (CN w0 b off len ns)) (HP : Hid (∀ n ∈ ns, ∀ a ∈ n.kids, isP len a = true)) (HL : Hid (len = ns.length))
    (d a dp : Nat) (out : List Nat) (fl : Bool) (W : World) (HS : Hid (RlS w0 W K CC (.slice (some ⟨b, off, none⟩) len cap) rv sad scap S len out fl)) (ho : OkO len out) (ha : a < len) (hd : len < d + 1 + out.length) (he : dp + (d + 1) ≤ 10000)
    (HI : Hid (∀ (c e' : Nat) (out' : List Nat) (fl' : Bool) (W' : World), OkO len out' → c < len → len < d + out'.length → e' + d ≤ 10000 → RlS w0 W' K CC (.slice (some ⟨b, off, none⟩) len cap) rv sad scap S len out' fl' →
      Calls Tryz.prog 19 #[.pointer (some ⟨K, 0, none⟩), .int .i64 (c : Int), .int .i64 (e' : Int)] W' (RRes w0 W' K CC (.slice (some ⟨b, off, none⟩) len cap) rv sad scap S len d (lyT ns (nmS S) d c out').1 (lyT ns (nmS S) d c out').2.1 (fg ns d c e' (out', fl')).2))) :
    Calls Tryz.prog 19 #[.pointer (some ⟨K, 0, none⟩), .int .i64 (a : Int), .int .i64 (dp : Int)] W (RRes w0 W K CC (.slice (some ⟨b, off, none⟩) len cap) rv sad scap S len (d + 1) (lyT ns (nmS S) (d + 1) a out).1 (lyT ns (nmS S) (d + 1) a out).2.1 (fg ns (d + 1) a dp (out, fl)).2) := by
  have b1 := below_alloc W (.cells zT 29)
  have H1 : Hid (RlS w0 (W.alloc (.cells zT 29)) K CC (.slice (some ⟨b, off, none⟩) len cap) rv sad scap S len out fl) := HS.out.later b1
  have R1 : Hid (Bx (W.alloc (.cells zT 29)) W.heap.size zT 29) := Bx.new _ _ _
  have X1 : Hid (Ex2 K CC W (W.alloc (.cells zT 29))) := Ex2.of b1
  have hKW : K < W.heap.size ∧ CC < W.heap.size ∧ w0.heap.size ≤ W.heap.size := ⟨HS.out.s.lt, HS.out.c.lt, HS.out.bl.size⟩
  have HSB : Hid (∀ j, j < S.length → ∃ ob ooff, sad = some ⟨ob, ooff, none⟩ ∧ ob < W.heap.size) := fun j hj => by
    obtain ⟨ob, ooff, e1, _, _, h3, _⟩ := HS.out.sh j hj
    exact ⟨ob, ooff, e1, h3⟩
  have hs1 : (W.alloc (.cells zT 29)).heap.size = W.heap.size + 1 := World.size_alloc _ _
  obtain ⟨Wa, hWa⟩ : ∃ Wa, Wa = W.alloc (.cells zT 29) := ⟨_, rfl⟩
  have HWa : Hid (W.alloc (.cells #[.int .i64 0, .string ⟨#[]⟩, .string ⟨#[]⟩, .slice none 0 0] 29) = Wa) := hWa.symm
  rw [← hWa] at H1 R1 X1 hs1
  obtain ⟨KR, hKR⟩ : ∃ KR, KR = W.heap.size := ⟨_, rfl⟩
  have HKR : Hid (W.heap.size = KR) := hKR.symm
  have ha0 : (0 : Int) ≤ (a : Int) := by omega
  have ha1 : (a : Int) < (len : Int) := by omega
  rw [← hKR] at R1 hs1 hKW HSB
  clear b1 hWa hKR
  obtain ⟨k1, k2, k3⟩ := hKW
  have c0 : Wa.cell? ⟨K, 0, none⟩ = some (.slice (some ⟨b, off, none⟩) len cap) := H1.out.s.cell 0
  have c3 : Wa.cell? ⟨K, 3, none⟩ = some (.slice (some ⟨CC, 0, none⟩) len len) := H1.out.s.cell 3
  have c4 : Wa.cell? ⟨K, 4, none⟩ = some (.bool fl) := H1.out.s.cell 4
  have x0 := (H1.out.c.cell a).trans (bM_get out ha)
  have HNm : Hid (∀ W' o f, Hid (RlS w0 W' K CC (.slice (some ⟨b, off, none⟩) len cap) rv sad scap S len o f) → Calls Tryz.prog 31 #[.pointer (some ⟨K, 0, none⟩), .int .i64 (a : Int)] W' fun e W'' => e = .returned (.string (mk (nmS S a))) ∧ Hid (Below W'.heap.size W' W'')) := fun W' o f h => name_core h hSl
  have hnl := hnm a
  by_cases hin : a ∈ out
  · rw [decide_eq_true hin] at x0
    rw [ly_old hin, fg_old (s := (out, fl)) hin]
    clear HC HP HI hin ho
    generalize nmS S a = an at *
    go_enter Tryz.func19, Tryz.ntmps19
    go_upto_region 1 with fail
    rw [HWa.out, HKR.out]
    go_wp2_with (go_at_call 31; refine (HNm.out _ _ _ H1).mono ?_; rintro r w2 ⟨rfl, B2⟩; have R2 : Hid (Bx w2 KR zT 29) := R1.out.later B2.out; obtain ⟨r0, r1, r2, r3⟩ := (show Bx w2 KR #[.int .i64 0, .string ⟨#[]⟩, .string ⟨#[]⟩, .slice none 0 0] 29 from R2.out).c4; have z0 := R2.out.fz 0; have z1 := R2.out.fz 1; have z2 := R2.out.fz 2; have z3 := R2.out.fz 3)
    have L2 : Hid (RlS w0 w2 K CC (.slice (some ⟨b, off, none⟩) len cap) rv sad scap S len out fl) := H1.out.later B2.out
    have X2 : Hid (Ex2 K CC W w2) := X1.out.trans (Ex2.of B2.out)
    have k5 : W.heap.size ≤ KR := by rw [HKR.out]; exact Nat.le_refl _
    have H9 : Hid (RlS w0 ((((w2.setCell ⟨KR, 0, none⟩ (.int .i64 7)).setCell ⟨KR, 1, none⟩ (.string ⟨#[]⟩)).setCell ⟨KR, 2, none⟩ (.string (mk an))).setCell ⟨KR, 3, none⟩ (.slice none 0 0)) K CC (.slice (some ⟨b, off, none⟩) len cap) rv sad scap S len out fl) :=
      (((L2.out.fresh k1 k2 HSB.out k3 (Nat.le_refl _) 0 _).fresh k1 k2 HSB.out k3 (Nat.le_refl _) 1 _).fresh k1 k2 HSB.out k3 (Nat.le_refl _) 2 _).fresh k1 k2 HSB.out k3 (Nat.le_refl _) 3 _
    have X9 : Hid (Ex2 K CC W ((((w2.setCell ⟨KR, 0, none⟩ (.int .i64 7)).setCell ⟨KR, 1, none⟩ (.string ⟨#[]⟩)).setCell ⟨KR, 2, none⟩ (.string (mk an))).setCell ⟨KR, 3, none⟩ (.slice none 0 0))) := (((X2.out.new k5 0 _).new k5 1 _).new k5 2 _).new k5 3 _
    have B9 : Hid (Bx ((((w2.setCell ⟨KR, 0, none⟩ (.int .i64 7)).setCell ⟨KR, 1, none⟩ (.string ⟨#[]⟩)).setCell ⟨KR, 2, none⟩ (.string (mk an))).setCell ⟨KR, 3, none⟩ (.slice none 0 0)) KR #[.int .i64 7, .string ⟨#[]⟩, .string (mk an), .slice none 0 0] 29) := (((R2.out.set 0 _).set 1 _).set 2 _).set 3 _
    generalize (((w2.setCell ⟨KR, 0, none⟩ (.int .i64 7)).setCell ⟨KR, 1, none⟩ (.string ⟨#[]⟩)).setCell ⟨KR, 2, none⟩ (.string (mk an))).setCell ⟨KR, 3, none⟩ (.slice none 0 0) = W9 at H9 X9 B9 ⊢
    obtain ⟨g0, g1, g2, g3⟩ := B9.out.c4
    refine bodyPost_ret (v := .agg #[.int .i64 7, .string ⟨#[]⟩, .string (mk an), .slice none 0 0]) (by simp [results, Tryz.results19, go_sem, g0, g1, g2, g3]) rfl ?_
    exact ⟨7, ⟨#[]⟩, mk an, none, 0, 0, rfl, ⟨none, 0, 0, rfl, rfl, Nat.le_refl _, Nat.zero_le _, ⟨(by decide : (-9223372036854775808 : Int) ≤ 7), (by decide : (7 : Int) ≤ 9223372036854775807), by simp, by show an.length ≤ _; omega⟩, fun h => absurd h (by omega)⟩, H9, X9⟩
  · rw [decide_eq_false hin] at x0
    rw [ly_new hin, fg_new (s := (out, fl)) hin]
    obtain ⟨pad, plen, pcap, hpl, hpb, hki, hxl, hkc, hnc⟩ := HC.out a ha
    have hal : a < ns.length := by have := HL.out; omega
    have HKA : Hid (∀ k, k < plen → ∃ p : Nat, (ns.getD a nd0).kids.getD k 0 = (p : Int) ∧ p < len ∧ (kd ns a).take (k + 1) = (kd ns a).take k ++ [p]) := fun k hk => kd_at (by omega) (HP.out _ (mem_getD hal))
    have HKL : Hid (plen = (kd ns a).length) := by show _ = _; unfold kd; rw [List.length_map]; exact hpl
    have HKT : Hid (∀ c ∈ kd ns a, c < len) := kd_lt HP.out HL.out a ha
    have HDK : Hid (∀ a, a < len → ∀ c ∈ kd ns a, c < len) := kd_lt HP.out HL.out
    have HS1 : Hid (RlS w0 (Wa.setCell ⟨CC, a, none⟩ (.bool true)) K CC (.slice (some ⟨b, off, none⟩) len cap) rv sad scap S len (out ++ [a]) fl) := H1.out.came a
    have X2 : Hid (Ex2 K CC W (Wa.setCell ⟨CC, a, none⟩ (.bool true))) := X1.out.set2 a _
    have R2 : Hid (Bx (Wa.setCell ⟨CC, a, none⟩ (.bool true)) KR zT 29) := R1.out.other (by omega) _ _
    have z0 := H1.out.c.fz a
    have ho1 : OkO len (out ++ [a]) := ho.snoc ha hin
    have hd1 : len < d + (out ++ [a]).length := by rw [List.length_append, List.length_singleton]; omega
    have HKC : Hid (∀ W, Below w0.heap.size w0 W → ∀ i, i < plen → ∃ kb koff, pad = some ⟨kb, koff, none⟩ ∧ W.cell? ⟨kb, koff + i, none⟩ = some (.int .i64 ((ns.getD a nd0).kids.getD i 0))) := fun W hW i hi => by
      obtain ⟨kb, koff, e1, h⟩ := hkc (by omega)
      exact ⟨kb, koff, e1, h W hW i hi⟩
    obtain ⟨y0, y1, y2⟩ := hnc _ HS1.out.bl
    obtain ⟨S0, HS0⟩ : ∃ S0, Hid (S0 = out ++ [a]) := ⟨_, rfl⟩
    obtain ⟨fl1, hfl1⟩ : ∃ fl1, fl1 = (fl || fB ns a dp) := ⟨_, rfl⟩
    have e9 : ((out, fl).1 ++ [a], (out, fl).2 || fB ns a dp) = (S0, fl1) := by rw [HS0.out, hfl1]
    rw [e9]
    rw [← HS0.out] at HS1 ho1 hd1 ⊢
    have HOK : Hid (OkO len S0 ∧ len < d + S0.length) := ⟨ho1, hd1⟩
    obtain ⟨RR, HRR⟩ : ∃ RR, Hid (RR = lyK (lyT ns (nmS S) d) (kd ns a) S0) := ⟨_, rfl⟩
    obtain ⟨FF, HFF⟩ : ∃ FF, Hid (FF = fgK (fun b => fg ns d b (dp + 1)) (kd ns a) (S0, fl1)) := ⟨_, rfl⟩
    rw [← HRR.out, ← HFF.out]
    unfold fB at hfl1
    generalize (ns.getD a nd0).kind = kk at y0 hki hnc hfl1 ⊢
    generalize (ns.getD a nd0).text = kx at y1 hxl hnc ⊢
    generalize (ns.getD a nd0).kids = ll at HKA HKC hpl hkc
    generalize kd ns a = L at HKA HKL HKT HRR HFF
    have hal2 : (nmS S a).length ≤ 9223372036854775807 := by omega
    generalize nmS S a = an at HNm hal2 ⊢
    have hKK : W.heap.size = KR := HKR.out
    clear e9 hnc hkc HC hpl HS0 ho1 hd1 ho hin HP H1 X1 R1 hs1
    obtain ⟨it, hi, hz0, hz1, hz2⟩ := info_parts infoTree
    go_enter Tryz.func19, Tryz.ntmps19
    go_upto_region 1 with fail
    rw [HWa.out]
    try rw [HKR.out]
    go_upto_region 4 with fail
    generalize Wa.setCell ⟨CC, a, none⟩ (.bool true) = W1 at HS1 X2 R2 y0 y1 y2 ⊢
    clear c0 c3 c4 x0 z0
    have c0 : W1.cell? ⟨K, 0, none⟩ = some (.slice (some ⟨b, off, none⟩) len cap) := HS1.out.s.cell 0
    go_upto_region 5 with fail
    have HS3 : Hid (RlS w0 (W1.alloc (.cells #[.int .i64 kk, .string (mk kx), .slice pad plen pcap] 47)) K CC (.slice (some ⟨b, off, none⟩) len cap) rv sad scap S len S0 fl) := HS1.out.later (below_alloc _ _)
    have X3 : Hid (Ex2 K CC W (W1.alloc (.cells #[.int .i64 kk, .string (mk kx), .slice pad plen pcap] 47))) := X2.out.trans (Ex2.of (below_alloc _ _))
    have R3 : Hid (Bx (W1.alloc (.cells #[.int .i64 kk, .string (mk kx), .slice pad plen pcap] 47)) KR zT 29) := R2.out.later (below_alloc _ _)
    have N3 : Hid (Bx (W1.alloc (.cells #[.int .i64 kk, .string (mk kx), .slice pad plen pcap] 47)) W1.heap.size #[.int .i64 kk, .string (mk kx), .slice pad plen pcap] 47) := Bx.new _ _ _
    have hK3 : KR < W1.heap.size := R2.out.lt
    generalize W1.alloc (.cells #[.int .i64 kk, .string (mk kx), .slice pad plen pcap] 47) = W2 at HS3 X3 R3 N3 ⊢
    generalize W1.heap.size = K3 at N3 hK3 ⊢
    clear HS1 X2 R2 y0 y1 y2 c0
    obtain ⟨d0, d1, d2⟩ := N3.out.c3
    have hK2 : K3 < W2.heap.size := N3.out.lt
    have hmix : Tryz.prog.follows .mixedOrders = true := by kernel_rfl
    have jb5 : Hid (R5B w0 W W2 W2.drew K CC KR K3 (.slice (some ⟨b, off, none⟩) len cap) rv sad scap S len S0 fl kk kx pad plen pcap) := (⟨HS3.out, X3.out, R3.out, N3.out, Nat.le_refl _, k1, k2, k3, hKK, hK3, hK2, HSB.out⟩ : R5B w0 W W2 W2 K CC KR K3 _ rv sad scap S len S0 fl kk kx pad plen pcap).later (Below.refl _ W2).drew
    clear d0 d1 d2 HS3 X3 R3 N3
    refine wp_region_E hmix (N := 10) (dp := r5Dp) (by kernel_rfl) (E := R5E) (fun (e : R5E) (s : List Bool) => Hid (R5B w0 W W2 e.W K CC KR K3 (.slice (some ⟨b, off, none⟩) len cap) rv sad scap S len S0 fl kk kx pad plen pcap) ∧ (s.getD 8 false = true → Hid (W2.heap.size ≤ e.K2 ∧ e.K2 < e.W.heap.size ∧ (s.getD 9 false = false → Bx e.W e.K2 zT 29) ∧ (s.getD 9 false = true → Bx e.W e.K2 #[.int .i64 kk, .string (mk kx), .string (mk an), .slice none 0 0] 29))) ∧ clo r5Dp s) (fun (e : R5E) (s : List Bool) => { tmps := #[.pointer (some ⟨K, 0, none⟩), .int .i64 (a : Int), .int .i64 (dp : Int), undef, undef, undef, .pointer (some ⟨KR, 0, none⟩), .pointer (some ⟨K3, 0, none⟩), slu (s.getD 8 false) (.pointer (some ⟨e.K2, 0, none⟩)) undef, undef, .pointer (some ⟨K, 0, none⟩), .pointer (some ⟨K, 0, none⟩), .pointer (some ⟨K, 3, none⟩), .slice (some ⟨CC, 0, none⟩) len len, .int .i64 (a : Int), .pointer (some ⟨CC, a, none⟩), .bool false, undef, undef, undef, undef, .pointer (some ⟨K, 0, none⟩), .pointer (some ⟨K, 0, none⟩), .pointer (some ⟨K, 3, none⟩), .slice (some ⟨CC, 0, none⟩) len len, .int .i64 (a : Int), .pointer (some ⟨CC, a, none⟩), .pointer (some ⟨K, 0, none⟩), .pointer (some ⟨K, 0, none⟩), .pointer (some ⟨K, 0, none⟩), .pointer (some ⟨K, 0, none⟩), .slice (some ⟨b, off, none⟩) len cap, .int .i64 (a : Int), .pointer (some ⟨b, off + a * 3, none⟩), .agg #[.int .i64 kk, .string (mk kx), .slice pad plen pcap], slu (s.getD 0 false) (.pointer (some ⟨K3, 0, none⟩)) undef, slu (s.getD 1 false) (.int .i64 kk) undef, slu (s.getD 2 false) (.pointer (some ⟨K3, 1, none⟩)) undef, slu (s.getD 3 false) (.string (mk kx)) undef, slu (s.getD 4 false) (.pointer (some ⟨K, 0, none⟩)) undef, slu (s.getD 5 false) (.int .i64 (a : Int)) undef, slu (s.getD 6 false) (.string (mk an)) undef, slu (s.getD 7 false) (.agg #[.int .i64 kk, .string (mk kx), .string (mk an), .slice none 0 0]) undef, undef, undef, undef, undef, undef, undef, undef, undef, undef, undef, undef, undef, undef, undef, undef, undef, undef, undef, undef, undef, undef, undef, undef, undef, undef, undef, undef, undef, undef, undef, undef, undef, undef, undef, undef, undef, undef, undef], defers := [] }) (fun (e : R5E) (s : List Bool) => e.W) ?hS ?hF ⟨0, W2.drew⟩ ⟨jb5, fun h => absurd h (by decide), clo_nil _ _⟩ rfl rfl
    case hS =>
      rintro e s hJ hl i hi' hbi hd Kk hK
      have hcl := clo_set hJ.2.2 (i := i) (by rw [hl]; exact hi') hd
      match s, hl with
      | [b0, b1, b2, b3, b4, b5, b6, b7, b8, b9], _ =>
        obtain ⟨JB, J8, JC⟩ := hJ
        simp only [List.getD_cons_zero, List.getD_cons_succ] at J8 ⊢
        have hi2 : i = 0 ∨ i = 1 ∨ i = 2 ∨ i = 3 ∨ i = 4 ∨ i = 5 ∨ i = 6 ∨ i = 7 ∨ i = 8 ∨ i = 9 := by omega
        rcases hi2 with rfl | rfl | rfl | rfl | rfl | rfl | rfl | rfl | rfl | rfl
        · have g0 : b0 = false := hbi
          subst g0
          obtain ⟨y0, y1, y2⟩ := JB.out.n.c3
          have hK2 := hK e ⟨JB, J8, hcl⟩
          clear hK hd hbi hcl JB J8 JC
          simp only [List.set_cons_zero, List.set_cons_succ, List.getD_cons_zero, List.getD_cons_succ, slu_t, slu_f] at hK2 ⊢
          refine wpOp_if rfl ?_
          go_simp
          exact hK2
        · have g1 : b1 = false := hbi
          have e0 : b0 = true := hd 0 (by simp [r5Dp])
          subst g1 e0
          obtain ⟨y0, y1, y2⟩ := JB.out.n.c3
          have hK2 := hK e ⟨JB, J8, hcl⟩
          clear hK hd hbi hcl JB J8 JC
          simp only [List.set_cons_zero, List.set_cons_succ, List.getD_cons_zero, List.getD_cons_succ, slu_t, slu_f] at hK2 ⊢
          refine wpOp_if rfl ?_
          go_simp
          exact hK2
        · have g2 : b2 = false := hbi
          subst g2
          obtain ⟨y0, y1, y2⟩ := JB.out.n.c3
          have hK2 := hK e ⟨JB, J8, hcl⟩
          clear hK hd hbi hcl JB J8 JC
          simp only [List.set_cons_zero, List.set_cons_succ, List.getD_cons_zero, List.getD_cons_succ, slu_t, slu_f] at hK2 ⊢
          refine wpOp_if rfl ?_
          go_simp
          exact hK2
        · have g3 : b3 = false := hbi
          have e2 : b2 = true := hd 2 (by simp [r5Dp])
          subst g3 e2
          obtain ⟨y0, y1, y2⟩ := JB.out.n.c3
          have hK2 := hK e ⟨JB, J8, hcl⟩
          clear hK hd hbi hcl JB J8 JC
          simp only [List.set_cons_zero, List.set_cons_succ, List.getD_cons_zero, List.getD_cons_succ, slu_t, slu_f] at hK2 ⊢
          refine wpOp_if rfl ?_
          go_simp
          exact hK2
        · have g4 : b4 = false := hbi
          subst g4
          obtain ⟨y0, y1, y2⟩ := JB.out.n.c3
          have hK2 := hK e ⟨JB, J8, hcl⟩
          clear hK hd hbi hcl JB J8 JC
          simp only [List.set_cons_zero, List.set_cons_succ, List.getD_cons_zero, List.getD_cons_succ, slu_t, slu_f] at hK2 ⊢
          refine wpOp_if rfl ?_
          go_simp
          exact hK2
        · have g5 : b5 = false := hbi
          subst g5
          obtain ⟨y0, y1, y2⟩ := JB.out.n.c3
          have hK2 := hK e ⟨JB, J8, hcl⟩
          clear hK hd hbi hcl JB J8 JC
          simp only [List.set_cons_zero, List.set_cons_succ, List.getD_cons_zero, List.getD_cons_succ, slu_t, slu_f] at hK2 ⊢
          refine wpOp_if rfl ?_
          go_simp
          exact hK2
        · have g6 : b6 = false := hbi
          have e4 : b4 = true := hd 4 (by simp [r5Dp])
          have e5 : b5 = true := hd 5 (by simp [r5Dp])
          have f7 : b7 = false := by cases hb : b7 with | false => rfl | true => exact absurd (show b6 = true from (JC 7 6 (by simp [r5Dp]) hb)) (by rw [g6]; simp)
          have f9 : b9 = false := by cases hb : b9 with | false => rfl | true => exact absurd (show b6 = true from (JC 7 6 (by simp [r5Dp]) (JC 9 7 (by simp [r5Dp]) hb))) (by rw [g6]; simp)
          subst g6 e4 e5 f7 f9
          refine wpOp_call rfl rfl _ _ _ rfl #[.pointer (some ⟨K, 0, none⟩), .int .i64 (a : Int)] (enters_of Tryz.func31 (by kernel_rfl) rfl _ _) (by simp [Act.eval, slu_t]) (HNm.out e.W _ _ JB.out.l) (fun ee w' hR => ?_)
          obtain ⟨rfl, B4⟩ := hR
          exact ⟨_, rfl, hK ⟨e.K2, w'⟩ ⟨JB.out.later B4.out, fun h => ⟨(J8 h).out.1, Nat.lt_of_lt_of_le (J8 h).out.2.1 B4.out.size, fun h9 => ((J8 h).out.2.2.1 h9).later B4.out, fun h9 => absurd h9 (by simp)⟩, hcl⟩⟩
        · have g7 : b7 = false := hbi
          have e1 : b1 = true := hd 1 (by simp [r5Dp])
          have e3 : b3 = true := hd 3 (by simp [r5Dp])
          have e6 : b6 = true := hd 6 (by simp [r5Dp])
          subst g7 e1 e3 e6
          obtain ⟨y0, y1, y2⟩ := JB.out.n.c3
          have hK2 := hK e ⟨JB, J8, hcl⟩
          clear hK hd hbi hcl JB J8 JC
          simp only [List.set_cons_zero, List.set_cons_succ, List.getD_cons_zero, List.getD_cons_succ, slu_t, slu_f] at hK2 ⊢
          refine wpOp_if rfl ?_
          go_simp
          exact hK2
        · have g8 : b8 = false := hbi
          have f9 : b9 = false := by cases hb : b9 with | false => rfl | true => exact absurd (show b8 = true from (JC 9 8 (by simp [r5Dp]) hb)) (by rw [g8]; simp)
          subst g8 f9
          have bA := below_alloc e.W (.cells zT 29)
          have hs := World.size_alloc e.W (.cells zT 29)
          have hK2 := hK ⟨e.W.heap.size, e.W.alloc (.cells zT 29)⟩ ⟨JB.out.later bA, fun _ => ⟨JB.out.sz, by show e.W.heap.size < _; rw [hs]; omega, fun _ => Bx.new _ _ _, fun h9 => absurd h9 (by simp)⟩, hcl⟩
          clear hK hd hbi hcl JB J8 JC bA hs
          simp only [List.set_cons_zero, List.set_cons_succ, List.getD_cons_zero, List.getD_cons_succ, slu_t, slu_f] at hK2 ⊢
          refine wpOp_if rfl ?_
          go_simp
          exact hK2
        · have g9 : b9 = false := hbi
          have e7 : b7 = true := hd 7 (by simp [r5Dp])
          have e8 : b8 = true := hd 8 (by simp [r5Dp])
          subst g9 e7 e8
          obtain ⟨h1, h2, h3, _⟩ := (J8 rfl).out
          have hz := h3 rfl
          obtain ⟨r0, r1, r2, r3⟩ := (show Bx e.W e.K2 #[.int .i64 0, .string ⟨#[]⟩, .string ⟨#[]⟩, .slice none 0 0] 29 from hz).c4
          have z0 := hz.fz 0
          have z1 := hz.fz 1
          have z2 := hz.fz 2
          have z3 := hz.fz 3
          have hK2 := hK ⟨e.K2, (((e.W.setCell ⟨e.K2, 0, none⟩ (.int .i64 kk)).setCell ⟨e.K2, 1, none⟩ (.string (mk kx))).setCell ⟨e.K2, 2, none⟩ (.string (mk an))).setCell ⟨e.K2, 3, none⟩ (.slice none 0 0)⟩ ⟨(((JB.out.set h1 0 _).set h1 1 _).set h1 2 _).set h1 3 _, fun _ => ⟨h1, by simpa [World.setCell] using h2, fun h9 => absurd h9 (by simp), fun _ => (((hz.set 0 _).set 1 _).set 2 _).set 3 _⟩, hcl⟩
          clear hK hd hbi hcl JB J8 JC h1 h2 h3 hz
          simp only [List.set_cons_zero, List.set_cons_succ, List.getD_cons_zero, List.getD_cons_succ, slu_t, slu_f] at hK2 ⊢
          refine wpOp_if rfl ?_
          go_simp
          exact hK2
    case hF =>
      rintro e ⟨JB, J8, JC⟩
      simp only [show List.replicate 10 true = [true, true, true, true, true, true, true, true, true, true] from rfl, List.getD_cons_zero, List.getD_cons_succ, slu_t]
      obtain ⟨K2, W3⟩ := e
      change Hid (R5B w0 W W2 W3 K CC KR K3 (.slice (some ⟨b, off, none⟩) len cap) rv sad scap S len S0 fl kk kx pad plen pcap) at JB
      obtain ⟨q1, q2, _, q4⟩ := (J8 rfl).out
      have q5 := q4 rfl
      change W2.heap.size ≤ K2 at q1
      change Bx W3 K2 #[.int .i64 kk, .string (mk kx), .string (mk an), .slice none 0 0] 29 at q5
      dsimp only
      clear J8 JC jb5
      have L3 : Hid (RlS w0 W3 K CC (.slice (some ⟨b, off, none⟩) len cap) rv sad scap S len S0 fl) := JB.out.l
      have X3 : Hid (Ex2 K CC W W3) := JB.out.x
      have N3 : Hid (Bx W3 K3 #[.int .i64 kk, .string (mk kx), .slice pad plen pcap] 47) := JB.out.n
      have HKt : Hid (Kt W3 KR K2 d kk kx an (.slice none 0 0) 0 [] []) := ⟨JB.out.r, q5, World.ownsRow_nil _ _ _ _, KdQ.nil _, rfl, by omega⟩
      have hK32 : K3 < K2 := by omega
      have c4 : W3.cell? ⟨K, 4, none⟩ = some (.bool fl) := L3.out.s.cell 4
      have z4 := L3.out.s.fz 4
      obtain ⟨d0, d1, d2⟩ := N3.out.c3
      clear JB q5 q4 q1
      go_upto_region 6 with fail
      refine wp_mergeV (fun vs => { tmps := #[.pointer (some ⟨K, 0, none⟩), .int .i64 (a : Int), .int .i64 (dp : Int), undef, undef, undef, .pointer (some ⟨KR, 0, none⟩), .pointer (some ⟨K3, 0, none⟩), .pointer (some ⟨K2, 0, none⟩), undef, .pointer (some ⟨K, 0, none⟩), .pointer (some ⟨K, 0, none⟩), .pointer (some ⟨K, 3, none⟩), .slice (some ⟨CC, 0, none⟩) len len, .int .i64 (a : Int), .pointer (some ⟨CC, a, none⟩), .bool false, undef, undef, undef, undef, .pointer (some ⟨K, 0, none⟩), .pointer (some ⟨K, 0, none⟩), .pointer (some ⟨K, 3, none⟩), .slice (some ⟨CC, 0, none⟩) len len, .int .i64 (a : Int), .pointer (some ⟨CC, a, none⟩), .pointer (some ⟨K, 0, none⟩), .pointer (some ⟨K, 0, none⟩), .pointer (some ⟨K, 0, none⟩), .pointer (some ⟨K, 0, none⟩), .slice (some ⟨b, off, none⟩) len cap, .int .i64 (a : Int), .pointer (some ⟨b, off + a * 3, none⟩), .agg #[.int .i64 kk, .string (mk kx), .slice pad plen pcap], .pointer (some ⟨K3, 0, none⟩), .int .i64 kk, .pointer (some ⟨K3, 1, none⟩), .string (mk kx), .pointer (some ⟨K, 0, none⟩), .int .i64 (a : Int), .string (mk an), .agg #[.int .i64 kk, .string (mk kx), .string (mk an), .slice none 0 0], vs 43, vs 44, vs 45, vs 46, vs 47, vs 48, vs 49, vs 50, vs 51, vs 52, vs 53, vs 54, vs 55, vs 56, vs 57, vs 58, undef, undef, undef, undef, undef, undef, undef, undef, undef, undef, undef, undef, undef, undef, undef, undef, undef, undef, undef, undef, undef, undef], defers := [] }) (I := fun w' => Hid (w' = W3.setCell ⟨K, 4, none⟩ (.bool fl1))) ?h1 ?h2
      case h1 =>
        cases fl
        · by_cases h5 : 5 ≤ kk
          · by_cases h64 : 64 ≤ dp
            · have h64i : (64 : Int) ≤ (dp : Int) := by omega
              have HF1 : Hid (fl1 = true) := by show _ = _; rw [hfl1, decide_eq_true h5, decide_eq_true h64]; rfl
              clear hfl1
              go_wp2_with fail
              try refine ⟨rfl, ?_⟩
              refine ⟨mf_leaf rfl, ?_⟩
              show Hid (_ = W3.setCell ⟨K, 4, none⟩ (.bool fl1))
              rw [HF1.out]
              exact rfl
            · have h64i : ¬ (64 : Int) ≤ (dp : Int) := by omega
              have HF1 : Hid (fl1 = false) := by show _ = _; rw [hfl1, decide_eq_false h64, Bool.and_false]; rfl
              clear hfl1
              go_wp2_with fail
              try refine ⟨rfl, ?_⟩
              refine ⟨mf_leaf rfl, ?_⟩
              show Hid (_ = W3.setCell ⟨K, 4, none⟩ (.bool fl1))
              rw [HF1.out]
              exact rfl
          · have HF1 : Hid (fl1 = false) := by show _ = _; rw [hfl1, decide_eq_false h5]; rfl
            clear hfl1
            go_wp2_with fail
            try refine ⟨rfl, ?_⟩
            refine ⟨mf_leaf rfl, ?_⟩
            show Hid (_ = W3.setCell ⟨K, 4, none⟩ (.bool fl1))
            rw [HF1.out]
            exact rfl
        · have HF1 : Hid (fl1 = true) := by show _ = _; rw [hfl1]; rfl
          clear hfl1
          go_wp2_with fail
          try refine ⟨rfl, ?_⟩
          refine ⟨mf_leaf rfl, ?_⟩
          show Hid (_ = W3.setCell ⟨K, 4, none⟩ (.bool fl1))
          rw [HF1.out]
          exact rfl
      case h2 =>
        intro vs W4 HW4
        have L4 : Hid (RlS w0 W4 K CC (.slice (some ⟨b, off, none⟩) len cap) rv sad scap S len S0 fl1) := by rw [HW4.out]; exact L3.out.flag fl1
        have X4 : Hid (Ex2 K CC W W4) := by rw [HW4.out]; exact X3.out.set1 4 _
        have XX : Hid (Ex2 K CC W3 W4) := by rw [HW4.out]; exact (Ex2.refl K CC W3).set1 4 _
        have N4 : Hid (Bx W4 K3 #[.int .i64 kk, .string (mk kx), .slice pad plen pcap] 47) := (XX.out.block K3 N3.out.lt (by omega) (by omega)).trans N3.out
        have HK4 : Hid (Kt W4 KR K2 d kk kx an (.slice none 0 0) 0 [] []) := kt_ex2 HKt.out XX.out k1 k2
        clear HW4 XX L3 X3 N3 HKt c4 z4 d0 d1 d2 hfl1
        dsimp only
        go_wp2_with fail
        go_loopw [9] (fun i wr => ∃ (j : Nat) (u : Value) (xs : List Value) (ts : List Tr) (o : List Nat) (f : Bool), j ≤ plen ∧ i = .int .i64 j ∧ Hid (Kt wr KR K2 d kk kx an u j xs ts) ∧ Hid (RlS w0 wr K CC (.slice (some ⟨b, off, none⟩) len cap) rv sad scap S len o f) ∧ Hid (Ex2 K CC W wr) ∧ Hid (Bx wr K3 #[.int .i64 kk, .string (mk kx), .slice pad plen pcap] 47) ∧ Hid (ts = (lyK (lyT ns (nmS S) d) (L.take j) S0).1 ∧ o = (lyK (lyT ns (nmS S) d) (L.take j) S0).2.1 ∧ (o, f) = fgK (fun b => fg ns d b (dp + 1)) (L.take j) (S0, fl1))) (fun i _ => plen - (intOf i).toNat)
        case atStart => exact ⟨0, _, [], [], S0, fl1, Nat.zero_le _, rfl, HK4, L4, X4, N4, ⟨rfl, rfl, rfl⟩⟩
        case round =>
          obtain ⟨j, u, xs, ts, o, f, hj, rfl, HK, HSS, HX, HN, HE⟩ := hrel
          clear HK4 L4 X4 N4
          obtain ⟨d0, d1, d2⟩ := HN.out.c3
          by_cases hlt : j < plen
          · obtain ⟨kb, koff, rfl, x0⟩ := HKC.out wr HSS.out.bl j hlt
            obtain ⟨p, hp, hpl, htk⟩ := HKA.out j hlt
            rw [hp] at x0
            have hk0 : (0 : Int) ≤ (j : Int) := by omega
            have hk1 : (j : Int) < (plen : Int) := by omega
            go_upto_region 10 with fail
            have HPJ : Hid (ll.getD j 0 = (p : Int)) := hp
            obtain ⟨ok1, ok2⟩ : OkO len o ∧ len < d + o.length := by
              obtain ⟨nw, R⟩ := ly_k (ly_t (nm := nmS S) HDK.out d) (L.take j) S0 HOK.out.1 (fun c hc => HKT.out c (List.mem_of_mem_take hc)) HOK.out.2
              rw [HE.out.2.1]
              exact ⟨R.ok, by rw [R.e, List.length_append]; have := HOK.out.2; omega⟩
            obtain ⟨o2, ho2⟩ : ∃ o2, o2 = (lyT ns (nmS S) d p o).2.1 := ⟨_, rfl⟩
            obtain ⟨T2, hT2⟩ : ∃ T2, T2 = (lyT ns (nmS S) d p o).1 := ⟨_, rfl⟩
            obtain ⟨f2, hf2⟩ : ∃ f2, f2 = (fg ns d p (dp + 1) (o, f)).2 := ⟨_, rfl⟩
            have HE2 : Hid (ts ++ [T2] = (lyK (lyT ns (nmS S) d) (L.take (j + 1)) S0).1 ∧ o2 = (lyK (lyT ns (nmS S) d) (L.take (j + 1)) S0).2.1 ∧ (o2, f2) = fgK (fun b => fg ns d b (dp + 1)) (L.take (j + 1)) (S0, fl1)) := by
              show _ ∧ _ ∧ _
              obtain ⟨q1, q2⟩ := lyK_snoc (f := lyT ns (nmS S) d) p (L.take j) S0
              rw [htk, q1, q2, fgK_snoc, ← HE.out.1, ← HE.out.2.1, ← HE.out.2.2, ho2, hT2, hf2, ← fg_out (nmS S) d p (dp + 1) (o, f)]
              exact ⟨rfl, rfl, rfl⟩
            have HCl : Hid (∀ W', Hid (RlS w0 W' K CC (.slice (some ⟨b, off, none⟩) len cap) rv sad scap S len o f) → Calls Tryz.prog 19 #[.pointer (some ⟨K, 0, none⟩), .int .i64 (p : Int), .int .i64 ((dp : Int) + 1)] W' (RRes w0 W' K CC (.slice (some ⟨b, off, none⟩) len cap) rv sad scap S len d T2 o2 f2)) := fun W' h => by
              rw [hT2, ho2, hf2]
              exact HI.out p (dp + 1) o f W' ok1 hpl ok2 (by omega) h.out
            clear ho2 hT2 hf2 ok1 ok2 HE HI hp htk
            have HKN : Hid (K < KR ∧ CC < KR ∧ w0.heap.size ≤ KR ∧ W.heap.size = KR ∧ KR < K3 ∧ K3 < K2) := ⟨k1, k2, k3, hKK, hK3, hK32⟩
            have HLd : Hid (∀ W', Kt W' KR K2 d kk kx an u j xs ts → Below w0.heap.size w0 W' → Bx W' K3 #[.int .i64 kk, .string (mk kx), .slice (some ⟨kb, koff, none⟩) plen pcap] 47 → W'.cell? ⟨K2, 3, none⟩ = some u ∧ W'.cell? ⟨K3, 2, none⟩ = some (.slice (some ⟨kb, koff, none⟩) plen pcap) ∧ W'.cell? ⟨kb, koff + j, none⟩ = some (.int .i64 (p : Int))) := fun W' h1 h2 h3 => by
              obtain ⟨kb', koff', e1, e2⟩ := HKC.out W' h2 j hlt
              cases e1
              exact ⟨h1.bx.c4.2.2.2, h3.c3.2.2, by rw [e2, HPJ.out]⟩
            have hob : ∀ q, u.ownBlock = some q → q < wr.heap.size := fun q hq => (own_blk HK.out.own hq).2
            have jq0 : Hid (Kt wr.drew KR K2 d kk kx an u j xs ts ∧ RlS w0 wr.drew K CC (.slice (some ⟨b, off, none⟩) len cap) rv sad scap S len o f ∧ Ex2 K CC W wr.drew ∧ Bx wr.drew K3 #[.int .i64 kk, .string (mk kx), .slice (some ⟨kb, koff, none⟩) plen pcap] 47 ∧ wr.heap.size ≤ wr.drew.heap.size) := ⟨kt_later HK.out (Below.refl _ wr).drew, HSS.out.later (Below.refl _ wr).drew, HX.out.trans (Ex2.of (Below.refl _ wr).drew), HN.out.later (Below.refl _ wr).drew, Nat.le_refl _⟩
            have hKW2 : K2 + 1 ≤ wr.heap.size := HK.out.bx.lt
            clear d0 d1 d2 x0 HK HSS HX HN
            refine wp_region_E hmix (N := 15) (dp := r10Dp) (by kernel_rfl) (E := R10E) (fun (e : R10E) (s : List Bool) => (s.getD 10 false = false → Hid (Kt e.W KR K2 d kk kx an u j xs ts ∧ RlS w0 e.W K CC (.slice (some ⟨b, off, none⟩) len cap) rv sad scap S len o f ∧ Ex2 K CC W e.W ∧ Bx e.W K3 #[.int .i64 kk, .string (mk kx), .slice (some ⟨kb, koff, none⟩) plen pcap] 47 ∧ wr.heap.size ≤ e.W.heap.size)) ∧ (s.getD 10 false = true → s.getD 12 false = false → Hid (Kt e.W KR K2 d kk kx an u j xs ts ∧ RlS w0 e.W K CC (.slice (some ⟨b, off, none⟩) len cap) rv sad scap S len o2 f2 ∧ Ex2 K CC W e.W ∧ Bx e.W K3 #[.int .i64 kk, .string (mk kx), .slice (some ⟨kb, koff, none⟩) plen pcap] 47 ∧ wr.heap.size ≤ e.W.heap.size ∧ TrP wr.heap.size e.W d (.agg #[.int .i64 e.k, .string e.x, .string e.y, .slice e.ad e.l e.c]) T2)) ∧ (s.getD 11 false = true → s.getD 12 false = false → Hid (Bx e.W e.B #[.int .i64 e.k, .string e.x, .string e.y, .slice e.ad e.l e.c] 29)) ∧ (s.getD 12 false = true → s.getD 14 false = false → Hid (∃ A : World, (Kt A KR K2 d kk kx an u j xs ts ∧ RlS w0 A K CC (.slice (some ⟨b, off, none⟩) len cap) rv sad scap S len o2 f2 ∧ Ex2 K CC W A ∧ Bx A K3 #[.int .i64 kk, .string (mk kx), .slice (some ⟨kb, koff, none⟩) plen pcap] 47 ∧ wr.heap.size ≤ A.heap.size ∧ TrP wr.heap.size A d (.agg #[.int .i64 e.k, .string e.x, .string e.y, .slice e.ad e.l e.c]) T2) ∧ e.W.ownsRow (K2 + 1) 29 4 e.v (j + 1) (xs ++ [.int .i64 e.k, .string e.x, .string e.y, .slice e.ad e.l e.c]) ∧ A.grownBy e.W u.ownBlock ∧ (e.v.ownBlock = u.ownBlock ∨ e.v.ownBlock = some A.heap.size))) ∧ (s.getD 14 false = true → Hid (Kt e.W KR K2 d kk kx an e.v (j + 1) (xs ++ [.int .i64 e.k, .string e.x, .string e.y, .slice e.ad e.l e.c]) (ts ++ [T2]) ∧ RlS w0 e.W K CC (.slice (some ⟨b, off, none⟩) len cap) rv sad scap S len o2 f2 ∧ Ex2 K CC W e.W ∧ Bx e.W K3 #[.int .i64 kk, .string (mk kx), .slice (some ⟨kb, koff, none⟩) plen pcap] 47)) ∧ clo r10Dp s) (fun (e : R10E) (s : List Bool) => { tmps := #[.pointer (some ⟨K, 0, none⟩), .int .i64 (a : Int), .int .i64 (dp : Int), undef, undef, undef, .pointer (some ⟨KR, 0, none⟩), .pointer (some ⟨K3, 0, none⟩), .pointer (some ⟨K2, 0, none⟩), .int .i64 (j : Int), .pointer (some ⟨K, 0, none⟩), .pointer (some ⟨K, 0, none⟩), .pointer (some ⟨K, 3, none⟩), .slice (some ⟨CC, 0, none⟩) len len, .int .i64 (a : Int), .pointer (some ⟨CC, a, none⟩), .bool false, undef, undef, undef, undef, .pointer (some ⟨K, 0, none⟩), .pointer (some ⟨K, 0, none⟩), .pointer (some ⟨K, 3, none⟩), .slice (some ⟨CC, 0, none⟩) len len, .int .i64 (a : Int), .pointer (some ⟨CC, a, none⟩), .pointer (some ⟨K, 0, none⟩), .pointer (some ⟨K, 0, none⟩), .pointer (some ⟨K, 0, none⟩), .pointer (some ⟨K, 0, none⟩), .slice (some ⟨b, off, none⟩) len cap, .int .i64 (a : Int), .pointer (some ⟨b, off + a * 3, none⟩), .agg #[.int .i64 kk, .string (mk kx), .slice (some ⟨kb, koff, none⟩) plen pcap], .pointer (some ⟨K3, 0, none⟩), .int .i64 kk, .pointer (some ⟨K3, 1, none⟩), .string (mk kx), .pointer (some ⟨K, 0, none⟩), .int .i64 (a : Int), .string (mk an), .agg #[.int .i64 kk, .string (mk kx), .string (mk an), .slice none 0 0], vs 43, vs 44, vs 45, vs 46, vs 47, vs 48, vs 49, vs 50, vs 51, vs 52, vs 53, vs 54, vs 55, vs 56, vs 57, vs 58, .int .i64 (j : Int), .pointer (some ⟨K3, 2, none⟩), .slice (some ⟨kb, koff, none⟩) plen pcap, .int .i64 (plen : Int), .bool true, u64, u65, slu (s.getD 0 false) (.pointer (some ⟨K2, 3, none⟩)) u66, slu (s.getD 1 false) (u) u67, slu (s.getD 2 false) (.pointer (some ⟨K, 0, none⟩)) u68, slu (s.getD 3 false) (.pointer (some ⟨K3, 2, none⟩)) u69, slu (s.getD 4 false) (.slice (some ⟨kb, koff, none⟩) plen pcap) u70, slu (s.getD 5 false) (.int .i64 (j : Int)) u71, slu (s.getD 6 false) (.pointer (some ⟨kb, koff + j, none⟩)) u72, slu (s.getD 7 false) (.int .i64 (p : Int)) u73, slu (s.getD 8 false) (.int .i64 (dp : Int)) u74, slu (s.getD 9 false) (.int .i64 ((dp : Int) + 1)) u75, slu (s.getD 10 false) (.agg #[.int .i64 e.k, .string e.x, .string e.y, .slice e.ad e.l e.c]) u76, slu (s.getD 11 false) (.slice (some ⟨e.B, 0, none⟩) 1 1) u77, slu (s.getD 12 false) (e.v) u78, slu (s.getD 13 false) (.pointer (some ⟨K2, 3, none⟩)) u79, undef], defers := [] }) (fun (e : R10E) (s : List Bool) => e.W) ?hS ?hF ⟨0, ⟨#[]⟩, ⟨#[]⟩, none, 0, 0, 0, .slice none 0 0, wr.drew⟩ ⟨fun _ => jq0, fun h => absurd h (by simp), fun h => absurd h (by simp), fun h => absurd h (by simp), fun h => absurd h (by simp), clo_nil _ _⟩ rfl rfl
            case hS =>
              rintro e s hJ hl i hi' hbi hd Kk hK
              have hcl := clo_set hJ.2.2.2.2.2 (i := i) (by rw [hl]; exact hi') hd
              match s, hl with
              | [b0, b1, b2, b3, b4, b5, b6, b7, b8, b9, b10, b11, b12, b13, b14], _ =>
                obtain ⟨J0, J1, J2, J3, J4, JC⟩ := hJ
                simp only [List.getD_cons_zero, List.getD_cons_succ] at J0 J1 J2 J3 J4 ⊢
                have hi2 : i = 0 ∨ i = 1 ∨ i = 2 ∨ i = 3 ∨ i = 4 ∨ i = 5 ∨ i = 6 ∨ i = 7 ∨ i = 8 ∨ i = 9 ∨ i = 10 ∨ i = 11 ∨ i = 12 ∨ i = 13 ∨ i = 14 := by omega
                rcases hi2 with rfl | rfl | rfl | rfl | rfl | rfl | rfl | rfl | rfl | rfl | rfl | rfl | rfl | rfl | rfl
                · have g0 : b0 = false := hbi
                  subst g0
                  have hK2 := hK e ⟨J0, J1, J2, J3, J4, hcl⟩
                  clear hK hd hbi hcl J0 J1 J2 J3 J4 JC
                  simp only [List.set_cons_zero, List.set_cons_succ, List.getD_cons_zero, List.getD_cons_succ, slu_t, slu_f] at hK2 ⊢
                  refine wpOp_if rfl ?_
                  go_simp
                  exact hK2
                · have g1 : b1 = false := hbi
                  have e0 : b0 = true := hd 0 (by simp [r10Dp])
                  have f12 : b12 = false := by cases hb : b12 with | false => rfl | true => exact absurd (show b1 = true from (JC 12 1 (by simp [r10Dp]) hb)) (by rw [g1]; simp)
                  subst g1 e0 f12
                  obtain ⟨y0, y1, y2⟩ : e.W.cell? ⟨K2, 3, none⟩ = some u ∧ e.W.cell? ⟨K3, 2, none⟩ = some (.slice (some ⟨kb, koff, none⟩) plen pcap) ∧ e.W.cell? ⟨kb, koff + j, none⟩ = some (.int .i64 (p : Int)) := by
                    cases hb10 : b10
                    · obtain ⟨h1, h2, _, h4, _⟩ := (J0 hb10).out
                      exact HLd.out e.W h1 h2.bl h4
                    · obtain ⟨h1, h2, _, h4, _⟩ := (J1 hb10 rfl).out
                      exact HLd.out e.W h1 h2.bl h4
                  have hK2 := hK e ⟨J0, J1, J2, J3, J4, hcl⟩
                  clear hK hd hbi hcl J0 J1 J2 J3 J4 JC
                  simp only [List.set_cons_zero, List.set_cons_succ, List.getD_cons_zero, List.getD_cons_succ, slu_t, slu_f] at hK2 ⊢
                  refine wpOp_if rfl ?_
                  go_simp
                  exact hK2
                · have g2 : b2 = false := hbi
                  subst g2
                  have hK2 := hK e ⟨J0, J1, J2, J3, J4, hcl⟩
                  clear hK hd hbi hcl J0 J1 J2 J3 J4 JC
                  simp only [List.set_cons_zero, List.set_cons_succ, List.getD_cons_zero, List.getD_cons_succ, slu_t, slu_f] at hK2 ⊢
                  refine wpOp_if rfl ?_
                  go_simp
                  exact hK2
                · have g3 : b3 = false := hbi
                  subst g3
                  have hK2 := hK e ⟨J0, J1, J2, J3, J4, hcl⟩
                  clear hK hd hbi hcl J0 J1 J2 J3 J4 JC
                  simp only [List.set_cons_zero, List.set_cons_succ, List.getD_cons_zero, List.getD_cons_succ, slu_t, slu_f] at hK2 ⊢
                  refine wpOp_if rfl ?_
                  go_simp
                  exact hK2
                · have g4 : b4 = false := hbi
                  have e3 : b3 = true := hd 3 (by simp [r10Dp])
                  have f12 : b12 = false := by cases hb : b12 with | false => rfl | true => exact absurd (show b4 = true from (JC 6 4 (by simp [r10Dp]) (JC 7 6 (by simp [r10Dp]) (JC 10 7 (by simp [r10Dp]) (JC 11 10 (by simp [r10Dp]) (JC 12 11 (by simp [r10Dp]) hb)))))) (by rw [g4]; simp)
                  subst g4 e3 f12
                  obtain ⟨y0, y1, y2⟩ : e.W.cell? ⟨K2, 3, none⟩ = some u ∧ e.W.cell? ⟨K3, 2, none⟩ = some (.slice (some ⟨kb, koff, none⟩) plen pcap) ∧ e.W.cell? ⟨kb, koff + j, none⟩ = some (.int .i64 (p : Int)) := by
                    cases hb10 : b10
                    · obtain ⟨h1, h2, _, h4, _⟩ := (J0 hb10).out
                      exact HLd.out e.W h1 h2.bl h4
                    · obtain ⟨h1, h2, _, h4, _⟩ := (J1 hb10 rfl).out
                      exact HLd.out e.W h1 h2.bl h4
                  have hK2 := hK e ⟨J0, J1, J2, J3, J4, hcl⟩
                  clear hK hd hbi hcl J0 J1 J2 J3 J4 JC
                  simp only [List.set_cons_zero, List.set_cons_succ, List.getD_cons_zero, List.getD_cons_succ, slu_t, slu_f] at hK2 ⊢
                  refine wpOp_if rfl ?_
                  go_simp
                  exact hK2
                · have g5 : b5 = false := hbi
                  subst g5
                  have hK2 := hK e ⟨J0, J1, J2, J3, J4, hcl⟩
                  clear hK hd hbi hcl J0 J1 J2 J3 J4 JC
                  simp only [List.set_cons_zero, List.set_cons_succ, List.getD_cons_zero, List.getD_cons_succ, slu_t, slu_f] at hK2 ⊢
                  refine wpOp_if rfl ?_
                  go_simp
                  exact hK2
                · have g6 : b6 = false := hbi
                  have e4 : b4 = true := hd 4 (by simp [r10Dp])
                  have e5 : b5 = true := hd 5 (by simp [r10Dp])
                  subst g6 e4 e5
                  have hK2 := hK e ⟨J0, J1, J2, J3, J4, hcl⟩
                  clear hK hd hbi hcl J0 J1 J2 J3 J4 JC
                  simp only [List.set_cons_zero, List.set_cons_succ, List.getD_cons_zero, List.getD_cons_succ, slu_t, slu_f] at hK2 ⊢
                  refine wpOp_if rfl ?_
                  go_simp
                  exact hK2
                · have g7 : b7 = false := hbi
                  have e6 : b6 = true := hd 6 (by simp [r10Dp])
                  have f12 : b12 = false := by cases hb : b12 with | false => rfl | true => exact absurd (show b7 = true from (JC 10 7 (by simp [r10Dp]) (JC 11 10 (by simp [r10Dp]) (JC 12 11 (by simp [r10Dp]) hb)))) (by rw [g7]; simp)
                  subst g7 e6 f12
                  obtain ⟨y0, y1, y2⟩ : e.W.cell? ⟨K2, 3, none⟩ = some u ∧ e.W.cell? ⟨K3, 2, none⟩ = some (.slice (some ⟨kb, koff, none⟩) plen pcap) ∧ e.W.cell? ⟨kb, koff + j, none⟩ = some (.int .i64 (p : Int)) := by
                    cases hb10 : b10
                    · obtain ⟨h1, h2, _, h4, _⟩ := (J0 hb10).out
                      exact HLd.out e.W h1 h2.bl h4
                    · obtain ⟨h1, h2, _, h4, _⟩ := (J1 hb10 rfl).out
                      exact HLd.out e.W h1 h2.bl h4
                  have hK2 := hK e ⟨J0, J1, J2, J3, J4, hcl⟩
                  clear hK hd hbi hcl J0 J1 J2 J3 J4 JC
                  simp only [List.set_cons_zero, List.set_cons_succ, List.getD_cons_zero, List.getD_cons_succ, slu_t, slu_f] at hK2 ⊢
                  refine wpOp_if rfl ?_
                  go_simp
                  exact hK2
                · have g8 : b8 = false := hbi
                  subst g8
                  have hK2 := hK e ⟨J0, J1, J2, J3, J4, hcl⟩
                  clear hK hd hbi hcl J0 J1 J2 J3 J4 JC
                  simp only [List.set_cons_zero, List.set_cons_succ, List.getD_cons_zero, List.getD_cons_succ, slu_t, slu_f] at hK2 ⊢
                  refine wpOp_if rfl ?_
                  go_simp
                  exact hK2
                · have g9 : b9 = false := hbi
                  have e8 : b8 = true := hd 8 (by simp [r10Dp])
                  have f10 : b10 = false := by cases hb : b10 with | false => rfl | true => exact absurd (show b9 = true from (JC 10 9 (by simp [r10Dp]) hb)) (by rw [g9]; simp)
                  have f11 : b11 = false := by cases hb : b11 with | false => rfl | true => exact absurd (show b9 = true from (JC 10 9 (by simp [r10Dp]) (JC 11 10 (by simp [r10Dp]) hb))) (by rw [g9]; simp)
                  have f12 : b12 = false := by cases hb : b12 with | false => rfl | true => exact absurd (show b9 = true from (JC 10 9 (by simp [r10Dp]) (JC 11 10 (by simp [r10Dp]) (JC 12 11 (by simp [r10Dp]) hb)))) (by rw [g9]; simp)
                  have f14 : b14 = false := by cases hb : b14 with | false => rfl | true => exact absurd (show b9 = true from (JC 10 9 (by simp [r10Dp]) (JC 11 10 (by simp [r10Dp]) (JC 12 11 (by simp [r10Dp]) (JC 14 12 (by simp [r10Dp]) hb))))) (by rw [g9]; simp)
                  subst g9 e8 f10 f11 f12 f14
                  have hK2 := hK e ⟨J0, J1, J2, J3, J4, hcl⟩
                  clear hK hd hbi hcl J0 J1 J2 J3 J4 JC
                  simp only [List.set_cons_zero, List.set_cons_succ, List.getD_cons_zero, List.getD_cons_succ, slu_t, slu_f] at hK2 ⊢
                  refine wpOp_if rfl ?_
                  go_simp
                  rw [show IntKind.i64.wrap ((dp : Int) + 1) = (dp : Int) + 1 by rw [IntKind.wrap_i64]; omega]
                  exact hK2
                · have g10 : b10 = false := hbi
                  have e2 : b2 = true := hd 2 (by simp [r10Dp])
                  have e7 : b7 = true := hd 7 (by simp [r10Dp])
                  have e9 : b9 = true := hd 9 (by simp [r10Dp])
                  have f11 : b11 = false := by cases hb : b11 with | false => rfl | true => exact absurd (show b10 = true from (JC 11 10 (by simp [r10Dp]) hb)) (by rw [g10]; simp)
                  have f12 : b12 = false := by cases hb : b12 with | false => rfl | true => exact absurd (show b10 = true from (JC 11 10 (by simp [r10Dp]) (JC 12 11 (by simp [r10Dp]) hb))) (by rw [g10]; simp)
                  have f14 : b14 = false := by cases hb : b14 with | false => rfl | true => exact absurd (show b10 = true from (JC 11 10 (by simp [r10Dp]) (JC 12 11 (by simp [r10Dp]) (JC 14 12 (by simp [r10Dp]) hb)))) (by rw [g10]; simp)
                  subst g10 e2 e7 e9 f11 f12 f14
                  obtain ⟨h1, h2, h3, h4, h5⟩ := (J0 rfl).out
                  refine wpOp_call rfl rfl _ _ _ rfl #[.pointer (some ⟨K, 0, none⟩), .int .i64 (p : Int), .int .i64 ((dp : Int) + 1)] (enters_of Tryz.func19 (by kernel_rfl) rfl _ _) (by simp [Act.eval, slu_t]) (HCl.out e.W h2) (fun ee w' hR => ?_)
                  obtain ⟨rk, rx, ry, rad, rl, rc, rfl, HT, HL5, HX5⟩ := hR
                  obtain ⟨g1, g2, g3, g4, g5, g6⟩ := HKN.out
                  refine ⟨_, rfl, hK ⟨rk, rx, ry, rad, rl, rc, e.B, e.v, w'⟩ ⟨fun h => absurd h (by simp), fun _ _ => ⟨kt_ex2 h1 HX5.out g1 g2, HL5.out, h3.trans HX5.out, (HX5.out.block K3 h4.lt (by omega) (by omega)).trans h4, Nat.le_trans h5 HX5.out.size, HT.out.mono h5⟩, fun h => absurd h (by simp), fun h => absurd h (by simp), fun h => absurd h (by simp), hcl⟩⟩
                · have g11 : b11 = false := hbi
                  have e10 : b10 = true := hd 10 (by simp [r10Dp])
                  have f12 : b12 = false := by cases hb : b12 with | false => rfl | true => exact absurd (show b11 = true from (JC 12 11 (by simp [r10Dp]) hb)) (by rw [g11]; simp)
                  have f14 : b14 = false := by cases hb : b14 with | false => rfl | true => exact absurd (show b11 = true from (JC 12 11 (by simp [r10Dp]) (JC 14 12 (by simp [r10Dp]) hb))) (by rw [g11]; simp)
                  subst g11 e10 f12 f14
                  have bA := below_alloc e.W (.cells #[.int .i64 e.k, .string e.x, .string e.y, .slice e.ad e.l e.c] 29)
                  obtain ⟨h1, h2, h3, h4, h5, h6⟩ := (J1 rfl rfl).out
                  have hK2 := hK ⟨e.k, e.x, e.y, e.ad, e.l, e.c, e.W.heap.size, e.v, e.W.alloc (.cells #[.int .i64 e.k, .string e.x, .string e.y, .slice e.ad e.l e.c] 29)⟩ ⟨fun h => absurd h (by simp), fun _ _ => ⟨kt_later h1 bA, h2.later bA, h3.trans (Ex2.of bA), h4.later bA, Nat.le_trans h5 bA.size, h6.later bA⟩, fun _ _ => Bx.new _ _ _, fun h => absurd h (by simp), fun h => absurd h (by simp), hcl⟩
                  clear hK hd hbi hcl J0 J1 J2 J3 J4 JC bA h1 h2 h3 h4 h5 h6
                  simp only [List.set_cons_zero, List.set_cons_succ, List.getD_cons_zero, List.getD_cons_succ, slu_t, slu_f] at hK2 ⊢
                  refine wpOp_if rfl ?_
                  go_simp
                  exact hK2
                · have g12 : b12 = false := hbi
                  have e1 : b1 = true := hd 1 (by simp [r10Dp])
                  have e11 : b11 = true := hd 11 (by simp [r10Dp])
                  have x10 : b10 = true := (JC 11 10 (by simp [r10Dp]) e11)
                  have f14 : b14 = false := by cases hb : b14 with | false => rfl | true => exact absurd (show b12 = true from (JC 14 12 (by simp [r10Dp]) hb)) (by rw [g12]; simp)
                  subst g12 e1 e11 x10 f14
                  have h0 := (J1 rfl rfl).out
                  have hB := (J2 rfl rfl).out
                  have hW2 : K2 + 1 ≤ e.W.heap.size := Nat.le_trans hKW2 h0.2.2.2.2.1
                  refine wpOp_if rfl (step_append_at rfl (.tmp 67) (.tmp 77) 27 rfl (K2 + 1) 29 it (.agg zT) 4 64 Tryz.underlying27 hi hz0 hz1 hz2 rfl (by decide) u j xs (by simp [Act.eval, slu_t]) h0.1.own ⟨e.B, 0, none⟩ 1 1 [.int .i64 e.k, .string e.x, .string e.y, .slice e.ad e.l e.c] (by simp [Act.eval, slu_t]) rfl (bx_four hB) (one_four _ _ _ _ _ _) (by unfold maxLen; omega) (by omega) hW2 ?_)
                  intro v' w3 hown' hgrow hat
                  exact hK ⟨e.k, e.x, e.y, e.ad, e.l, e.c, e.B, v', w3⟩ ⟨fun h => absurd h (by simp), fun _ h => absurd h (by simp), fun _ h => absurd h (by simp), fun _ _ => ⟨e.W, h0, hown', hgrow, hat⟩, fun h => absurd h (by simp), hcl⟩
                · have g13 : b13 = false := hbi
                  subst g13
                  have hK2 := hK e ⟨J0, J1, J2, J3, J4, hcl⟩
                  clear hK hd hbi hcl J0 J1 J2 J3 J4 JC
                  simp only [List.set_cons_zero, List.set_cons_succ, List.getD_cons_zero, List.getD_cons_succ, slu_t, slu_f] at hK2 ⊢
                  refine wpOp_if rfl ?_
                  go_simp
                  exact hK2
                · have g14 : b14 = false := hbi
                  have e12 : b12 = true := hd 12 (by simp [r10Dp])
                  have e13 : b13 = true := hd 13 (by simp [r10Dp])
                  have x10 : b10 = true := (JC 11 10 (by simp [r10Dp]) (JC 12 11 (by simp [r10Dp]) e12))
                  have x11 : b11 = true := (JC 12 11 (by simp [r10Dp]) e12)
                  subst g14 e12 e13 x10 x11
                  obtain ⟨ek, ex, ey, ead, el, ec, eB, ev, eW⟩ := e
                  obtain ⟨A, ⟨h1, h2, h3, h4, h5, h6⟩, r1, r2, r3⟩ := (J3 rfl rfl).out
                  dsimp only at h1 h2 h3 h4 h5 h6 r1 r2 r3 hK ⊢
                  obtain ⟨va, vc, hv⟩ := own_shapeT r1
                  subst hv
                  obtain ⟨g1, g2, g3, g4, g5, g6⟩ := HKN.out
                  have hok := fun q (hq : u.ownBlock = some q) => own_blk h1.own hq
                  have hb3 : Bx eW K2 #[.int .i64 kk, .string (mk kx), .string (mk an), u] 29 := (r2.block K2 h1.bx.lt (fun e => by have := hok K2 e.symm; omega)).trans h1.bx
                  have c3 : eW.cell? ⟨K2, 3, none⟩ = some u := hb3.c4.2.2.2
                  have f3 := hb3.fz 3
                  have hkt := kt_more (t' := T2) h1 r1 r2 r3 (kdt_one h6 hKW2 hob)
                  have hrl : RlS w0 (eW.setCell ⟨K2, 3, none⟩ (.slice va (j + 1) vc)) K CC (.slice (some ⟨b, off, none⟩) len cap) rv sad scap S len o2 f2 := (h2.beside (W' := eW) g1 g2 HSB.out (h2.bl.grown r2 h2.bl.size (fun q hq => by have := hok q hq; omega)) r2.size (fun q hq => r2.block q (by have := h1.rb.lt; omega) (fun e => by have := hok q e.symm; omega))).fresh g1 g2 HSB.out g3 (by omega) 3 _
                  have hx2 : Ex2 K CC W (eW.setCell ⟨K2, 3, none⟩ (.slice va (j + 1) vc)) := (h3.grown r2 (fun q hq => by have := hok q hq; omega)).new (by omega) 3 _
                  have hn1 : Bx eW K3 #[.int .i64 kk, .string (mk kx), .slice (some ⟨kb, koff, none⟩) plen pcap] 47 := (r2.block K3 h4.lt (fun e => by have := hok K3 e.symm; omega)).trans h4
                  have hn2 : Bx (eW.setCell ⟨K2, 3, none⟩ (.slice va (j + 1) vc)) K3 #[.int .i64 kk, .string (mk kx), .slice (some ⟨kb, koff, none⟩) plen pcap] 47 := hn1.other (by omega) _ _
                  have hK2 := hK ⟨ek, ex, ey, ead, el, ec, eB, .slice va (j + 1) vc, eW.setCell ⟨K2, 3, none⟩ (.slice va (j + 1) vc)⟩ ⟨fun h => absurd h (by simp), fun _ h => absurd h (by simp), fun _ h => absurd h (by simp), fun _ h => absurd h (by simp), fun _ => ⟨hkt, hrl, hx2, hn2⟩, hcl⟩
                  clear hK hd hbi hcl J0 J1 J2 J3 J4 JC h1 h2 h3 h4 h5 h6 r1 r2 r3 hok hb3 hkt hrl hx2 hn1 hn2
                  simp only [List.set_cons_zero, List.set_cons_succ, List.getD_cons_zero, List.getD_cons_succ, slu_t, slu_f] at hK2 ⊢
                  refine wpOp_if rfl ?_
                  go_simp
                  exact hK2
            case hF =>
              rintro e ⟨J0, J1, J2, J3, J4, JC⟩
              simp only [show List.replicate 15 true = [true, true, true, true, true, true, true, true, true, true, true, true, true, true, true] from rfl, List.getD_cons_zero, List.getD_cons_succ, slu_t]
              obtain ⟨ek, ex, ey, ead, el, ec, eB, ev, eW⟩ := e
              have H4 := J4 rfl
              change Hid (Kt eW KR K2 d kk kx an ev (j + 1) (xs ++ [.int .i64 ek, .string ex, .string ey, .slice ead el ec]) (ts ++ [T2]) ∧ RlS w0 eW K CC (.slice (some ⟨b, off, none⟩) len cap) rv sad scap S len o2 f2 ∧ Ex2 K CC W eW ∧ Bx eW K3 #[.int .i64 kk, .string (mk kx), .slice (some ⟨kb, koff, none⟩) plen pcap] 47) at H4
              obtain ⟨h1, h2, h3, h4⟩ := H4.out
              have HK5 : Hid (Kt eW KR K2 d kk kx an ev (j + 1) _ (ts ++ [T2])) := h1
              have HL5 : Hid (RlS w0 eW K CC (.slice (some ⟨b, off, none⟩) len cap) rv sad scap S len o2 f2) := h2
              have HX5 : Hid (Ex2 K CC W eW) := h3
              have HN5 : Hid (Bx eW K3 #[.int .i64 kk, .string (mk kx), .slice (some ⟨kb, koff, none⟩) plen pcap] 47) := h4
              clear J0 J1 J2 J3 J4 JC H4 h1 h2 h3 h4 jq0 HCl HLd
              dsimp only
              go_wp2_with fail
              go_roundw
              case rel => exact ⟨j + 1, _, _, _, _, _, by omega, by go_num, HK5, HL5, HX5, HN5, HE2⟩
              case measure => (simp [intOf] <;> omega)
          · have e : j = plen := by omega
            have HTE : Hid (ts = RR.1 ∧ o = RR.2.1 ∧ f = FF.2) := by
              obtain ⟨h1, h2, h3⟩ := HE.out
              rw [e, List.take_of_length_le (by rw [HKL.out]; exact Nat.le_refl _)] at h1 h2 h3
              rw [← HRR.out] at h1 h2
              rw [← HFF.out] at h3
              exact ⟨h1, h2, congrArg Prod.snd h3⟩
            clear e HE
            obtain ⟨ua, ul, uc, rfl, n9, t9⟩ := kt_set HK.out hki hxl hal2
            obtain ⟨d0, d1, d2, d3⟩ := HK.out.bx.c4
            obtain ⟨r0, r1, r2, r3⟩ := (show Bx wr KR #[.int .i64 0, .string ⟨#[]⟩, .string ⟨#[]⟩, .slice none 0 0] 29 from HK.out.rb).c4
            have z0 := HK.out.rb.fz 0
            have z1 := HK.out.rb.fz 1
            have z2 := HK.out.rb.fz 2
            have z3 := HK.out.rb.fz 3
            have hwk : W.heap.size ≤ KR := by omega
            have HL9 : Hid (RlS w0 ((((wr.setCell ⟨KR, 0, none⟩ (.int .i64 kk)).setCell ⟨KR, 1, none⟩ (.string (mk kx))).setCell ⟨KR, 2, none⟩ (.string (mk an))).setCell ⟨KR, 3, none⟩ (.slice ua ul uc)) K CC (.slice (some ⟨b, off, none⟩) len cap) rv sad scap S len o f) :=
              (((HSS.out.fresh k1 k2 HSB.out k3 (Nat.le_refl _) 0 _).fresh k1 k2 HSB.out k3 (Nat.le_refl _) 1 _).fresh k1 k2 HSB.out k3 (Nat.le_refl _) 2 _).fresh k1 k2 HSB.out k3 (Nat.le_refl _) 3 _
            have HX9 : Hid (Ex2 K CC W ((((wr.setCell ⟨KR, 0, none⟩ (.int .i64 kk)).setCell ⟨KR, 1, none⟩ (.string (mk kx))).setCell ⟨KR, 2, none⟩ (.string (mk an))).setCell ⟨KR, 3, none⟩ (.slice ua ul uc))) :=
              (((HX.out.new hwk 0 _).new hwk 1 _).new hwk 2 _).new hwk 3 _
            have HT9 : Hid (TrP (K2 + 1) _ (d + 1) _ _) := t9
            have HN9 : Hid (Bx _ KR _ _) := n9
            have hne : K2 ≠ KR := by have := HK.out.h1; omega
            have HLE : Hid (W.heap.size ≤ K2 + 1) := by have := HK.out.h1; show _ ≤ _; omega
            clear t9 n9 HK HSS HX HN hwk
            go_wp2
            generalize (((wr.setCell ⟨KR, 0, none⟩ (.int .i64 kk)).setCell ⟨KR, 1, none⟩ (.string (mk kx))).setCell ⟨KR, 2, none⟩ (.string (mk an))).setCell ⟨KR, 3, none⟩ (.slice ua ul uc) = W9 at HL9 HX9 HT9 HN9 ⊢
            obtain ⟨g0, g1, g2, g3⟩ := HN9.out.c4
            refine bodyPost_ret (v := .agg #[.int .i64 kk, .string (mk kx), .string (mk an), .slice ua ul uc]) (by simp [results, Tryz.results19, go_sem, g0, g1, g2, g3]) rfl ?_
            refine ⟨kk, mk kx, mk an, ua, ul, uc, rfl, ?_, ?_, HX9⟩
            · rw [← HTE.out.1]
              exact HT9.out.mono HLE.out
            · rw [← HTE.out.2.1, ← HTE.out.2.2]
              exact HL9
theorem rtree_any {w0 : World} {b off len cap : Nat} {ns : List Nd} {rv : Value} {sad : Option Addr} {scap : Nat} {S : List Nat} (K CC : Nat) (hlen : len ≤ 4096) (hSl : S.length ≤ 100000) (hnm : ∀ a, (nmS S a).length ≤ 65536) (HC : CN w0 b off len ns) (HP : ∀ n ∈ ns, ∀ a ∈ n.kids, isP len a = true) (HL : len = ns.length) :
    ∀ (d a e : Nat) (out : List Nat) (fl : Bool) (W : World), OkO len out → a < len → len < d + out.length → e + d ≤ 10000 → RlS w0 W K CC (.slice (some ⟨b, off, none⟩) len cap) rv sad scap S len out fl →
      Calls Tryz.prog 19 #[.pointer (some ⟨K, 0, none⟩), .int .i64 (a : Int), .int .i64 (e : Int)] W (RRes w0 W K CC (.slice (some ⟨b, off, none⟩) len cap) rv sad scap S len d (lyT ns (nmS S) d a out).1 (lyT ns (nmS S) d a out).2.1 (fg ns d a e (out, fl)).2)
  | 0, a, e, out, fl, W, ho, _, hd, _, _ => absurd ho.le (by omega)
  | d + 1, a, e, out, fl, W, ho, ha, hd, he, hS => rtree_core K CC hlen hSl hnm HC HP HL d a e out fl W hS ho ha hd he (fun c e' out' fl' W' h1 h2 h3 h4 h5 => rtree_any K CC hlen hSl hnm HC HP HL d c e' out' fl' W' h1 h2 h3 h4 h5)
end Go.Proofs.YtaphijgbebhdlaaGreatDoor.Grp
end
