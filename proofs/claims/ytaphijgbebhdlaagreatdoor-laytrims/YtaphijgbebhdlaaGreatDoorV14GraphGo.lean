/- Several texts as one: GraphGo, GraphWalked, GraphOrdE. -/
import Derived.Test.YtaphijgbebhdlaaGreatDoorV13GraphDif
import Derived.Laws.AppendOwn
import Derived.Orders
import Derived.OrdersIn
import Derived.Maps.AppendAt
import Derived.Test.YtaphijgbebhdlaaGreatDoorV12GraphNe
section
/- Package graph's goTo, by its contract: it goes over what is reached as the plain walk does. -/
namespace Go.Proofs.YtaphijgbebhdlaaGreatDoor.Grp
open Utf Rws Pln Flw
open Go.RowKit
set_option linter.unusedSimpArgs false
set_option linter.unusedVariables false
set_option maxRecDepth 100000
set_option maxHeartbeats 4000000

/-- a row of ints -/
def iA (f : Nat → Int) (n : Nat) : Array Value := ((List.range n).map fun i => Value.int .i64 (f i)).toArray
theorem iA_get (f : Nat → Int) {n i : Nat} (h : i < n) : (iA f n)[i]? = some (.int .i64 (f i)) := by simp [iA, h]
theorem iA_set (f : Nat → Int) (n i : Nat) (v : Int) : (iA f n).setIfInBounds i (.int .i64 v) = iA (fun x => if x = i then v else f x) n := by
  apply Array.ext_getElem?
  intro k
  rw [Array.getElem?_setIfInBounds]
  by_cases hk : k < n
  · rw [iA_get _ hk, iA_get _ hk]
    by_cases e : i = k
    · subst e
      rw [if_pos rfl]
      simp [iA, hk]
    · rw [if_neg e]
      simp [Ne.symm e]
  · have e1 : (iA f n)[k]? = none := by simp [iA]; omega
    have e2 : (iA (fun x => if x = i then v else f x) n)[k]? = none := by simp [iA]; omega
    rw [e1, e2]
    split
    · simp [iA]; omega
    · rfl
theorem iA_congr {f g : Nat → Int} {n : Nat} (h : ∀ i, i < n → f i = g i) : iA f n = iA g n := by
  unfold iA
  congr 1
  exact List.map_congr_left fun i hi => by rw [h i (List.mem_range.1 hi)]
theorem iA_made (n : Nat) : madeCells #[Value.int .i64 0] n = iA (fun _ => 0) n := by rw [tA_made]; rfl
/-- at which one a place came, or never -/
def cm (out : List Nat) (x : Nat) : Int := if x ∈ out then (out.idxOf x : Int) else -1
theorem cm_snoc (out : List Nat) (a : Nat) (h : a ∉ out) (x : Nat) : cm (out ++ [a]) x = if x = a then (out.length : Int) else cm out x := by
  unfold cm
  by_cases e : x = a
  · subst e
    rw [if_pos (by simp), if_pos rfl, List.idxOf_append, if_neg h]
    simp
  · rw [if_neg e]
    by_cases m : x ∈ out
    · rw [if_pos (by simp [m]), if_pos m, List.idxOf_append, if_pos m]
    · rw [if_neg (by simp [m, e]), if_neg m]
/-- how many places have not come -/
def lft (len : Nat) (out : List Nat) : Nat := ((List.range len).filter (fun b => decide (b ∉ out))).length
theorem lft_snoc {len a : Nat} {out : List Nat} (h : a ∉ out) (ha : a < len) : lft len (out ++ [a]) + 1 = lft len out := by
  have k := filter_less (fun _ => [0]) out a h (List.range len) List.nodup_range (List.mem_range.2 ha)
  simp only [List.length_singleton, List.map_const', List.sum_replicate_nat, Nat.mul_one] at k
  exact k
theorem lft_app (len : Nat) (out r : List Nat) : lft len (out ++ r) ≤ lft len out := by
  unfold lft
  rw [show (fun b => decide (b ∉ out ++ r)) = (fun b => decide (b ∉ r) && decide (b ∉ out)) by funext b; simp [Bool.and_comm], ← List.filter_filter]
  exact List.length_filter_le _ _
/-- the Kids as places -/
def kd (ns : List Nd) (a : Nat) : List Nat := (ns.getD a nd0).kids.map Int.toNat
theorem kd_lt {ns : List Nd} {len : Nat} (h : ∀ n ∈ ns, ∀ a ∈ n.kids, isP len a = true) (hl : len = ns.length) : ∀ a, a < len → ∀ b ∈ kd ns a, b < len := by
  intro a ha b hb
  obtain ⟨c, hc, rfl⟩ := List.mem_map.1 hb
  obtain ⟨m, e, hm⟩ := isP_nat (h _ (mem_getD (by omega)) c hc)
  rw [e, Int.toNat_natCast]
  exact hm
/-- a walk in memory -/
structure WkS (w0 W : World) (K C : Nat) (nsl : Value) (len : Nat) (out : List Nat) (m : Nat) : Prop where
  s : ∃ ov, Bx W K #[nsl, ov, .slice (some ⟨C, 0, none⟩) len len, .int .i64 (m : Int)] 86 ∧ W.ownsRow (K + 1) 3 1 ov out.length (out.map fun a : Nat => Value.int .i64 (a : Int))
  c : Bx W C (iA (cm out) len) 3
  bl : Below w0.heap.size w0 W
  hk : w0.heap.size ≤ K
  hc : w0.heap.size ≤ C
  ck : C < K
  h5 : out.length + lft len out ≤ 5000
  h6 : m ≤ 5000
theorem own_later1 {base : Nat} {v : Value} {n : Nat} {xs : List Value} {w w' : World} {t : TypeId} (h : w.ownsRow base t 1 v n xs) (hk : ∀ g, base ≤ g → g < w.heap.size → w'.heap[g]? = w.heap[g]?) : w'.ownsRow base t 1 v n xs := by
  refine ⟨h.1, ?_⟩
  rcases h.2 with h2 | ⟨g, cap, cur, rfl, hb, hg, h3⟩
  · exact .inl h2
  · exact .inr ⟨g, cap, cur, rfl, hb, (hk g hb (Array.getElem?_eq_some_iff.1 hg).1).trans hg, h3⟩
theorem WkS.later {w0 W W' : World} {K C : Nat} {nsl : Value} {len : Nat} {out : List Nat} {m : Nat} (h : WkS w0 W K C nsl len out m) (hb : Below W.heap.size W W') : WkS w0 W' K C nsl len out m := by
  obtain ⟨ov, h1, h2⟩ := h.s
  exact ⟨⟨ov, h1.later hb, own_later1 h2 (fun g _ hg => hb.block g hg)⟩, h.c.later hb, h.bl.trans (hb.mono h.bl.size), h.hk, h.hc, h.ck, h.h5, h.h6⟩
theorem own_shape {base : Nat} {v : Value} {n : Nat} {xs : List Value} {w : World} {t : TypeId} (h : w.ownsRow base t 1 v n xs) : ∃ ad cap, v = .slice ad n cap := by
  rcases h.2 with ⟨h1, h2⟩ | ⟨g, cap, cur, h1, _⟩
  · exact ⟨none, 0, by rw [h1, h2]⟩
  · exact ⟨_, cap, h1⟩
/-- a place comes -/
theorem WkS.came {W : World} {K C : Nat} {nsl ov : Value} {len : Nat} {out : List Nat} {m a : Nat} (hb : Bx W K #[nsl, ov, .slice (some ⟨C, 0, none⟩) len len, .int .i64 (m : Int)] 86) (ho : W.ownsRow (K + 1) 3 1 ov out.length (out.map fun a : Nat => Value.int .i64 (a : Int)))
    (hc : Bx W C (iA (cm out) len) 3) (ck : C < K) (h : a ∉ out) : Bx (W.setCell ⟨C, a, none⟩ (.int .i64 (out.length : Int))) K #[nsl, ov, .slice (some ⟨C, 0, none⟩) len len, .int .i64 (m : Int)] 86 ∧
      (W.setCell ⟨C, a, none⟩ (.int .i64 (out.length : Int))).ownsRow (K + 1) 3 1 ov out.length (out.map fun a : Nat => Value.int .i64 (a : Int)) ∧ Bx (W.setCell ⟨C, a, none⟩ (.int .i64 (out.length : Int))) C (iA (cm (out ++ [a])) len) 3 := by
  refine ⟨hb.other (by omega) _ _, own_later1 ho (fun g hg _ => Below.heap_setCell _ _ _ _ (by show g ≠ C; omega)), ?_⟩
  have := hc.set a (.int .i64 (out.length : Int))
  rw [iA_set] at this
  rw [show iA (cm (out ++ [a])) len = iA (fun x => if x = a then (out.length : Int) else cm out x) len from iA_congr (fun i _ => cm_snoc out a h i)]
  exact this
theorem go_core {w0 : World} {ad : Option Addr} {len cap : Nat} {ns : List Nd} (K C : Nat) (hlen : len ≤ 4096) (HN : Hid (NAt w0 ad len ns)) (HK : Hid (∀ n ∈ ns, ∀ a ∈ n.kids, isP len a = true)) (hsum : sumK ns ≤ 1000000000)
    (a d m : Nat) (out : List Nat) (W : World) (HS : Hid (WkS w0 W K C (.slice ad len cap) len out m)) (ha : a < len) (hd : d + lft len out ≤ 5000)
    (HI : Hid (∀ (b e m' : Nat) (out' : List Nat) (W' : World), lft len out' < lft len out → WkS w0 W' K C (.slice ad len cap) len out' m' → b < len → e + lft len out' ≤ 5000 →
      Calls Tryz.prog 52 #[.pointer (some ⟨K, 0, none⟩), .int .i64 (b : Int), .int .i64 (e : Int)] W' fun r W'' => (∃ v, r = .returned v) ∧ WkS w0 W'' K C (.slice ad len cap) len (wk (kd ns) (ful (kd ns) len) [(b, e)] out' m').1 (wk (kd ns) (ful (kd ns) len) [(b, e)] out' m').2))  :
    Calls Tryz.prog 52 #[.pointer (some ⟨K, 0, none⟩), .int .i64 (a : Int), .int .i64 (d : Int)] W fun r W'' => (∃ v, r = .returned v) ∧ WkS w0 W'' K C (.slice ad len cap) len (wk (kd ns) (ful (kd ns) len) [(a, d)] out m).1 (wk (kd ns) (ful (kd ns) len) [(a, d)] out m).2 := by
  obtain ⟨ov, hb, ho⟩ := HS.out.s
  have HL : Hid (len = ns.length) := HN.out.1
  have c0 : W.cell? ⟨K, 0, none⟩ = some (.slice ad len cap) := hb.cell 0
  have c1 : W.cell? ⟨K, 1, none⟩ = some ov := hb.cell 1
  have c2 : W.cell? ⟨K, 2, none⟩ = some (.slice (some ⟨C, 0, none⟩) len len) := hb.cell 2
  have c3 : W.cell? ⟨K, 3, none⟩ = some (.int .i64 (m : Int)) := hb.cell 3
  have x0 := (HS.out.c.cell a).trans (iA_get _ ha)
  have hfu : 0 < ful (kd ns) len := by unfold ful; omega
  by_cases hin : a ∈ out
  · have HE := wk_old (g := kd ns) (n := ful (kd ns) len) (d := d) (m := m) hfu hin
    have HE1 : Hid (WkS w0 W K C (.slice ad len cap) len (wk (kd ns) (ful (kd ns) len) [(a, d)] out m).1 (wk (kd ns) (ful (kd ns) len) [(a, d)] out m).2) := by rw [HE]; exact HS.out
    have hne : (cm out a != -1) = true := by
      unfold cm; rw [if_pos hin]; simp
    generalize cm out a = ca at *
    generalize wk (kd ns) (ful (kd ns) len) [(a, d)] out m = R at *
    clear HS ho hin HE
    go_enter Tryz.func52, Tryz.ntmps52
    go_wp2
    refine bodyPost_ret (results_none rfl _ _ _) rfl ?_
    exact ⟨⟨_, rfl⟩, HE1.out⟩
  · have hne : (cm out a != -1) = false := by
      unfold cm; rw [if_neg hin]; rfl
    have HE : Hid (wk (kd ns) (ful (kd ns) len) [(a, d)] out m = wks (kd ns) (ful (kd ns) len) (kd ns a) (d + 1) (out ++ [a], max m d)) :=
      wk_new (kd_lt HK.out HL.out) ha hin (mea_ful _ _ _ _)
    obtain ⟨g, HGk⟩ : ∃ g, Hid (g = kd ns) := ⟨_, rfl⟩
    obtain ⟨N, HNf⟩ : ∃ N, Hid (N = ful (kd ns) len) := ⟨_, rfl⟩
    rw [← HNf.out, ← HGk.out] at HE HI ⊢
    obtain ⟨R, HR⟩ : ∃ R, Hid (R = wk g N [(a, d)] out m) := ⟨_, rfl⟩
    rw [← HR.out] at HE ⊢
    clear HR HNf hfu
    obtain ⟨oad, ocap, rfl⟩ := own_shape ho
    have HC : Hid (_ ∧ _ ∧ _) := WkS.came hb ho HS.out.c HS.out.ck hin
    have z0 := HS.out.c.fz a
    generalize cm out a = ca at *
    go_enter Tryz.func52, Tryz.ntmps52
    go_wp2_with fail
    go_region
    have HD : Hid (Below w0.heap.size w0 (W.setCell ⟨C, a, none⟩ (.int .i64 (out.length : Int))).drew) := (HS.out.bl.setCell (p := ⟨C, a, none⟩) HS.out.hc _).drew
    have HC1 : Hid (Bx (W.setCell ⟨C, a, none⟩ (.int .i64 (out.length : Int))).drew K #[.slice ad len cap, .slice oad out.length ocap, .slice (some ⟨C, 0, none⟩) len len, .int .i64 (m : Int)] 86 ∧
      (W.setCell ⟨C, a, none⟩ (.int .i64 (out.length : Int))).drew.ownsRow (K + 1) 3 1 (.slice oad out.length ocap) out.length (out.map fun a : Nat => Value.int .i64 (a : Int)) ∧ Bx (W.setCell ⟨C, a, none⟩ (.int .i64 (out.length : Int))).drew C (iA (cm (out ++ [a])) len) 3) := ⟨HC.out.1, HC.out.2.1, HC.out.2.2⟩
    have h5 := HS.out.h5
    have h6 := HS.out.h6
    have hls := lft_snoc hin ha
    have HKC : Hid (w0.heap.size ≤ K ∧ w0.heap.size ≤ C ∧ C < K) := ⟨HS.out.hk, HS.out.hc, HS.out.ck⟩
    clear HC HS c0 c1 c2 c3 x0 z0 hb ho
    generalize (W.setCell ⟨C, a, none⟩ (.int .i64 (out.length : Int))).drew = W1 at HD HC1 ⊢
    obtain ⟨c0, c1, c2, c3⟩ := HC1.out.1.c4
    have z1 := HC1.out.1.fz 1
    have hKW := HC1.out.1.lt
    have hob : ∀ k, k ≤ K → some k ≠ Value.ownBlock (.slice oad out.length ocap) := fun k hk e => by
      rcases HC1.out.2.1.2 with ⟨h1, _⟩ | ⟨g, cp, cur, h1, h2, _⟩
      · rw [h1] at e; cases e
      · rw [h1] at e
        have : k = g := by simpa [Value.ownBlock] using e
        omega
    have HG : Hid (∀ o W2, (W1.alloc o).grownBy W2 (Value.ownBlock (.slice oad out.length ocap)) → Bx W2 K #[.slice ad len cap, .slice oad out.length ocap, .slice (some ⟨C, 0, none⟩) len len, .int .i64 (m : Int)] 86 ∧ Bx W2 C (iA (cm (out ++ [a])) len) 3 ∧ Below w0.heap.size w0 W2) := fun o W2 hg => by
      have hcl := HC1.out.2.2.lt
      have hs : (W1.alloc o).heap.size = W1.heap.size + 1 := World.size_alloc _ _
      refine ⟨(hg.block K (by omega) (hob K (Nat.le_refl _))).trans (HC1.out.1.later (below_alloc _ _)), (hg.block C (by omega) (hob C (by have := HKC.out; omega))).trans (HC1.out.2.2.later (below_alloc _ _)), ?_⟩
      have b1 : Below w0.heap.size w0 (W1.alloc o) := HD.out.trans ((below_alloc W1 o).mono HD.out.size)
      refine b1.grown hg b1.size (fun k e => ?_)
      have hkc := HKC.out.1
      rcases Nat.lt_or_ge K k with hk | hk
      · exact Nat.le_trans hkc (Nat.le_of_lt hk)
      · exact absurd e.symm (hob k hk)
    obtain ⟨i0, hi, hz0, hz1, hz2⟩ := info_parts Tryz.infoInt
    go_upto_region 4 with (at_builtin; refine wpList_append_own_at _ rfl _ _ 45 rfl (K + 1) 3 i0 (.int .i64 0) 1 8 Tryz.underInts hi hz0 hz1 hz2 rfl (by decide) _ _ _ rfl (HC1.out.2.1.alloc _) ⟨W1.heap.size, 0, none⟩ 1 1 [Value.int .i64 (a : Int)] rfl rfl (cell_one_new _ _ _) (fun u hu => by rw [List.mem_singleton.1 hu]; rfl) (by have : maxLen = 9223372036854775807 := rfl; omega) (by omega) (by rw [World.size_alloc]; omega) ?_; intro ov W2 hown hgr hnil hat; obtain ⟨oad2, ocap2, rfl⟩ := own_shape hown; have HB2 := HG.out _ _ hgr; obtain ⟨e0, e1, e2, e3⟩ := HB2.1.c4; have y1 := HB2.1.fz 1; have y3 := HB2.1.fz 3; clear c0 c1 c2 c3 z1)
    have HW : Hid (WkS w0 ((W2.setCell ⟨K, 1, none⟩ (.slice oad2 (out.length + 1) ocap2)).setCell ⟨K, 3, none⟩ (.int .i64 ((max m d : Nat) : Int))) K C (.slice ad len cap) len (out ++ [a]) (max m d)) := by
      have hkc := HKC.out
      refine ⟨⟨.slice oad2 (out.length + 1) ocap2, ((HB2.1.set 1 _).set 3 _), ?_⟩, (HB2.2.1.other (by omega) _ _).other (by omega) _ _, (HB2.2.2.setCell (p := ⟨K, 1, none⟩) hkc.1 _).setCell (p := ⟨K, 3, none⟩) hkc.1 _, hkc.1, hkc.2.1, hkc.2.2, ?_, ?_⟩
      · rw [List.length_append, List.map_append]
        exact own_later1 (own_later1 hown (fun g hg _ => Below.heap_setCell _ _ _ _ (by show g ≠ K; omega))) (fun g hg _ => Below.heap_setCell _ _ _ _ (by show g ≠ K; omega))
      · rw [List.length_append, List.length_singleton]; omega
      · omega
    rw [show max (m : Int) (d : Int) = ((max m d : Nat) : Int) by omega]
    clear HB2 e0 e1 e2 e3 y1 y3 hown hgr hnil hat HG HC1 HD
    generalize (W2.setCell ⟨K, 1, none⟩ (.slice oad2 (out.length + 1) ocap2)).setCell ⟨K, 3, none⟩ (.int .i64 ((max m d : Nat) : Int)) = W3 at HW ⊢
    have hal : a < ns.length := by have := HL.out; omega
    obtain ⟨b, off, rfl, hbs, hcc⟩ := HN.out.2 (by omega)
    obtain ⟨kad, klen, kcap, hk1, hk2, _, _, hI, y0, y1, y2⟩ := hcc a ha
    have c0 : W3.cell? ⟨K, 0, none⟩ = some (.slice (some ⟨b, off, none⟩) len cap) := by obtain ⟨ov, h1, _⟩ := HW.out.s; exact h1.cell 0
    have x2 := (HW.out.bl.cell (p := ⟨b, off + a * 3 + 2, none⟩) hbs).trans y2
    have x1 := (HW.out.bl.cell (p := ⟨b, off + a * 3 + 1, none⟩) hbs).trans y1
    have x0 := (HW.out.bl.cell (p := ⟨b, off + a * 3, none⟩) hbs).trans y0
    have HKA : Hid (∀ c ∈ (ns.getD a nd0).kids, isP len c = true) := HK.out _ (mem_getD hal)
    have hkn : (ns.getD a nd0).kids.length ≤ 1000000000 := Nat.le_trans (kids_sum (mem_getD hal)) hsum
    have HKD : Hid (g a = (ns.getD a nd0).kids.map Int.toNat) := by rw [HGk.out]; exact rfl
    clear y0 y1 y2 hcc
    generalize ns.getD a nd0 = nd at *
    obtain ⟨nk, nx, nl⟩ := nd
    simp only at hI HKA hkn HKD x0 x1 x2
    have hkl : klen ≤ 1000000000 := by have := hI.1; omega
    have HII : Hid (IAt w0 kad klen nl) := hI
    have HLk : Hid (klen = nl.length) := hI.1
    go_wp2_with fail
    clear c0 x0 x1 x2 hI
    obtain ⟨S0, HS0⟩ : ∃ S0, Hid (S0 = (out ++ [a], max m d)) := ⟨_, rfl⟩
    rw [← HS0.out] at HE
    have HW0 : Hid (WkS w0 W3 K C (.slice (some ⟨b, off, none⟩) len cap) len S0.1 S0.2) := by rw [HS0.out]; exact HW.out
    have HF0 : Hid (lft len S0.1 < lft len out) := by rw [HS0.out]; show lft len (out ++ [a]) < _; omega
    clear HW HS0 hin hne HKC hKW hob
    go_loopw [55] (fun i wr => ∃ (k : Nat) (S : List Nat × Nat), k ≤ klen ∧ i = .int .i64 k ∧ Hid (WkS w0 wr K C (.slice (some ⟨b, off, none⟩) len cap) len S.1 S.2) ∧ Hid (S = wks g N ((g a).take k) (d + 1) S0) ∧ Hid (lft len S.1 < lft len out)) (fun i _ => klen - (intOf i).toNat)
    case atStart => exact ⟨0, S0, Nat.zero_le _, rfl, HW0, rfl, HF0⟩
    case round =>
      obtain ⟨k, S, hk, rfl, HSS, HWS, HF⟩ := hrel
      clear HW0 HF0
      by_cases hkt : k < klen
      · have hkm : k < nl.length := by have := HLk.out; omega
        obtain ⟨kb, koff, rfl, hkb, hkc⟩ := HII.out.2 (by omega)
        have x0 := (HSS.out.bl.cell (p := ⟨kb, koff + k, none⟩) hkb).trans (hkc k hkt).2
        obtain ⟨p, hp, hpl⟩ := isP_nat (HKA.out _ (mem_getI hkm))
        have hgl : k < (g a).length := by rw [HKD.out, List.length_map]; exact hkm
        have hgp : (g a).take (k + 1) = (g a).take k ++ [p] := by
          rw [List.take_succ_eq_append_getElem hgl]
          have : (g a)[k] = p := by
            simp only [HKD.out, List.getElem_map]
            have : nl[k] = (p : Int) := by
              rw [← hp, List.getD_eq_getElem?_getD, List.getElem?_eq_getElem hkm]; rfl
            rw [this, Int.toNat_natCast]
          rw [this]
        have HW2 : Hid (wks g N ((g a).take (k + 1)) (d + 1) S0 = wk g N [(p, d + 1)] S.1 S.2) := by
          show _ = _
          rw [hgp, wks_snoc, ← HWS.out]
        have HF2 : Hid (lft len (wk g N [(p, d + 1)] S.1 S.2).1 < lft len out) := by
          obtain ⟨r, hr⟩ := wk_front (g := g) N [(p, d + 1)] S.1 S.2
          have := lft_app len S.1 r
          have := HF.out
          rw [hr]
          show _ < _
          omega
        have HCall : Hid (Calls Tryz.prog 52 #[.pointer (some ⟨K, 0, none⟩), .int .i64 (p : Int), .int .i64 ((d : Int) + 1)] wr fun r W'' => (∃ v, r = .returned v) ∧ Hid (WkS w0 W'' K C (.slice (some ⟨b, off, none⟩) len cap) len (wk g N [(p, d + 1)] S.1 S.2).1 (wk g N [(p, d + 1)] S.1 S.2).2)) :=
          HI.out p (d + 1) S.2 S.1 wr HF.out HSS.out hpl (by have := HF.out; omega)
        rw [hp] at x0
        clear hp hkc hgp hgl hkm HWS HSS HF
        generalize wk g N [(p, d + 1)] S.1 S.2 = S' at *
        go_wp2_with (go_at_call 52; refine HCall.out.mono ?_; rintro e W4 ⟨⟨v, rfl⟩, HS4⟩)
        go_roundw
        case rel => exact ⟨k + 1, S', by omega, by go_num, HS4, HW2.out.symm, HF2⟩
        case measure => simp [intOf]; omega
      · have HEE : Hid (S = R) := by
          show _ = _
          rw [HE.out, HWS.out, List.take_of_length_le (by rw [HKD.out, List.length_map]; have := HLk.out; omega)]
        go_wp2
        go_end0
        refine ⟨⟨_, rfl⟩, ?_⟩
        rw [← HEE.out]
        exact HSS.out
theorem goTo_any {w0 : World} {ad : Option Addr} {len cap : Nat} {ns : List Nd} (K C : Nat) (hlen : len ≤ 4096) (hN : NAt w0 ad len ns) (hK : ∀ n ∈ ns, ∀ a ∈ n.kids, isP len a = true) (hsum : sumK ns ≤ 1000000000) :
    ∀ (q a d m : Nat) (out : List Nat) (W : World), lft len out ≤ q → WkS w0 W K C (.slice ad len cap) len out m → a < len → d + lft len out ≤ 5000 →
      Calls Tryz.prog 52 #[.pointer (some ⟨K, 0, none⟩), .int .i64 (a : Int), .int .i64 (d : Int)] W fun r W'' => (∃ v, r = .returned v) ∧ WkS w0 W'' K C (.slice ad len cap) len (wk (kd ns) (ful (kd ns) len) [(a, d)] out m).1 (wk (kd ns) (ful (kd ns) len) [(a, d)] out m).2
  | 0, a, d, m, out, W, hq, hS, ha, hd => go_core K C hlen hN hK hsum a d m out W hS ha hd (fun b e m' out' W' hl => absurd hl (by omega))
  | q + 1, a, d, m, out, W, hq, hS, ha, hd => go_core K C hlen hN hK hsum a d m out W hS ha hd (fun b e m' out' W' hl hS' hb he => goTo_any K C hlen hN hK hsum q b e m' out' W' (by omega) hS' hb he)
end Go.Proofs.YtaphijgbebhdlaaGreatDoor.Grp
end

section
/- Package graph's walked, by its contract. -/
namespace Go.Proofs.YtaphijgbebhdlaaGreatDoor.Grp
open Utf Rws Pln Flw
open Go.RowKit
set_option linter.unusedSimpArgs false
set_option linter.unusedVariables false
set_option maxRecDepth 100000
set_option maxHeartbeats 4000000

theorem lft_nil (len : Nat) : lft len [] = len := by
  unfold lft
  rw [List.filter_eq_self.2 (by simp), List.length_range]
structure WdS (w W : World) (K C len : Nat) (nsl : Value) (f : Nat → Int) : Prop where
  s : Bx W K #[nsl, .slice none 0 0, .slice (some ⟨C, 0, none⟩) len len, .int .i64 0] 86
  c : Bx W C (iA f len) 3
  bl : Below w.heap.size w W
  hk : w.heap.size ≤ K
  hc : w.heap.size ≤ C
  ck : C < K
theorem WdS.set {w W : World} {K C len : Nat} {nsl : Value} {f : Nat → Int} (h : WdS w W K C len nsl f) (i : Nat) (v : Int) : WdS w (W.setCell ⟨C, i, none⟩ (.int .i64 v)) K C len nsl (fun x => if x = i then v else f x) := by
  refine ⟨h.s.other (by have := h.ck; omega) _ _, ?_, h.bl.setCell (p := ⟨C, i, none⟩) h.hc _, h.hk, h.hc, h.ck⟩
  have := h.c.set i (.int .i64 v)
  rw [iA_set] at this
  exact this
theorem walked_any {w : World} {ad : Option Addr} {len cap : Nat} {ns : List Nd} {r : Nat} (hlen : len ≤ 4096) (hN : NAt w ad len ns) (hr : r < len) (hK : ∀ n ∈ ns, ∀ a ∈ n.kids, isP len a = true) (hsum : sumK ns ≤ 1000000000) :
    Calls Tryz.prog 33 #[gv ad len cap (r : Int)] w fun e w' => ∃ K C, e = .returned (.pointer (some ⟨K, 0, none⟩)) ∧ WkS w w' K C (.slice ad len cap) len (ord (kd ns) (ful (kd ns) len) r) (dep (kd ns) (ful (kd ns) len) r) := by
  have HGo : Hid (∀ (K C : Nat) (W : World), WkS w W K C (.slice ad len cap) len [] 0 → Calls Tryz.prog 52 #[.pointer (some ⟨K, 0, none⟩), .int .i64 (r : Int), .int .i64 1] W fun e W'' => (∃ v, e = .returned v) ∧ Hid (WkS w W'' K C (.slice ad len cap) len (ord (kd ns) (ful (kd ns) len) r) (dep (kd ns) (ful (kd ns) len) r))) :=
    fun K C W h => goTo_any K C hlen hN hK hsum len r 1 0 [] W (by rw [lft_nil]; exact Nat.le_refl _) h hr (by rw [lft_nil]; omega)
  have hmk := fun w' : World => run_make_row' (P := Tryz.prog) 45 3 (.int .i64 0) 8 Tryz.underInts Tryz.infoInt rfl .i64 .i64 len (by omega) (by omega) w'
  generalize ord (kd ns) (ful (kd ns) len) r = O at *
  generalize dep (kd ns) (ful (kd ns) len) r = M at *
  clear hN hK hsum
  go_enter Tryz.func33, Tryz.ntmps33
  go_wp2_with fail
  go_region
  have h0 : WdS w (((w.alloc (.cells #[.slice ad len cap, .int .i64 (r : Int)] 24)).alloc (.cells (madeCells #[.int .i64 0] len) 3)).alloc (.cells #[.slice ad len cap, .slice none 0 0, .slice (some ⟨w.heap.size + 1, 0, none⟩) len len, .int .i64 0] 86)).drew (w.heap.size + 1 + 1) (w.heap.size + 1) len (.slice ad len cap) (fun _ => 0) ∧ Bx (((w.alloc (.cells #[.slice ad len cap, .int .i64 (r : Int)] 24)).alloc (.cells (madeCells #[.int .i64 0] len) 3)).alloc (.cells #[.slice ad len cap, .slice none 0 0, .slice (some ⟨w.heap.size + 1, 0, none⟩) len len, .int .i64 0] 86)).drew w.heap.size #[.slice ad len cap, .int .i64 (r : Int)] 24 := by
    rw [iA_made]
    have b1 := below_alloc w (.cells #[.slice ad len cap, .int .i64 (r : Int)] 24)
    have n1 := Bx.new w #[.slice ad len cap, .int .i64 (r : Int)] 24
    have s1 : (w.alloc (.cells #[.slice ad len cap, .int .i64 (r : Int)] 24)).heap.size = w.heap.size + 1 := World.size_alloc _ _
    generalize w.alloc (.cells #[.slice ad len cap, .int .i64 (r : Int)] 24) = w1 at *
    have b2 := below_alloc w1 (.cells (iA (fun _ => 0) len) 3)
    have n2 := Bx.new w1 (iA (fun _ => 0) len) 3
    have s2 : (w1.alloc (.cells (iA (fun _ => 0) len) 3)).heap.size = w.heap.size + 1 + 1 := by rw [World.size_alloc, s1]
    rw [s1] at n2
    have n1 := n1.later b2
    generalize w1.alloc (.cells (iA (fun _ => 0) len) 3) = w2 at *
    have b3 := below_alloc w2 (.cells #[.slice ad len cap, .slice none 0 0, .slice (some ⟨w.heap.size + 1, 0, none⟩) len len, .int .i64 0] 86)
    have n3 := Bx.new w2 #[.slice ad len cap, .slice none 0 0, .slice (some ⟨w.heap.size + 1, 0, none⟩) len len, .int .i64 0] 86
    rw [s2] at n3
    have n2 := n2.later b3
    have n1 := n1.later b3
    have bl := ((b1.trans (b2.mono b1.size)).trans (b3.mono (by omega))).drew
    exact ⟨⟨n3, n2, bl, by omega, by omega, by omega⟩, n1⟩
  generalize (((w.alloc (.cells #[.slice ad len cap, .int .i64 (r : Int)] 24)).alloc (.cells (madeCells #[.int .i64 0] len) 3)).alloc (.cells #[.slice ad len cap, .slice none 0 0, .slice (some ⟨w.heap.size + 1, 0, none⟩) len len, .int .i64 0] 86)).drew = W0 at h0 ⊢
  have hkc : w.heap.size ≠ w.heap.size + 1 := by omega
  generalize w.heap.size + 1 + 1 = K at h0 ⊢
  generalize w.heap.size + 1 = C at h0 hkc ⊢
  obtain ⟨K0, hK0⟩ : ∃ K0, K0 = w.heap.size := ⟨_, rfl⟩
  rw [← hK0] at hkc ⊢
  have hg0 : Bx W0 K0 #[.slice ad len cap, .int .i64 (r : Int)] 24 := by rw [hK0]; exact h0.2
  have h1 := h0.1
  clear hK0 hmk h0
  have c2 : W0.cell? ⟨K, 2, none⟩ = some (.slice (some ⟨C, 0, none⟩) len len) := h1.s.cell 2
  go_wp2_with fail
  clear c2
  go_loopw [18] (fun i wr => ∃ j : Nat, j ≤ len ∧ i = .int .i64 j ∧ Hid (WdS w wr K C len (.slice ad len cap) (fun x => if x < j then -1 else 0)) ∧ Hid (Bx wr K0 #[.slice ad len cap, .int .i64 (r : Int)] 24)) (fun i _ => len - (intOf i).toNat)
  case atStart => exact ⟨0, Nat.zero_le _, rfl, h1, hg0⟩
  case round =>
    obtain ⟨j, hj, rfl, HS, HB⟩ := hrel
    clear h1 hg0
    by_cases hlt : j < len
    · have c2 : wr.cell? ⟨K, 2, none⟩ = some (.slice (some ⟨C, 0, none⟩) len len) := HS.out.s.cell 2
      have x0 := (HS.out.c.cell j).trans (iA_get _ hlt)
      have z0 := HS.out.c.fz j
      have HS2 : Hid (WdS w (wr.setCell ⟨C, j, none⟩ (.int .i64 (-1))) K C len (.slice ad len cap) (fun x => if x < j + 1 then -1 else 0)) := by
        have h := HS.out.set j (-1)
        refine ⟨h.s, ?_, h.bl, h.hk, h.hc, h.ck⟩
        rw [show iA (fun x => if x < j + 1 then (-1 : Int) else 0) len = iA (fun x => if x = j then -1 else if x < j then -1 else 0) len from iA_congr (fun i _ => by
          by_cases e : i = j
          · subst e; simp
          · rw [if_neg e]
            by_cases e2 : i < j
            · rw [if_pos e2, if_pos (by omega)]
            · rw [if_neg e2, if_neg (by omega)])]
        exact h.c
      have HB2 : Hid (Bx (wr.setCell ⟨C, j, none⟩ (.int .i64 (-1))) K0 #[.slice ad len cap, .int .i64 (r : Int)] 24) := HB.out.other hkc _ _
      go_wp2
      go_roundw
      case rel => exact ⟨j + 1, by omega, by go_num, HS2, HB2⟩
      case measure => simp [intOf]; omega
    · have HW : WkS w wr K C (.slice ad len cap) len [] 0 := by
        refine ⟨⟨.slice none 0 0, HS.out.s, World.ownsRow_nil _ _ _ _⟩, ?_, HS.out.bl, HS.out.hk, HS.out.hc, HS.out.ck, by rw [lft_nil]; simp; omega, Nat.zero_le _⟩
        rw [show iA (cm []) len = iA (fun x => if x < j then -1 else 0) len from iA_congr (fun i hi => by rw [if_pos (by omega)]; rfl)]
        exact HS.out.c
      have HCall := HGo.out K C wr HW
      obtain ⟨c0, c1⟩ := HB.out.c2
      go_wp2_with (go_at_call 52; refine HCall.mono ?_; rintro e W4 ⟨⟨v, rfl⟩, HS4⟩)
      go_ret
      exact ⟨K, C, rfl, HS4.out⟩
end Go.Proofs.YtaphijgbebhdlaaGreatDoor.Grp
end

section
/- A region whose operations come in any order, walked by what was done: each operation once, whatever was done beside it. -/
namespace Go.Proofs.YtaphijgbebhdlaaGreatDoor.Grp
open Go
set_option linter.unusedSimpArgs false
set_option linter.unusedVariables false

/-- each operation stands behind those of dp, and waits for elder ones alone -/
def chkE (ops : Array Oper) (N : Nat) (dp : List (List Nat)) : Bool :=
  ops.size == N && (List.range N).all fun i => match ops[i]? with
    | none => false
    | some o => o.after.toList.all (fun e => !Region.binds .any e || decide (e.on < i)) && (dp.getD i []).all (fun d => o.after.toList.any (fun e => e.on == d && Region.binds .any e))
theorem getD_arr (s : List Bool) (i : Nat) (b : Bool) : s.toArray.getD i b = s.getD i b := by
  simp [Array.getD_eq_getD_getElem?, List.getD_eq_getElem?_getD]
theorem ready_dp {ops : Array Oper} {N : Nat} {dp : List (List Nat)} (hc : chkE ops N dp = true) {s : List Bool} (hl : s.length = N) {i : Nat} (h : i ∈ Region.ready .any ops s.toArray) :
    i < N ∧ s.getD i false = false ∧ ∀ d ∈ dp.getD i [], s.getD d false = true := by
  unfold chkE at hc
  rw [Bool.and_eq_true, beq_iff_eq, List.all_eq_true] at hc
  obtain ⟨h0, o, ho, h1⟩ := mem_ready.1 h
  have hi : i < N := by rw [← hc.1]; exact (Array.getElem?_eq_some_iff.1 ho).1
  have h2 := hc.2 i (List.mem_range.2 hi)
  rw [ho] at h2
  simp only [Bool.and_eq_true, List.all_eq_true] at h2
  rw [getD_arr] at h0
  refine ⟨hi, ?_, fun d hd => ?_⟩
  · rw [List.getD_eq_getElem?_getD, List.getElem?_eq_getElem (by omega)] at h0 ⊢
    exact h0
  · have h3 := h2.2 d hd
    rw [List.any_eq_true] at h3
    obtain ⟨e, he, h4⟩ := h3
    rw [Bool.and_eq_true, beq_iff_eq] at h4
    have := h1 e (by simpa using he) h4.2
    rw [getD_arr, h4.1] at this
    exact this
theorem ready_nil {ops : Array Oper} {N : Nat} {dp : List (List Nat)} (hc : chkE ops N dp = true) {s : List Bool} (hl : s.length = N) (h : Region.ready .any ops s.toArray = []) : s = List.replicate N true := by
  unfold chkE at hc
  rw [Bool.and_eq_true, beq_iff_eq, List.all_eq_true] at hc
  have key : ∀ j, j < N → s.getD j false = true := by
    intro j
    induction j using Nat.strongRecOn with
    | _ j ih =>
      intro hj
      cases hs : s.getD j false with
      | true => rfl
      | false =>
        exfalso
        have h2 := hc.2 j (List.mem_range.2 hj)
        cases ho : ops[j]? with
        | none => rw [ho] at h2; cases h2
        | some o =>
          rw [ho] at h2
          simp only [Bool.and_eq_true, List.all_eq_true, Bool.or_eq_true, Bool.not_eq_true', decide_eq_true_eq] at h2
          have : j ∈ Region.ready .any ops s.toArray := by
            refine mem_ready.2 ⟨?_, o, ho, fun e he hbd => ?_⟩
            · rw [getD_arr]
              rw [List.getD_eq_getElem?_getD, List.getElem?_eq_getElem (by omega)] at hs ⊢
              exact hs
            · have hlt : e.on < j := (h2.1 e (by simpa using he)).resolve_left (by rw [hbd]; simp)
              rw [getD_arr]
              exact ih e.on hlt (by omega)
          rw [h] at this
          cases this
  apply List.ext_getElem
  · rw [hl, List.length_replicate]
  · intro j h1 h2
    have := key j (by omega)
    rw [List.getD_eq_getElem?_getD, List.getElem?_eq_getElem h1] at this
    rw [List.getElem_replicate]
    exact this
theorem count_set {s : List Bool} {i : Nat} (hi : i < s.length) (h : s.getD i false = false) : (s.set i true).count false + 1 = s.count false := by
  induction s generalizing i with
  | nil => exact absurd hi (Nat.not_lt_zero _)
  | cons b t ih =>
    cases i with
    | zero =>
      simp only [List.getD_cons_zero] at h
      subst h
      simp
    | succ i =>
      simp only [List.getD_cons_succ] at h
      have := ih (by simpa using hi) h
      simp only [List.set_cons_succ, List.count_cons]
      omega
theorem any_walkE {P : Program} {ops : Array Oper} {Q : Exit → Act → World → Prop} {N : Nat} {dp : List (List Nat)} (hc : chkE ops N dp = true) {E : Type} (J : E → List Bool → Prop) (fr : E → List Bool → Act) (wd : E → List Bool → World)
    (hS : ∀ e s, J e s → s.length = N → ∀ i, i < N → s.getD i false = false → (∀ d ∈ dp.getD i [], s.getD d false = true) → ∀ K : Act → World → Prop, (∀ e', J e' (s.set i true) → K (fr e' (s.set i true)) (wd e' (s.set i true))) → wpOp P ops Q i K (fr e s) (wd e s))
    (hF : ∀ e, J e (List.replicate N true) → Q .normal (fr e (List.replicate N true)) (wd e (List.replicate N true))) :
    ∀ fuel e s, J e s → s.length = N → s.count false = fuel → wpAny P .any ops Q fuel s.toArray (fr e s) (wd e s) := by
  intro fuel
  induction fuel with
  | zero =>
    intro e s hJ hl hn
    have hr : Region.ready .any ops s.toArray = [] := by
      cases h : Region.ready .any ops s.toArray with
      | nil => rfl
      | cons i t =>
        obtain ⟨h1, h2, _⟩ := ready_dp hc hl (i := i) (by rw [h]; simp)
        have := count_set (s := s) (i := i) (by omega) h2
        omega
    have e1 := ready_nil hc hl hr
    refine ⟨hr, ?_⟩
    rw [e1] at hJ ⊢
    exact hF e hJ
  | succ fuel ih =>
    intro e s hJ hl hn
    refine ⟨fun hr => ?_, fun i hi => ?_⟩
    · have e1 := ready_nil hc hl hr
      rw [e1] at hJ ⊢
      exact hF e hJ
    · obtain ⟨h1, h2, h3⟩ := ready_dp hc hl hi
      refine hS e s hJ hl i h1 h2 h3 _ (fun e' hJ' => ?_)
      rw [List.setIfInBounds_toArray]
      have := count_set (s := s) (i := i) (by omega) h2
      exact ih e' (s.set i true) hJ' (by rw [List.length_set]; exact hl) (by omega)
theorem wp_region_E {P : Program} {id : Nat} {ops : Array Oper} {Q : Exit → Act → World → Prop} {a : Act} {w : World} (hm : P.follows .mixedOrders = true) {N : Nat} {dp : List (List Nat)} (hc : chkE ops N dp = true) {E : Type} (J : E → List Bool → Prop) (fr : E → List Bool → Act) (wd : E → List Bool → World)
    (hS : ∀ e s, J e s → s.length = N → ∀ i, i < N → s.getD i false = false → (∀ d ∈ dp.getD i [], s.getD d false = true) → ∀ K : Act → World → Prop, (∀ e', J e' (s.set i true) → K (fr e' (s.set i true)) (wd e' (s.set i true))) → wpOp P ops Q i K (fr e s) (wd e s))
    (hF : ∀ e, J e (List.replicate N true) → Q .normal (fr e (List.replicate N true)) (wd e (List.replicate N true)))
    (e : E) (h0 : J e (List.replicate N false)) (ha : fr e (List.replicate N false) = a) (hw : wd e (List.replicate N false) = w.drew) : (Code.region id ops true).wp P Q a w := by
  refine wp_region_any hm ?_
  have hN : ops.size = N := by
    unfold chkE at hc
    rw [Bool.and_eq_true, beq_iff_eq] at hc
    exact hc.1
  rw [hN]
  have := any_walkE (Q := Q) hc J fr wd hS hF N e (List.replicate N false) h0 (List.length_replicate ..) (by simp)
  rw [ha, hw, List.toArray_replicate] at this
  exact this
theorem wpOp_at {P : Program} {ops : Array Oper} {Q : Exit → Act → World → Prop} {i : Nat} {o : Oper} {K : Act → World → Prop} {a : Act} {w : World} (ho : ops[i]? = some o)
    (hw : Region.wanted o (yielded ops a.tmps) = true) (h : o.wp P a w K Q) : wpOp P ops Q i K a w := by
  unfold wpOp
  rw [ho]
  simp only [hw, if_true]
  exact .inl h
theorem wpOp_if {P : Program} {ops : Array Oper} {Q : Exit → Act → World → Prop} {i : Nat} {o : Oper} {K : Act → World → Prop} {a : Act} {w : World} (ho : ops[i]? = some o)
    (h : if Region.wanted o (yielded ops a.tmps) = true then o.wp P a w K Q else K (a.put o.dst undef) w) : wpOp P ops Q i K a w := by
  unfold wpOp
  rw [ho]
  simp only
  split
  · rename_i hw; rw [if_pos hw] at h; exact .inl h
  · rename_i hw; rw [if_neg hw] at h; exact h
/-- a slot that is filled once its operation is done -/
def slu (b : Bool) (v u : Value) : Value := if b = true then v else u
theorem slu_t (v u : Value) : slu true v u = v := rfl
theorem slu_f (v u : Value) : slu false v u = u := rfl
end Go.Proofs.YtaphijgbebhdlaaGreatDoor.Grp
end
