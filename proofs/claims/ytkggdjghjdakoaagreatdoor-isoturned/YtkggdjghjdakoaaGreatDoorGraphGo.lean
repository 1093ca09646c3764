/- Package graph's goTo, by its contract: it goes over what is reached as the plain walk does. -/
import Derived.Test.YtkggdjghjdakoaaGreatDoorGraphRight
import Derived.Laws.AppendOwn
namespace Go.Proofs.YtkggdjghjdakoaaGreatDoor.Grp
open Utf Rws Pln Flw
open Go.RowKit
set_option linter.unusedSimpArgs false
set_option linter.unusedVariables false
set_option maxRecDepth 100000
set_option maxHeartbeats 4000000

/-- a row of ints -/
def iA (f : Nat → Int) (n : Nat) : Array Value := ((List.range n).map fun i => Value.int .i64 (f i)).toArray
theorem iA_get (f : Nat → Int) {n i : Nat} (h : i < n) : (iA f n)[i]? = some (.int .i64 (f i)) := by simp [iA, h]
theorem iA_set (f : Nat → Int) (n i : Nat) (v : Int) : (iA f n).setIfInBounds i (.int .i64 v) = iA (fun x => if x = i then v else f x) n := by
  apply Array.ext_getElem?
  intro k
  rw [Array.getElem?_setIfInBounds]
  by_cases hk : k < n
  · rw [iA_get _ hk, iA_get _ hk]
    by_cases e : i = k
    · subst e
      rw [if_pos rfl]
      simp [iA, hk]
    · rw [if_neg e]
      simp [Ne.symm e]
  · have e1 : (iA f n)[k]? = none := by simp [iA]; omega
    have e2 : (iA (fun x => if x = i then v else f x) n)[k]? = none := by simp [iA]; omega
    rw [e1, e2]
    split
    · simp [iA]; omega
    · rfl
theorem iA_congr {f g : Nat → Int} {n : Nat} (h : ∀ i, i < n → f i = g i) : iA f n = iA g n := by
  unfold iA
  congr 1
  exact List.map_congr_left fun i hi => by rw [h i (List.mem_range.1 hi)]
theorem iA_made (n : Nat) : madeCells #[Value.int .i64 0] n = iA (fun _ => 0) n := by rw [tA_made]; rfl
/-- at which one a place came, or never -/
def cm (out : List Nat) (x : Nat) : Int := if x ∈ out then (out.idxOf x : Int) else -1
theorem cm_snoc (out : List Nat) (a : Nat) (h : a ∉ out) (x : Nat) : cm (out ++ [a]) x = if x = a then (out.length : Int) else cm out x := by
  unfold cm
  by_cases e : x = a
  · subst e
    rw [if_pos (by simp), if_pos rfl, List.idxOf_append, if_neg h]
    simp
  · rw [if_neg e]
    by_cases m : x ∈ out
    · rw [if_pos (by simp [m]), if_pos m, List.idxOf_append, if_pos m]
    · rw [if_neg (by simp [m, e]), if_neg m]
/-- how many places have not come -/
def lft (len : Nat) (out : List Nat) : Nat := ((List.range len).filter (fun b => decide (b ∉ out))).length
theorem lft_snoc {len a : Nat} {out : List Nat} (h : a ∉ out) (ha : a < len) : lft len (out ++ [a]) + 1 = lft len out := by
  have k := filter_less (fun _ => [0]) out a h (List.range len) List.nodup_range (List.mem_range.2 ha)
  simp only [List.length_singleton, List.map_const', List.sum_replicate_nat, Nat.mul_one] at k
  exact k
theorem lft_app (len : Nat) (out r : List Nat) : lft len (out ++ r) ≤ lft len out := by
  unfold lft
  rw [show (fun b => decide (b ∉ out ++ r)) = (fun b => decide (b ∉ r) && decide (b ∉ out)) by funext b; simp [Bool.and_comm], ← List.filter_filter]
  exact List.length_filter_le _ _
/-- the Kids as places -/
def kd (ns : List Nd) (a : Nat) : List Nat := (ns.getD a nd0).kids.map Int.toNat
theorem kd_lt {ns : List Nd} {len : Nat} (h : ∀ n ∈ ns, ∀ a ∈ n.kids, isP len a = true) (hl : len = ns.length) : ∀ a, a < len → ∀ b ∈ kd ns a, b < len := by
  intro a ha b hb
  obtain ⟨c, hc, rfl⟩ := List.mem_map.1 hb
  obtain ⟨m, e, hm⟩ := isP_nat (h _ (mem_getD (by omega)) c hc)
  rw [e, Int.toNat_natCast]
  exact hm
/-- a walk in memory -/
structure WkS (w0 W : World) (K C : Nat) (nsl : Value) (len : Nat) (out : List Nat) (m : Nat) : Prop where
  s : ∃ ov, Bx W K #[nsl, ov, .slice (some ⟨C, 0, none⟩) len len, .int .i64 (m : Int)] 49 ∧ W.ownsRow (K + 1) 3 1 ov out.length (out.map fun a : Nat => Value.int .i64 (a : Int))
  c : Bx W C (iA (cm out) len) 3
  bl : Below w0.heap.size w0 W
  hk : w0.heap.size ≤ K
  hc : w0.heap.size ≤ C
  ck : C < K
  h5 : out.length + lft len out ≤ 5000
  h6 : m ≤ 5000
theorem own_later1 {base : Nat} {v : Value} {n : Nat} {xs : List Value} {w w' : World} {t : TypeId} (h : w.ownsRow base t 1 v n xs) (hk : ∀ g, base ≤ g → g < w.heap.size → w'.heap[g]? = w.heap[g]?) : w'.ownsRow base t 1 v n xs := by
  refine ⟨h.1, ?_⟩
  rcases h.2 with h2 | ⟨g, cap, cur, rfl, hb, hg, h3⟩
  · exact .inl h2
  · exact .inr ⟨g, cap, cur, rfl, hb, (hk g hb (Array.getElem?_eq_some_iff.1 hg).1).trans hg, h3⟩
theorem WkS.later {w0 W W' : World} {K C : Nat} {nsl : Value} {len : Nat} {out : List Nat} {m : Nat} (h : WkS w0 W K C nsl len out m) (hb : Below W.heap.size W W') : WkS w0 W' K C nsl len out m := by
  obtain ⟨ov, h1, h2⟩ := h.s
  exact ⟨⟨ov, h1.later hb, own_later1 h2 (fun g _ hg => hb.block g hg)⟩, h.c.later hb, h.bl.trans (hb.mono h.bl.size), h.hk, h.hc, h.ck, h.h5, h.h6⟩
theorem own_shape {base : Nat} {v : Value} {n : Nat} {xs : List Value} {w : World} {t : TypeId} (h : w.ownsRow base t 1 v n xs) : ∃ ad cap, v = .slice ad n cap := by
  rcases h.2 with ⟨h1, h2⟩ | ⟨g, cap, cur, h1, _⟩
  · exact ⟨none, 0, by rw [h1, h2]⟩
  · exact ⟨_, cap, h1⟩
/-- a place comes -/
theorem WkS.came {W : World} {K C : Nat} {nsl ov : Value} {len : Nat} {out : List Nat} {m a : Nat} (hb : Bx W K #[nsl, ov, .slice (some ⟨C, 0, none⟩) len len, .int .i64 (m : Int)] 49) (ho : W.ownsRow (K + 1) 3 1 ov out.length (out.map fun a : Nat => Value.int .i64 (a : Int)))
    (hc : Bx W C (iA (cm out) len) 3) (ck : C < K) (h : a ∉ out) : Bx (W.setCell ⟨C, a, none⟩ (.int .i64 (out.length : Int))) K #[nsl, ov, .slice (some ⟨C, 0, none⟩) len len, .int .i64 (m : Int)] 49 ∧
      (W.setCell ⟨C, a, none⟩ (.int .i64 (out.length : Int))).ownsRow (K + 1) 3 1 ov out.length (out.map fun a : Nat => Value.int .i64 (a : Int)) ∧ Bx (W.setCell ⟨C, a, none⟩ (.int .i64 (out.length : Int))) C (iA (cm (out ++ [a])) len) 3 := by
  refine ⟨hb.other (by omega) _ _, own_later1 ho (fun g hg _ => Below.heap_setCell _ _ _ _ (by show g ≠ C; omega)), ?_⟩
  have := hc.set a (.int .i64 (out.length : Int))
  rw [iA_set] at this
  rw [show iA (cm (out ++ [a])) len = iA (fun x => if x = a then (out.length : Int) else cm out x) len from iA_congr (fun i _ => cm_snoc out a h i)]
  exact this
theorem go_core {w0 : World} {ad : Option Addr} {len cap : Nat} {ns : List Nd} (K C : Nat) (hlen : len ≤ 4096) (HN : Hid (NAt w0 ad len ns)) (HK : Hid (∀ n ∈ ns, ∀ a ∈ n.kids, isP len a = true)) (hsum : sumK ns ≤ 1000000000)
    (a d m : Nat) (out : List Nat) (W : World) (HS : Hid (WkS w0 W K C (.slice ad len cap) len out m)) (ha : a < len) (hd : d + lft len out ≤ 5000)
    (HI : Hid (∀ (b e m' : Nat) (out' : List Nat) (W' : World), lft len out' < lft len out → WkS w0 W' K C (.slice ad len cap) len out' m' → b < len → e + lft len out' ≤ 5000 →
      Calls Tryz.prog 39 #[.pointer (some ⟨K, 0, none⟩), .int .i64 (b : Int), .int .i64 (e : Int)] W' fun r W'' => (∃ v, r = .returned v) ∧ WkS w0 W'' K C (.slice ad len cap) len (wk (kd ns) (ful (kd ns) len) [(b, e)] out' m').1 (wk (kd ns) (ful (kd ns) len) [(b, e)] out' m').2))  :
    Calls Tryz.prog 39 #[.pointer (some ⟨K, 0, none⟩), .int .i64 (a : Int), .int .i64 (d : Int)] W fun r W'' => (∃ v, r = .returned v) ∧ WkS w0 W'' K C (.slice ad len cap) len (wk (kd ns) (ful (kd ns) len) [(a, d)] out m).1 (wk (kd ns) (ful (kd ns) len) [(a, d)] out m).2 := by
  obtain ⟨ov, hb, ho⟩ := HS.out.s
  have HL : Hid (len = ns.length) := HN.out.1
  have c0 : W.cell? ⟨K, 0, none⟩ = some (.slice ad len cap) := hb.cell 0
  have c1 : W.cell? ⟨K, 1, none⟩ = some ov := hb.cell 1
  have c2 : W.cell? ⟨K, 2, none⟩ = some (.slice (some ⟨C, 0, none⟩) len len) := hb.cell 2
  have c3 : W.cell? ⟨K, 3, none⟩ = some (.int .i64 (m : Int)) := hb.cell 3
  have x0 := (HS.out.c.cell a).trans (iA_get _ ha)
  have hfu : 0 < ful (kd ns) len := by unfold ful; omega
  by_cases hin : a ∈ out
  · have HE := wk_old (g := kd ns) (n := ful (kd ns) len) (d := d) (m := m) hfu hin
    have HE1 : Hid (WkS w0 W K C (.slice ad len cap) len (wk (kd ns) (ful (kd ns) len) [(a, d)] out m).1 (wk (kd ns) (ful (kd ns) len) [(a, d)] out m).2) := by rw [HE]; exact HS.out
    have hne : (cm out a != -1) = true := by
      unfold cm; rw [if_pos hin]; simp
    generalize cm out a = ca at *
    generalize wk (kd ns) (ful (kd ns) len) [(a, d)] out m = R at *
    clear HS ho hin HE
    go_enter Tryz.func39, Tryz.ntmps39
    go_wp2
    refine bodyPost_ret (results_none rfl _ _ _) rfl ?_
    exact ⟨⟨_, rfl⟩, HE1.out⟩
  · have hne : (cm out a != -1) = false := by
      unfold cm; rw [if_neg hin]; rfl
    have HE : Hid (wk (kd ns) (ful (kd ns) len) [(a, d)] out m = wks (kd ns) (ful (kd ns) len) (kd ns a) (d + 1) (out ++ [a], max m d)) :=
      wk_new (kd_lt HK.out HL.out) ha hin (mea_ful _ _ _ _)
    obtain ⟨g, HGk⟩ : ∃ g, Hid (g = kd ns) := ⟨_, rfl⟩
    obtain ⟨N, HNf⟩ : ∃ N, Hid (N = ful (kd ns) len) := ⟨_, rfl⟩
    rw [← HNf.out, ← HGk.out] at HE HI ⊢
    obtain ⟨R, HR⟩ : ∃ R, Hid (R = wk g N [(a, d)] out m) := ⟨_, rfl⟩
    rw [← HR.out] at HE ⊢
    clear HR HNf hfu
    obtain ⟨oad, ocap, rfl⟩ := own_shape ho
    have HC : Hid (_ ∧ _ ∧ _) := WkS.came hb ho HS.out.c HS.out.ck hin
    have z0 := HS.out.c.fz a
    generalize cm out a = ca at *
    go_enter Tryz.func39, Tryz.ntmps39
    go_wp2_with fail
    go_region
    have HD : Hid (Below w0.heap.size w0 (W.setCell ⟨C, a, none⟩ (.int .i64 (out.length : Int))).drew) := (HS.out.bl.setCell (p := ⟨C, a, none⟩) HS.out.hc _).drew
    have HC1 : Hid (Bx (W.setCell ⟨C, a, none⟩ (.int .i64 (out.length : Int))).drew K #[.slice ad len cap, .slice oad out.length ocap, .slice (some ⟨C, 0, none⟩) len len, .int .i64 (m : Int)] 49 ∧
      (W.setCell ⟨C, a, none⟩ (.int .i64 (out.length : Int))).drew.ownsRow (K + 1) 3 1 (.slice oad out.length ocap) out.length (out.map fun a : Nat => Value.int .i64 (a : Int)) ∧ Bx (W.setCell ⟨C, a, none⟩ (.int .i64 (out.length : Int))).drew C (iA (cm (out ++ [a])) len) 3) := ⟨HC.out.1, HC.out.2.1, HC.out.2.2⟩
    have h5 := HS.out.h5
    have h6 := HS.out.h6
    have hls := lft_snoc hin ha
    have HKC : Hid (w0.heap.size ≤ K ∧ w0.heap.size ≤ C ∧ C < K) := ⟨HS.out.hk, HS.out.hc, HS.out.ck⟩
    clear HC HS c0 c1 c2 c3 x0 z0 hb ho
    generalize (W.setCell ⟨C, a, none⟩ (.int .i64 (out.length : Int))).drew = W1 at HD HC1 ⊢
    obtain ⟨c0, c1, c2, c3⟩ := HC1.out.1.c4
    have z1 := HC1.out.1.fz 1
    have hKW := HC1.out.1.lt
    have hob : ∀ k, k ≤ K → some k ≠ Value.ownBlock (.slice oad out.length ocap) := fun k hk e => by
      rcases HC1.out.2.1.2 with ⟨h1, _⟩ | ⟨g, cp, cur, h1, h2, _⟩
      · rw [h1] at e; cases e
      · rw [h1] at e
        have : k = g := by simpa [Value.ownBlock] using e
        omega
    have HG : Hid (∀ o W2, (W1.alloc o).grownBy W2 (Value.ownBlock (.slice oad out.length ocap)) → Bx W2 K #[.slice ad len cap, .slice oad out.length ocap, .slice (some ⟨C, 0, none⟩) len len, .int .i64 (m : Int)] 49 ∧ Bx W2 C (iA (cm (out ++ [a])) len) 3 ∧ Below w0.heap.size w0 W2) := fun o W2 hg => by
      have hcl := HC1.out.2.2.lt
      have hs : (W1.alloc o).heap.size = W1.heap.size + 1 := World.size_alloc _ _
      refine ⟨(hg.block K (by omega) (hob K (Nat.le_refl _))).trans (HC1.out.1.later (below_alloc _ _)), (hg.block C (by omega) (hob C (by have := HKC.out; omega))).trans (HC1.out.2.2.later (below_alloc _ _)), ?_⟩
      have b1 : Below w0.heap.size w0 (W1.alloc o) := HD.out.trans ((below_alloc W1 o).mono HD.out.size)
      refine b1.grown hg b1.size (fun k e => ?_)
      have hkc := HKC.out.1
      rcases Nat.lt_or_ge K k with hk | hk
      · exact Nat.le_trans hkc (Nat.le_of_lt hk)
      · exact absurd e.symm (hob k hk)
    obtain ⟨i0, hi, hz0, hz1, hz2⟩ := info_parts Tryz.infoInt
    go_upto_region 4 with (at_builtin; refine wpList_append_own_at _ rfl _ _ 30 rfl (K + 1) 3 i0 (.int .i64 0) 1 8 Tryz.underInts hi hz0 hz1 hz2 rfl (by decide) _ _ _ rfl (HC1.out.2.1.alloc _) ⟨W1.heap.size, 0, none⟩ 1 1 [Value.int .i64 (a : Int)] rfl rfl (cell_one_new _ _ _) (fun u hu => by rw [List.mem_singleton.1 hu]; rfl) (by have : maxLen = 9223372036854775807 := rfl; omega) (by omega) (by rw [World.size_alloc]; omega) ?_; intro ov W2 hown hgr hnil hat; obtain ⟨oad2, ocap2, rfl⟩ := own_shape hown; have HB2 := HG.out _ _ hgr; obtain ⟨e0, e1, e2, e3⟩ := HB2.1.c4; have y1 := HB2.1.fz 1; have y3 := HB2.1.fz 3; clear c0 c1 c2 c3 z1)
    have HW : Hid (WkS w0 ((W2.setCell ⟨K, 1, none⟩ (.slice oad2 (out.length + 1) ocap2)).setCell ⟨K, 3, none⟩ (.int .i64 ((max m d : Nat) : Int))) K C (.slice ad len cap) len (out ++ [a]) (max m d)) := by
      have hkc := HKC.out
      refine ⟨⟨.slice oad2 (out.length + 1) ocap2, ((HB2.1.set 1 _).set 3 _), ?_⟩, (HB2.2.1.other (by omega) _ _).other (by omega) _ _, (HB2.2.2.setCell (p := ⟨K, 1, none⟩) hkc.1 _).setCell (p := ⟨K, 3, none⟩) hkc.1 _, hkc.1, hkc.2.1, hkc.2.2, ?_, ?_⟩
      · rw [List.length_append, List.map_append]
        exact own_later1 (own_later1 hown (fun g hg _ => Below.heap_setCell _ _ _ _ (by show g ≠ K; omega))) (fun g hg _ => Below.heap_setCell _ _ _ _ (by show g ≠ K; omega))
      · rw [List.length_append, List.length_singleton]; omega
      · omega
    rw [show max (m : Int) (d : Int) = ((max m d : Nat) : Int) by omega]
    clear HB2 e0 e1 e2 e3 y1 y3 hown hgr hnil hat HG HC1 HD
    generalize (W2.setCell ⟨K, 1, none⟩ (.slice oad2 (out.length + 1) ocap2)).setCell ⟨K, 3, none⟩ (.int .i64 ((max m d : Nat) : Int)) = W3 at HW ⊢
    have hal : a < ns.length := by have := HL.out; omega
    obtain ⟨b, off, rfl, hbs, hcc⟩ := HN.out.2 (by omega)
    obtain ⟨kad, klen, kcap, hk1, hk2, _, _, hI, y0, y1, y2⟩ := hcc a ha
    have c0 : W3.cell? ⟨K, 0, none⟩ = some (.slice (some ⟨b, off, none⟩) len cap) := by obtain ⟨ov, h1, _⟩ := HW.out.s; exact h1.cell 0
    have x2 := (HW.out.bl.cell (p := ⟨b, off + a * 3 + 2, none⟩) hbs).trans y2
    have x1 := (HW.out.bl.cell (p := ⟨b, off + a * 3 + 1, none⟩) hbs).trans y1
    have x0 := (HW.out.bl.cell (p := ⟨b, off + a * 3, none⟩) hbs).trans y0
    have HKA : Hid (∀ c ∈ (ns.getD a nd0).kids, isP len c = true) := HK.out _ (mem_getD hal)
    have hkn : (ns.getD a nd0).kids.length ≤ 1000000000 := Nat.le_trans (kids_sum (mem_getD hal)) hsum
    have HKD : Hid (g a = (ns.getD a nd0).kids.map Int.toNat) := by rw [HGk.out]; exact rfl
    clear y0 y1 y2 hcc
    generalize ns.getD a nd0 = nd at *
    obtain ⟨nk, nx, nl⟩ := nd
    simp only at hI HKA hkn HKD x0 x1 x2
    have hkl : klen ≤ 1000000000 := by have := hI.1; omega
    have HII : Hid (IAt w0 kad klen nl) := hI
    have HLk : Hid (klen = nl.length) := hI.1
    go_wp2_with fail
    clear c0 x0 x1 x2 hI
    obtain ⟨S0, HS0⟩ : ∃ S0, Hid (S0 = (out ++ [a], max m d)) := ⟨_, rfl⟩
    rw [← HS0.out] at HE
    have HW0 : Hid (WkS w0 W3 K C (.slice (some ⟨b, off, none⟩) len cap) len S0.1 S0.2) := by rw [HS0.out]; exact HW.out
    have HF0 : Hid (lft len S0.1 < lft len out) := by rw [HS0.out]; show lft len (out ++ [a]) < _; omega
    clear HW HS0 hin hne HKC hKW hob
    go_loopw [55] (fun i wr => ∃ (k : Nat) (S : List Nat × Nat), k ≤ klen ∧ i = .int .i64 k ∧ Hid (WkS w0 wr K C (.slice (some ⟨b, off, none⟩) len cap) len S.1 S.2) ∧ Hid (S = wks g N ((g a).take k) (d + 1) S0) ∧ Hid (lft len S.1 < lft len out)) (fun i _ => klen - (intOf i).toNat)
    case atStart => exact ⟨0, S0, Nat.zero_le _, rfl, HW0, rfl, HF0⟩
    case round =>
      obtain ⟨k, S, hk, rfl, HSS, HWS, HF⟩ := hrel
      clear HW0 HF0
      by_cases hkt : k < klen
      · have hkm : k < nl.length := by have := HLk.out; omega
        obtain ⟨kb, koff, rfl, hkb, hkc⟩ := HII.out.2 (by omega)
        have x0 := (HSS.out.bl.cell (p := ⟨kb, koff + k, none⟩) hkb).trans (hkc k hkt).2
        obtain ⟨p, hp, hpl⟩ := isP_nat (HKA.out _ (mem_getI hkm))
        have hgl : k < (g a).length := by rw [HKD.out, List.length_map]; exact hkm
        have hgp : (g a).take (k + 1) = (g a).take k ++ [p] := by
          rw [List.take_succ_eq_append_getElem hgl]
          have : (g a)[k] = p := by
            simp only [HKD.out, List.getElem_map]
            have : nl[k] = (p : Int) := by
              rw [← hp, List.getD_eq_getElem?_getD, List.getElem?_eq_getElem hkm]; rfl
            rw [this, Int.toNat_natCast]
          rw [this]
        have HW2 : Hid (wks g N ((g a).take (k + 1)) (d + 1) S0 = wk g N [(p, d + 1)] S.1 S.2) := by
          show _ = _
          rw [hgp, wks_snoc, ← HWS.out]
        have HF2 : Hid (lft len (wk g N [(p, d + 1)] S.1 S.2).1 < lft len out) := by
          obtain ⟨r, hr⟩ := wk_front (g := g) N [(p, d + 1)] S.1 S.2
          have := lft_app len S.1 r
          have := HF.out
          rw [hr]
          show _ < _
          omega
        have HCall : Hid (Calls Tryz.prog 39 #[.pointer (some ⟨K, 0, none⟩), .int .i64 (p : Int), .int .i64 ((d : Int) + 1)] wr fun r W'' => (∃ v, r = .returned v) ∧ Hid (WkS w0 W'' K C (.slice (some ⟨b, off, none⟩) len cap) len (wk g N [(p, d + 1)] S.1 S.2).1 (wk g N [(p, d + 1)] S.1 S.2).2)) :=
          HI.out p (d + 1) S.2 S.1 wr HF.out HSS.out hpl (by have := HF.out; omega)
        rw [hp] at x0
        clear hp hkc hgp hgl hkm HWS HSS HF
        generalize wk g N [(p, d + 1)] S.1 S.2 = S' at *
        go_wp2_with (go_at_call 39; refine HCall.out.mono ?_; rintro e W4 ⟨⟨v, rfl⟩, HS4⟩)
        go_roundw
        case rel => exact ⟨k + 1, S', by omega, by go_num, HS4, HW2.out.symm, HF2⟩
        case measure => simp [intOf]; omega
      · have HEE : Hid (S = R) := by
          show _ = _
          rw [HE.out, HWS.out, List.take_of_length_le (by rw [HKD.out, List.length_map]; have := HLk.out; omega)]
        go_wp2
        go_end0
        refine ⟨⟨_, rfl⟩, ?_⟩
        rw [← HEE.out]
        exact HSS.out
theorem goTo_any {w0 : World} {ad : Option Addr} {len cap : Nat} {ns : List Nd} (K C : Nat) (hlen : len ≤ 4096) (hN : NAt w0 ad len ns) (hK : ∀ n ∈ ns, ∀ a ∈ n.kids, isP len a = true) (hsum : sumK ns ≤ 1000000000) :
    ∀ (q a d m : Nat) (out : List Nat) (W : World), lft len out ≤ q → WkS w0 W K C (.slice ad len cap) len out m → a < len → d + lft len out ≤ 5000 →
      Calls Tryz.prog 39 #[.pointer (some ⟨K, 0, none⟩), .int .i64 (a : Int), .int .i64 (d : Int)] W fun r W'' => (∃ v, r = .returned v) ∧ WkS w0 W'' K C (.slice ad len cap) len (wk (kd ns) (ful (kd ns) len) [(a, d)] out m).1 (wk (kd ns) (ful (kd ns) len) [(a, d)] out m).2
  | 0, a, d, m, out, W, hq, hS, ha, hd => go_core K C hlen hN hK hsum a d m out W hS ha hd (fun b e m' out' W' hl => absurd hl (by omega))
  | q + 1, a, d, m, out, W, hq, hS, ha, hd => go_core K C hlen hN hK hsum a d m out W hS ha hd (fun b e m' out' W' hl hS' hb he => goTo_any K C hlen hN hK hsum q b e m' out' W' (by omega) hS' hb he)
end Go.Proofs.YtkggdjghjdakoaaGreatDoor.Grp
