/- Several texts as one: FlowBrfZ, LayFar. -/
import Derived.Test.YtaphijgbebhdlaaGreatDoorV09FlowAllow
import Derived.Test.YtaphijgbebhdlaaGreatDoorV45FlowRnameQ
import Derived.Test.YtaphijgbebhdlaaGreatDoorV08FlowModel2
import Derived.Test.YtaphijgbebhdlaaGreatDoorV46QuotePlain5
import Derived.Test.YtaphijgbebhdlaaGreatDoorV22GraphPlc2
import Derived.Deep.RegionWith
section
/- Trees that are read have short texts, and the text of a tree that may be is not too long: plain facts. -/
namespace Go.Proofs.YtaphijgbebhdlaaGreatDoor.Flw
open Utf Rws Pln
open Go.RowKit
set_option linter.unusedSimpArgs false
set_option linter.unusedVariables false
set_option maxRecDepth 100000

theorem getD_mem {xs : List Tr} {i : Nat} (h : i < xs.length) : xs.getD i tr0 ∈ xs := by
  rw [List.getD_eq_getElem?_getD, List.getElem?_eq_getElem h]
  exact List.getElem_mem h
/-- a tree in memory that is fine is brief -/
theorem brief_of {w : World} : ∀ {d m : Nat} {v : Value} {t : Tr}, TrV w d v t → fineT m t → brief d t
  | 0, m, v, t, h, hf => h.elim
  | d + 1, 0, v, t, h, hf => hf.elim
  | d + 1, m + 1, v, t, h, hf => by
    obtain ⟨ad, len, cap, rfl, hl, hc, hm, hz, hk⟩ := h
    refine ⟨by have := hf.1; omega, by have := hf.2.1; omega, fun i hi => ?_⟩
    obtain ⟨b, off, _, _, hcell⟩ := hk (by omega)
    obtain ⟨c0, c1, c2, c3, _, _, _, _, ht⟩ := hcell i (by omega)
    exact brief_of ht (hf.2.2 i hi)
/-! ### how long a tree's text is -/
end Go.Proofs.YtaphijgbebhdlaaGreatDoor.Flw
end

section
/- grommetlaw14.far, by its contract. -/
namespace Go.Proofs.YtaphijgbebhdlaaGreatDoor.Grp
open Utf Rws Pln Flw
open Go.RowKit
set_option linter.unusedSimpArgs false
set_option linter.unusedVariables false
set_option maxRecDepth 100000
set_option maxHeartbeats 4000000

theorem far_core (k : Int) (s a : ByteArray) (ad : Option Addr) (len cap : Nat) (W w : World) (L deep n d : Nat) (ks : List Tr) (hl : len ≤ 9223372036854775807) (hs : s.size ≤ 9223372036854775807) (ha : a.size ≤ 9223372036854775807)
    (HK : Hid (KAt W d ad len ks)) (HBW : Hid (Below W.heap.size W w)) (hd : deep ≤ 81) (hn : n ≤ 600) (hL : L < w.heap.size) (hWL : W.heap.size ≤ L) (hcl : w.cell? ⟨L, 0, none⟩ = some (.int .i64 n)) (hfr : w.frozen? ⟨L, 0, none⟩ = false)
    (HI : Hid (∀ v t w n, TrV W d v t → Below W.heap.size W w → n ≤ 600 → L < w.heap.size → w.cell? ⟨L, 0, none⟩ = some (.int .i64 ((n : Nat) : Int)) → w.frozen? ⟨L, 0, none⟩ = false → deep + 1 ≤ 81 →
      Calls Tryz.prog 12 #[v, .int .i64 ((deep : Int) + 1), .pointer (some ⟨L, 0, none⟩)] w fun e w' => ∃ q : Bool, e = .returned (.bool q) ∧ Below W.heap.size W w' ∧ L < w'.heap.size ∧ w'.frozen? ⟨L, 0, none⟩ = false ∧
        (q = false → fineT (80 - deep) t ∧ ∃ n' : Nat, n = n' + cntT (80 - deep) t ∧ w'.cell? ⟨L, 0, none⟩ = some (.int .i64 (n' : Int)))))
    (R : Bool → World → Prop) (hF : Hid (∀ w', Below W.heap.size W w' → L < w'.heap.size → w'.frozen? ⟨L, 0, none⟩ = false → R true w'))
    (hT : Hid (∀ w', Below W.heap.size W w' → L < w'.heap.size → w'.frozen? ⟨L, 0, none⟩ = false → deep ≤ 80 → s.size ≤ 500 → a.size ≤ 100 → (∀ i, i < ks.length → fineT (80 - deep) (ks.getD i tr0)) → (∃ n' : Nat, n = n' + 1 + sumT (80 - deep) ks ks.length ∧ w'.cell? ⟨L, 0, none⟩ = some (.int .i64 (n' : Int))) → R false w')) :
    Calls Tryz.prog 12 #[.agg #[.int .i64 k, .string s, .string a, .slice ad len cap], .int .i64 (deep : Int), .pointer (some ⟨L, 0, none⟩)] w fun e w' => ∃ q : Bool, e = .returned (.bool q) ∧ R q w' := by
  have HX : Hid (∀ (u : Value) (c : Array Value) (t : TypeId), Below W.heap.size W ((w.setCell ⟨L, 0, none⟩ u).alloc (.cells c t)) ∧ L < ((w.setCell ⟨L, 0, none⟩ u).alloc (.cells c t)).heap.size ∧ ((w.setCell ⟨L, 0, none⟩ u).alloc (.cells c t)).frozen? ⟨L, 0, none⟩ = false) := fun u c t => by
    have e : (w.setCell ⟨L, 0, none⟩ u).heap.size = w.heap.size := World.size_setCell _ _ _
    refine ⟨(HBW.out.setCell hWL u).alloc (by rw [e]; have := HBW.out.size; omega) _, ?_, ?_⟩
    · rw [World.size_alloc, e]; omega
    · rw [frozen?_alloc_cells, World.frozen?_setCell]; exact hfr
  by_cases h1 : n = 0
  · subst h1
    go_enter Tryz.func12, Tryz.ntmps12
    go_wp2
    go_ret
    first | exact ⟨true, rfl, hF.out _ (HX.out _ _ _).1 (HX.out _ _ _).2.1 (HX.out _ _ _).2.2⟩ | exact .inr ⟨rfl, hF.out _ (HX.out _ _ _).1 (HX.out _ _ _).2.1 (HX.out _ _ _).2.2⟩
  obtain ⟨p, rfl⟩ : ∃ p, n = p + 1 := ⟨n - 1, by omega⟩
  by_cases h2 : 80 < deep
  · go_enter Tryz.func12, Tryz.ntmps12
    go_wp2
    all_goals
      go_ret
      first | exact ⟨true, rfl, hF.out _ (HX.out _ _ _).1 (HX.out _ _ _).2.1 (HX.out _ _ _).2.2⟩ | exact .inr ⟨rfl, hF.out _ (HX.out _ _ _).1 (HX.out _ _ _).2.1 (HX.out _ _ _).2.2⟩
  by_cases h3 : 500 < s.size
  · go_enter Tryz.func12, Tryz.ntmps12
    go_wp2
    all_goals
      go_ret
      first | exact ⟨true, rfl, hF.out _ (HX.out _ _ _).1 (HX.out _ _ _).2.1 (HX.out _ _ _).2.2⟩ | exact .inr ⟨rfl, hF.out _ (HX.out _ _ _).1 (HX.out _ _ _).2.1 (HX.out _ _ _).2.2⟩
  by_cases h4 : 100 < a.size
  · go_enter Tryz.func12, Tryz.ntmps12
    go_wp2
    all_goals
      go_ret
      first | exact ⟨true, rfl, hF.out _ (HX.out _ _ _).1 (HX.out _ _ _).2.1 (HX.out _ _ _).2.2⟩ | exact .inr ⟨rfl, hF.out _ (HX.out _ _ _).1 (HX.out _ _ _).2.1 (HX.out _ _ _).2.2⟩
  go_enter Tryz.func12, Tryz.ntmps12
  go_wp2
  have hcL : ((w.setCell ⟨L, 0, none⟩ (.int .i64 (p : Int))).alloc (Obj.cells #[.int .i64 k, .string s, .string a, .slice ad len cap] 29)).cell? ⟨L, 0, none⟩ = some (.int .i64 (p : Int)) := by
    rw [World.cell?_alloc_lt _ _ _ (by show L < _; rw [World.size_setCell]; exact hL), World.cell?_setCell_same' w ⟨L, 0, none⟩ _ (by rw [hcl]; rfl)]
  have hB2 := HX.out (.int .i64 (p : Int)) #[.int .i64 k, .string s, .string a, .slice ad len cap] 29
  clear HX
  generalize (w.setCell ⟨L, 0, none⟩ (.int .i64 (p : Int))).alloc (Obj.cells #[.int .i64 k, .string s, .string a, .slice ad len cap] 29) = W1 at hcL hB2 ⊢
  go_loopw [37] (fun i wr => ∃ j m : Nat, j ≤ len ∧ i = .int .i64 j ∧ Below W.heap.size W wr ∧ L < wr.heap.size ∧ wr.cell? ⟨L, 0, none⟩ = some (.int .i64 (m : Int)) ∧ wr.frozen? ⟨L, 0, none⟩ = false ∧ p = m + sumT (80 - deep) ks j ∧ ∀ i, i < j → fineT (80 - deep) (ks.getD i tr0)) (fun i _ => len - (intOf i).toNat)
  case atStart => exact ⟨0, p, Nat.zero_le _, rfl, hB2.1, hB2.2.1, hcL, hB2.2.2, rfl, fun i h => absurd h (by omega)⟩
  case round =>
    obtain ⟨j, m, hj, rfl, hbw, hLr, hcr, hfr2, hsum, hfine⟩ := hrel
    have HS : Hid (p = m + sumT (80 - deep) ks j) := hsum
    have HFN : Hid (∀ i, i < j → fineT (80 - deep) (ks.getD i tr0)) := hfine
    have HBR : Hid (Below W.heap.size W wr) := hbw
    clear hsum hfine hbw
    by_cases hlt : j < len
    · obtain ⟨b, off, rfl, hb, hcell⟩ := HK.out.2 (by omega)
      obtain ⟨c0, c1, c2, c3, x0, x1, x2, x3, hx⟩ := hcell j hlt
      replace x0 := (HBR.out.cell (p := ⟨b, off + j * 4, none⟩) hb).trans x0
      replace x1 := (HBR.out.cell (p := ⟨b, off + j * 4 + 1, none⟩) hb).trans x1
      replace x2 := (HBR.out.cell (p := ⟨b, off + j * 4 + 2, none⟩) hb).trans x2
      replace x3 := (HBR.out.cell (p := ⟨b, off + j * 4 + 3, none⟩) hb).trans x3
      have HV : Hid (TrV W d (.agg #[c0, c1, c2, c3]) (ks.getD j tr0)) := hx
      obtain ⟨k', s', a', ad', len', cap', rfl, rfl, rfl, rfl⟩ := hx.cells
      clear hcell hx
      have HC : Hid (∀ c t, Calls Tryz.prog 12 #[.agg #[.int .i64 k', .string s', .string a', .slice ad' len' cap'], .int .i64 ((deep : Int) + 1), .pointer (some ⟨L, 0, none⟩)] (wr.alloc (.cells c t)) fun e w' => ∃ q : Bool, e = .returned (.bool q) ∧ Hid (Below W.heap.size W w' ∧ L < w'.heap.size ∧ w'.frozen? ⟨L, 0, none⟩ = false ∧
          (q = false → fineT (80 - deep) (ks.getD j tr0) ∧ ∃ n' : Nat, m = n' + cntT (80 - deep) (ks.getD j tr0) ∧ w'.cell? ⟨L, 0, none⟩ = some (.int .i64 (n' : Int))))) := by
        intro c t
        have hm5 : m ≤ 600 := by have := HS.out; omega
        exact HI.out _ _ _ m HV.out (HBR.out.alloc HBR.out.size _) hm5 (by rw [World.size_alloc]; omega) (by rw [World.cell?_alloc_lt _ _ _ (show L < _ from hLr)]; exact hcr) (by rw [frozen?_alloc_cells]; exact hfr2) (by omega)
      go_wp2_with (go_at_call 12; refine (HC.out _ _).mono ?_; rintro e w2 ⟨q, rfl, hq⟩; cases q)
      rotate_left
      · go_ret
        first | exact ⟨true, rfl, hF.out _ hq.out.1 hq.out.2.1 hq.out.2.2.1⟩ | exact .inr ⟨rfl, hF.out _ hq.out.1 hq.out.2.1 hq.out.2.2.1⟩
      · obtain ⟨hb2, hL2, hf2, hq2⟩ := hq.out
        obtain ⟨hfi, n', hn', hc'⟩ := hq2 (by first | rfl | trivial)
        go_roundw
        case rel =>
          refine ⟨j + 1, n', by omega, by go_num, hb2, hL2, hc', hf2, ?_, fun i hi => ?_⟩
          · rw [sumT_succ _ _ _ (by have := HK.out.1; omega)]
            have := HS.out
            omega
          · by_cases e : i = j
            · rw [e]; exact hfi
            · exact HFN.out i (by omega)
        case measure => simp [intOf]; omega
    · have HLE : Hid (len = ks.length) := HK.out.1
      have e : j = len := by omega
      subst e
      go_wp2
      go_ret
      have G : R false wr := hT.out wr HBR.out hLr hfr2 (by omega) (by omega) (by omega) (fun i hi => HFN.out i (by have := HLE.out; omega)) ⟨m, by have := HS.out; rw [← HLE.out]; omega, hcr⟩
      first | exact ⟨false, rfl, G⟩ | exact .inl ⟨rfl, G⟩
theorem far_any : ∀ (d : Nat) (v : Value) (t : Tr) (W w : World) (L deep n : Nat), TrV W d v t → Below W.heap.size W w → n ≤ 600 → L < w.heap.size → W.heap.size ≤ L → w.cell? ⟨L, 0, none⟩ = some (.int .i64 (n : Int)) → w.frozen? ⟨L, 0, none⟩ = false → deep ≤ 81 →
    Calls Tryz.prog 12 #[v, .int .i64 (deep : Int), .pointer (some ⟨L, 0, none⟩)] w fun e w' => ∃ q : Bool, e = .returned (.bool q) ∧ Below W.heap.size W w' ∧ L < w'.heap.size ∧ w'.frozen? ⟨L, 0, none⟩ = false ∧
      (q = false → fineT (81 - deep) t ∧ ∃ n' : Nat, n = n' + cntT (81 - deep) t ∧ w'.cell? ⟨L, 0, none⟩ = some (.int .i64 (n' : Int)))
  | 0, v, t, W, w, L, deep, n, h, _, _, _, _, _, _, _ => h.elim
  | d + 1, v, t, W, w, L, deep, n, h, hb, hn, hL, hWL, hc, hf, hd => by
    obtain ⟨ad, len, cap, rfl, hl, hcp, hm, hz, hk⟩ := h
    have m1 : maxLen = 9223372036854775807 := rfl
    have e1 : (mk t.text).size = t.text.length := mk_size _
    have e2 : (mk t.anc).size = t.anc.length := mk_size _
    refine far_core t.kind (mk t.text) (mk t.anc) ad len cap W w L deep n d t.kids (by omega) (by omega) (by omega) ⟨hl, hk⟩ hb hd hn hL hWL hc hf ?_ _ ?_ ?_
    · intro v' t' w' n' h1 h2 h3 h4 h5 h6 h7
      have := far_any d v' t' W w' L (deep + 1) n' h1 h2 h3 h4 hWL h5 h6 h7
      rw [show ((deep + 1 : Nat) : Int) = (deep : Int) + 1 by omega, show 81 - (deep + 1) = 80 - deep by omega] at this
      exact this
    · intro w' h1 h2 h3
      exact ⟨h1, h2, h3, fun h => by cases h⟩
    · intro w' h1 h2 h3 h4 h5 h6 h7 h8
      refine ⟨h1, h2, h3, fun _ => ?_⟩
      rw [show 81 - deep = (80 - deep) + 1 by omega]
      obtain ⟨n', hn', hc'⟩ := h8
      refine ⟨⟨by omega, by omega, h7⟩, n', ?_, hc'⟩
      rw [hn']
      unfold cntT sumT
      rw [List.take_length]
      omega
theorem sum_le2 {f g : Tr → Nat} : ∀ (l : List Tr), (∀ t ∈ l, f t ≤ g t) → (l.map f).sum ≤ (l.map g).sum
  | [], _ => Nat.le_refl _
  | t :: l, h => by
    rw [List.map_cons, List.map_cons, List.sum_cons, List.sum_cons]
    have := h t (by simp)
    have := sum_le2 l (fun u hu => h u (by simp [hu]))
    omega
theorem tsz_fine : ∀ {w : World} {d m : Nat} {v : Value} {t : Tr}, TrV w d v t → fineT m t → tsz d t ≤ cntT m t
  | w, 0, m, v, t, h, _ => h.elim
  | w, d + 1, 0, v, t, h, hf => hf.elim
  | w, d + 1, m + 1, v, t, h, hf => by
    obtain ⟨ad, len, cap, rfl, hl, hc, hm, hz, hk⟩ := h
    rw [tsz, cntT]
    refine Nat.add_le_add_left (sum_le2 _ fun u hu => ?_) 1
    obtain ⟨i, hi, rfl⟩ := List.getElem_of_mem hu
    obtain ⟨b, off, ha, hlt, hcell⟩ := hk (by omega)
    obtain ⟨c0, c1, c2, c3, h0, h1, h2, h3, ht⟩ := hcell i (by omega)
    have hfi := hf.2.2 i hi
    rw [List.getD_eq_getElem?_getD, List.getElem?_eq_getElem hi, Option.getD_some] at ht hfi
    exact tsz_fine ht hfi
/-- far, where a tree and a number have just been laid -/
theorem far_new {w : World} {d : Nat} {k : Int} {x a : Ln} {ad : Option Addr} {len cap : Nat} {t : Tr} (hV : TrV w d (tv k x a ad len cap) t) :
    Calls Tryz.prog 12 #[tv k x a ad len cap, .int .i64 0, .pointer (some ⟨w.heap.size + 1, 0, none⟩)] ((w.alloc (.cells #[.int .i64 k, .string (mk x), .string (mk a), .slice ad len cap] 29)).alloc (.cells #[.int .i64 600] 3)) fun e w' => ∃ q : Bool, e = .returned (.bool q) ∧ Hid (Below (w.heap.size + 1) (w.alloc (.cells #[.int .i64 k, .string (mk x), .string (mk a), .slice ad len cap] 29)) w') ∧ Hid (w.heap.size + 1 < w'.heap.size ∧ w'.frozen? ⟨w.heap.size + 1, 0, none⟩ = false) ∧ Hid (q = false → fineT 81 t ∧ cntT 81 t ≤ 600) ∧ Hid (q = false → ∃ n' : Nat, w'.cell? ⟨w.heap.size + 1, 0, none⟩ = some (.int .i64 (n' : Int))) := by
  have b1 := below_alloc w (.cells #[.int .i64 k, .string (mk x), .string (mk a), .slice ad len cap] 29)
  have s1 : (w.alloc (.cells #[.int .i64 k, .string (mk x), .string (mk a), .slice ad len cap] 29)).heap.size = w.heap.size + 1 := World.size_alloc _ _
  have hV1 := hV.later b1 (Nat.le_refl _)
  generalize w.alloc (.cells #[.int .i64 k, .string (mk x), .string (mk a), .slice ad len cap] 29) = w1 at b1 s1 hV1 ⊢
  have b2 := below_alloc w1 (.cells #[.int .i64 600] 3)
  have hcell := World.cell?_alloc_new w1 #[.int .i64 600] 3 0
  rw [s1] at hcell
  refine (far_any d _ t w1 _ (w.heap.size + 1) 0 600 hV1 b2 (Nat.le_refl _) (by rw [World.size_alloc]; omega) (by omega) (by rw [hcell]; rfl) ?_ (by omega)).mono ?_
  · rw [frozen?_alloc_cells]
    unfold World.frozen?
    rw [Array.getElem?_eq_none (by show w1.heap.size ≤ w.heap.size + 1; omega)]
  · rintro e w' ⟨q, rfl, hb, h1, h2, hq⟩
    rw [s1] at hb
    refine ⟨q, rfl, hb, ⟨h1, h2⟩, fun h => ?_, fun h => ?_⟩
    · obtain ⟨h3, n', hn, _⟩ := hq h
      exact ⟨h3, by have e : cntT (81 - 0) t = cntT 81 t := rfl
                    omega⟩
    · obtain ⟨h3, n', hn, hc⟩ := hq h
      exact ⟨n', hc⟩
/-- a tree in its box -/
structure MyS (w W : World) (tc : Array Value) : Prop where
  b : Bx W w.heap.size tc 29
  bl : Below w.heap.size w W
theorem MyS.later {w W W' : World} {tc : Array Value} (h : MyS w W tc) (hb : Below W.heap.size W W') : MyS w W' tc := ⟨h.b.later hb, h.bl.trans (hb.mono h.bl.size)⟩
theorem MyS.far {w W : World} {tc : Array Value} (h : Below (w.heap.size + 1) (w.alloc (.cells tc 29)) W) : MyS w W tc := by
  have b1 := below_alloc w (.cells tc 29)
  have s1 : (w.alloc (.cells tc 29)).heap.size = w.heap.size + 1 := World.size_alloc _ _
  rw [← s1] at h
  exact ⟨(Bx.new w tc _).later h, b1.trans (h.mono b1.size)⟩
end Go.Proofs.YtaphijgbebhdlaaGreatDoor.Grp
end
