/- lay: frames of texts in a row. -/
import Derived.Test.YthmoapigjafijaaFrameAlive
namespace Go.Proofs.Ythmoapigjafijaa.Frm
open Go.RowKit Crc
set_option linter.unusedSimpArgs false
set_option linter.unusedVariables false

theorem own_below {w w' : World} {B : Nat} {e : TypeId} {k n : Nat} {v : Value} {xs : List Value} (h : w.ownsRow B e k v n xs) (hb : Below w.heap.size w w') : w'.ownsRow B e k v n xs := by
  obtain ⟨h1, h2⟩ := h
  refine ⟨h1, ?_⟩
  rcases h2 with h2 | ⟨g, cap, cur, hv, hg, hh, rest⟩
  · exact .inl h2
  · refine .inr ⟨g, cap, cur, hv, hg, ?_, rest⟩
    rw [hb.block g (Array.getElem?_eq_some_iff.1 hh).1]
    exact hh
theorem lays_take (ps : List (List UInt8)) (s k : Nat) (h : k < ps.length) : lays (ps.take (k + 1)) s = lays (ps.take k) s ++ frm (s + k) (ps.getD k []) := by
  rw [List.take_succ_eq_append_getElem h, lays_app, List.length_take, Nat.min_eq_left (by omega), List.getD_eq_getElem?_getD, List.getElem?_eq_getElem h]
  simp [lays]
theorem lays_len (ps : List (List UInt8)) (s : Nat) : (lays ps s).length = 20 * ps.length + (ps.map List.length).sum := by
  induction ps generalizing s with
  | nil => rfl
  | cons d r ih => rw [lays, List.length_append, frm_len, ih, List.length_cons, List.map_cons, List.sum_cons]; omega
theorem sum_take_le (ps : List (List UInt8)) (k : Nat) : ((ps.take k).map List.length).sum ≤ (ps.map List.length).sum := by
  have h : (ps.map List.length).sum = ((ps.take k).map List.length).sum + ((ps.drop k).map List.length).sum := by
    rw [← List.sum_append, ← List.map_append, List.take_append_drop]
  omega
theorem lays_take_le (ps : List (List UInt8)) (s k : Nat) : (lays (ps.take k) s).length ≤ 20 * ps.length + (ps.map List.length).sum := by
  rw [lays_len]
  have := sum_take_le ps k
  have : (ps.take k).length ≤ ps.length := by rw [List.length_take]; omega
  omega
def LayRes (w : World) (ps : List (List UInt8)) (s : Nat) (e : Ending) (w' : World) : Prop :=
  Below w.heap.size w w' ∧ ((¬ fits ps ∧ e = .returned (.tuple #[.slice none 0 0, .bool false])) ∨ (fits ps ∧ ∃ v, e = .returned (.tuple #[v, .bool true]) ∧ w'.ownsRow w.heap.size 5 1 v (lays ps s).length (byC (lays ps s))))

set_option maxHeartbeats 1000000 in
theorem lay_any (a : Option Addr) (len cap : Nat) (ps : List (List UInt8)) (s : Nat) (w : World) (hl : Parts w a len ps) (h1 : 1 ≤ s) (h2 : s + len ≤ 4611686018427387904) (hm : 20 * ps.length + (ps.map List.length).sum ≤ 70368744177664) :
    Calls Try.prog 20 #[.slice a len cap, .int .i64 s] w fun e w' => LayRes w ps s e w' := by
  have HZ : Hid (Parts w a len ps) := hl
  have HL : Hid (len = ps.length) := hl.1
  have HM : Hid (20 * ps.length + (ps.map List.length).sum ≤ 70368744177664) := hm
  have hln : 20 * len ≤ 70368744177664 := by rw [hl.1]; omega
  clear hl hm
  obtain ⟨i0, hi, hz0, hz1, hz2⟩ := info_parts infoByte
  go_enter Try.func20, Try.ntmps20
  go_wp2
  go_loopw [6, 13] (fun v i wr => ∃ k : Nat, k ≤ len ∧ i = .int .i64 k ∧ wr.ownsRow w.heap.size 5 1 v (lays (ps.take k) s).length (byC (lays (ps.take k) s)) ∧ Below w.heap.size w wr ∧ ∀ j, j < k → (ps.getD j []).length ≤ most) (fun _ i _ => len - (intOf i).toNat)
  case atStart => exact ⟨0, Nat.zero_le _, rfl, World.ownsRow_nil _ _ _ _, Below.refl _ _, fun j hj => by omega⟩
  case round =>
    obtain ⟨k, hk, rfl, hown, hbe, hft⟩ := hrel
    have HO : Hid (wr.ownsRow w.heap.size 5 1 u6 (lays (ps.take k) s).length (byC (lays (ps.take k) s))) := hown
    have HBE : Hid (Below w.heap.size w wr) := hbe
    have HFT : Hid (∀ j, j < k → (ps.getD j []).length ≤ most) := hft
    clear hown hbe hft
    by_cases hlt : k < len
    · obtain ⟨b, off, rfl, hb, hc⟩ := HZ.out.2 (by omega)
      obtain ⟨pa, pl, pc, hck, hBp, hpm⟩ := hc k hlt
      have hck2 := (HBE.out.cell (p := ⟨b, off + k, none⟩) hb).trans hck
      have HBp : Hid (Bys wr pa pl (ps.getD k [])) := hBp.later HBE.out (Nat.le_refl _)
      have HPL : Hid (pl = (ps.getD k []).length) := hBp.1
      have HNX : Hid (_ = _) := lays_take ps s k (by rw [← HL.out]; exact hlt)
      have HLE : Hid ((lays (ps.take (k + 1)) s).length ≤ 70368744177664) := Nat.le_trans (lays_take_le ps s (k + 1)) HM.out
      clear hc hck hBp hpm
      obtain ⟨q, HQ⟩ : ∃ q, Hid (q = s + k) := ⟨_, rfl⟩
      have hqe : (s : Int) + (k : Int) = (q : Int) := by rw [HQ.out]; omega
      have hq1 : 1 ≤ q := by rw [HQ.out]; omega
      have hq2 : q ≤ 4611686018427387904 := by rw [HQ.out]; omega
      by_cases hbig : 262144 < pl
      · have HBG : Hid (262144 < pl) := hbig
        clear hbig
        go_wp2_with fail
        refine (put_many q _ _ _ _ hq1 hq2 HBG.out).mono ?_
        rintro e w1 ⟨rfl, hB1⟩
        have HB1 : Hid (Below w.heap.size w w1) := HBE.out.trans (hB1.mono HBE.out.size)
        clear hB1
        go_wp2
        refine bodyPost_ret (results_tmp2 rfl _ _ _) rfl ⟨HB1.out, .inl ⟨?_, rfl⟩⟩
        intro hf
        have h := hf (ps.getD k []) (by rw [List.getD_eq_getElem?_getD, List.getElem?_eq_getElem (by rw [← HL.out]; exact hlt)]; exact List.getElem_mem _)
        have h3 := HPL.out
        have h4 := HBG.out
        unfold most at h
        omega
      · have hpl : pl ≤ 262144 := by omega
        clear hbig
        go_wp2_with fail
        refine (put_ok q _ _ _ (ps.getD k []) _ hq1 hq2 HBp.out hpl).mono ?_
        rintro e w1 ⟨g, hg, rfl, hR, hB1⟩
        have HB1 : Hid (Below w.heap.size w w1) := HBE.out.trans (hB1.mono HBE.out.size)
        have HO1 : Hid (w1.ownsRow w.heap.size 5 1 u6 (lays (ps.take k) s).length (byC (lays (ps.take k) s))) := own_below HO.out hB1
        obtain ⟨F, HF⟩ : ∃ F, Hid (F = frm q (ps.getD k [])) := ⟨_, rfl⟩
        rw [← HF.out] at hR
        have HR : Hid (Row w1 g 5 (byC F)) := hR
        have HFL : Hid (F.length = 20 + pl) := by show _ = _; rw [HF.out, frm_len, HPL.out]
        rw [← HQ.out, ← HF.out] at HNX
        have hle : (lays (ps.take k) s).length + (20 + pl) ≤ 70368744177664 := by
          have := HLE.out
          rw [HNX.out, List.length_append, HFL.out] at this
          exact this
        obtain ⟨m, HMM⟩ : ∃ m, Hid (m = 20 + pl) := ⟨_, rfl⟩
        rw [← HMM.out] at hle HFL ⊢
        obtain ⟨T, HT⟩ : ∃ T, Hid (T = lays (ps.take k) s) := ⟨_, rfl⟩
        rw [← HT.out] at HO1 hle HNX
        have HBs := HB1.out.size
        clear hB1 hR hg
        go_wp2_with (at_builtin; refine wpList_append_own _ rfl _ _ 22 rfl w.heap.size 5 i0 (.int .u8 0) 1 1 Try.underlying22 hi hz0 hz1 hz2 rfl (by decide) _ _ _ rfl HO1.out ⟨g, 0, none⟩ m m (byC F) rfl (by rw [byC_len, Nat.mul_one]; exact HFL.out) (fun j u hu => by rw [Addr.add_mid, Nat.zero_add, HR.out.cell]; exact hu) (byC_one _) ?_ ?_ ?_ ?_)
        · unfold maxLen; omega
        · omega
        · exact HBs
        intro v' w2 hown' hgrow _
        have HB2 : Hid (Below w.heap.size w w2) := HB1.out.grown hgrow HBs (fun j hj => (HO1.out.lt j hj).1)
        have HO2 : Hid (w2.ownsRow w.heap.size 5 1 v' (lays (ps.take (k + 1)) s).length (byC (lays (ps.take (k + 1)) s))) := by
          rw [HNX.out, List.length_append, HFL.out]
          unfold byC at hown' ⊢
          rw [List.map_append]
          exact hown'
        have HF2 : Hid (∀ j, j < k + 1 → (ps.getD j []).length ≤ most) := by
          intro j hj
          by_cases e : j = k
          · subst e; have h := HPL.out; unfold most; omega
          · exact HFT.out j (by omega)
        clear hown' hgrow
        go_wp2
        go_roundw
        case rel => exact ⟨k + 1, by omega, by go_num, HO2.out, HB2.out, HF2.out⟩
        case measure => simp [intOf]; omega
    · have HK : Hid (ps.take k = ps) := by
        show _ = _
        exact List.take_of_length_le (by have := HL.out; omega)
      rw [HK.out] at HO
      go_wp2
      refine bodyPost_ret (results_tmp2 rfl _ _ _) rfl ⟨HBE.out, .inr ⟨?_, _, rfl, HO.out⟩⟩
      intro d hd
      obtain ⟨j, hj, e⟩ := List.getElem_of_mem hd
      have h := HFT.out j (by have := HL.out; omega)
      rw [List.getD_eq_getElem?_getD, List.getElem?_eq_getElem hj] at h
      rw [← e]
      exact h

end Go.Proofs.Ythmoapigjafijaa.Frm
