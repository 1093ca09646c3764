/- Start, where the power is off. -/
import Derived.Test.YtedpiikdlpehjaaDiskStart
namespace Go.Proofs.Ytedpiikdlpehjaa.Dsk
open Go Go.RowKit Go.Maps
set_option linter.unusedSimpArgs false
set_option linter.unusedVariables false

/-- the disk in the midst of Start -/
def M.mid (m : M) (t : Tbl) (fs : List Fl) : M := { m with names := t, kept := t, since := [], files := fs }
section
variable {w : World} {F : Nat → Prop} {d : Nat} {m : M} {ad : List Nat} {dv : List Value} {nB kB : Nat} {sv : Value}
theorem getD_none {α : Type} (l : List α) (i : Nat) (z : α) (h : l.length ≤ i) : l.getD i z = z := by
  rw [List.getD_eq_getElem?_getD, List.getElem?_eq_none h]; rfl
theorem DiskIn.cut_at (h : DiskIn w F d m ad dv nB kB sv) (i : Nat) (hi : i < m.files.length) (hok : FOk m.files m.room) (hr : m.room ≤ 1048576) (more : Int) :
    Go.Calls Try.prog 50 #[.pointer (some ⟨ad.getD i 0, 0, none⟩), .int .i64 more] w fun e w' => e = .returned (.tuple #[]) ∧ ∃ dv', DiskIn w' F d { m with files := m.files.set i ((m.file i).cut more) } ad dv' nB kB sv ∧ Only (· = ad.getD i 0) w w' := by
  obtain ⟨a, c, hv, hb, h1, h2, h3, h4⟩ := (h.file i hi).held.bys
  have hcell := (h.file i hi).cell
  have hheld := (h.file i hi).held
  have hf := hok i hi
  rw [hv] at hcell hheld
  refine (cut_any (ad.getD i 0) a c (m.file i) more w hcell h1 hf.1 (Nat.le_trans hf.2 hr) h2).mono fun e w' ⟨he, hR, hO⟩ => ⟨he, dv.set i (.slice a ((m.file i).more more) ((m.file i).more more)), ?_, hO⟩
  have hml := more_le (m.file i) more hf.1
  have hT := hheld.take ((m.file i).more more) hml.2
  have hrow : ∀ b, Value.ownBlock (.slice a ((m.file i).more more) ((m.file i).more more)) = some b → (dv.getD i undef).ownBlock = some b := fun b hb' => by
    rw [hv]
    cases a <;> exact hb'
  refine (h.refile hi hO.size (fun k hk q1 q2 => hO.block k (h.lt k hk) q1) ⟨hR, hT.at_ fun b hb' => hO.block b (hT.lt hb') fun q => ?_⟩ (fun b hb' => .inl (hrow b hb'))).mono (fun k hk => hk.elim id fun q => h.fr i hi k (hrow k q)) (fun k hk => Nat.lt_of_lt_of_le (h.lt k hk) hO.size)
  obtain ⟨cur, hr'⟩ := hT.row hb'
  have q' : b = ad.getD i 0 := q
  exact absurd ((q' ▸ hr').inj hcell).1 (by decide)
def StartRes (F : Nat → Prop) (d : Nat) (m' : M) (ad : List Nat) (kB : Nat) (w w' : World) : Prop := ∃ F' dv' nB', DiskIn w' F' d m' ad dv' nB' kB (.slice none 0 0) ∧ (∀ k, F' k → F k ∨ w.heap.size ≤ k) ∧ Only F w w'
set_option maxHeartbeats 2000000 in
theorem DiskIn.start_off (h : DiskIn w F d m ad dv nB kB sv) (hW : Wf m) (ho : m.on = false) (hcl : m.calls < 1099511627776) (ch : Int) (ka : Option Addr) (klen kcap : Nat) (zs : List Int) (hK : Ints w ka klen zs) (hkl : klen ≤ kcap) (hkm : kcap ≤ maxLen) (hsrc : ∀ b off, ka = some ⟨b, off, none⟩ → 0 < klen → ¬ F b) :
    Go.Calls Try.prog 25 #[.pointer (some ⟨d, 0, none⟩), .int .i64 ch, .slice ka klen kcap] w fun e w' => e = .returned (.int .i64 0) ∧ StartRes F d (m.start ch zs).1 ad kB w w' := by
  have h1 := isMade_at d w h.c0
  have hc1 := h.c1
  rw [ho] at hc1
  have hc7 := h.c7
  obtain ⟨sa, sc, hsv⟩ : ∃ a c, sv = .slice a m.since.length c := by
    rcases h.since.2 with ⟨q, q0⟩ | ⟨g, cap, cur, q, _⟩
    · have q1 : m.since.length = 0 := q0
      exact ⟨_, _, by rw [q, q1]⟩
    · exact ⟨_, _, q⟩
  rw [hsv] at hc7
  obtain ⟨t, HT⟩ : ∃ t, Hid (t = Dsk.settle m.kept (m.since.take (many ch m.since.length))) := ⟨_, rfl⟩
  have h2 := h.settle (many ch m.since.length) (by unfold many; omega) (Nat.le_trans hW.sinceN (Nat.le_of_lt hcl)) hW.nms hW.few
  have hmany : ((many ch m.since.length : Nat) : Int) = min (max ch 0) (m.since.length : Int) := by unfold many; omega
  rw [hmany] at h2
  obtain ⟨sl, HSL⟩ : ∃ x, Hid (x = m.since.length) := ⟨_, rfl⟩
  rw [← HSL.out] at h2 hc7
  have hset : m.settled (many ch sl) = { m with kept := t, since := [] } := by rw [HT.out, HSL.out]; rfl
  rw [hset] at h2
  have HOKT : Hid (Ok t m.files.length ∧ t.length ≤ 64) := by rw [HT.out]; exact ⟨hW.ok _, hW.few _⟩
  have HFOK : Hid (FOk m.files m.room ∧ m.room ≤ 1048576) := ⟨hW.files, hW.room⟩
  have HST : Hid ((m.start ch zs).1 = { m with on := true, fuse := -1, names := t, kept := t, since := [], files := cuts t zs m.files t.length }) := by
    show _ = _
    rw [HT.out]
    unfold M.start
    rw [ho]
    rfl
  have HKI : Hid (Ints w ka klen zs) := hK
  have HSRC : Hid (∀ b off, ka = some ⟨b, off, none⟩ → 0 < klen → ¬ F b) := hsrc
  have HLT : Hid (∀ k, F k → k < w.heap.size) := h.lt
  have HKM : Hid (klen ≤ kcap ∧ kcap ≤ maxLen) := ⟨hkl, hkm⟩
  unfold maxLen at hkm
  clear h hW ho hcl hK hsrc hsv hmany hset
  go_enter Try.func25, Try.ntmps25
  go_wp2_with (go_at_call 41; refine h1.mono ?_; rintro e w' ⟨rfl, rfl⟩)
  refine h2.mono ?_
  rintro e w1 ⟨rfl, h3, hO1⟩
  have H3 : Hid (DiskIn w1 F d { m with kept := t, since := [] } ad dv nB kB (.slice none 0 0)) := h3
  have HO1 : Hid (Only F w w1) := hO1
  have hc6 := h3.c6
  have h4 := clone_tbl kB ad t w1 h3.kept
  clear h1 h2 hc1 hc7 h3 hO1
  go_wp2_with fail
  refine h4.mono ?_
  rintro e w2 ⟨rfl, hT2, hB2⟩
  obtain ⟨nB', HNB⟩ : ∃ x, Hid (x = w1.heap.size) := ⟨_, rfl⟩
  rw [← HNB.out] at hT2 ⊢
  have HD2 : Hid (DiskIn w2 F d { m with kept := t, since := [] } ad dv nB kB (.slice none 0 0)) := H3.out.at_ hB2.size fun k hk => hB2.block k (H3.out.lt k hk)
  have hc5 := HD2.out.c5
  have hf5 := HD2.out.cell.free 5
  obtain ⟨W, HW⟩ : ∃ W, Hid (W = w2.setCell ⟨d, 5, none⟩ (.map (some nB'))) := ⟨_, rfl⟩
  have HDW : Hid (DiskIn W (fun k => F k ∨ k = nB') d (m.mid t m.files) ad dv nB' kB (.slice none 0 0)) := by
    rw [HW.out]
    have hnF : ¬ F nB' := fun q => by have := H3.out.lt nB' q; have := HNB.out; omega
    have hnd : nB' ≠ d := fun q => hnF (q ▸ H3.out.fd)
    exact HD2.out.renamed (by simp [World.setCell]) (fun k hk q => Below.heap_setCell _ _ _ _ q) (HD2.out.cell.set 5 _) (hT2.at_ (Below.heap_setCell _ _ _ _ hnd)) hnF
  have HOW : Hid (Only F w W) := by
    rw [HW.out]
    exact (HO1.out.step (Only.of_below hB2)).setCell (.inl H3.out.fd) _
  have HF' : Hid (∀ k, (F k ∨ k = nB') → F k ∨ w.heap.size ≤ k) := by
    rintro k (q | q)
    · exact .inl q
    · right; have := HO1.out.size; have := HNB.out; omega
  have hc5W : W.cell? ⟨d, 5, none⟩ = some (.map (some nB')) := HDW.out.c5
  have h5 := rising_any nB' ad t W HDW.out.names HOKT.out.1.rise HOKT.out.2
  clear hc6 h4 hT2 hB2 H3 HO1 HD2
  have hWe : w2.setCell ⟨d, 5, none⟩ (.map (some nB')) = W := HW.out.symm
  clear HW
  go_wp2_with fail
  clear hWe hc5 hf5
  refine h5.mono ?_
  rintro e w4 ⟨v, rfl, hTx, hB4⟩
  obtain ⟨va, vc, hva⟩ := hTx.form
  have hml : (t.map (·.1)).length = t.length := List.length_map ..
  rw [hml] at hva
  subst hva
  have HD4 : Hid (DiskIn w4 (fun k => F k ∨ k = nB') d (m.mid t m.files) ad dv nB' kB (.slice none 0 0)) := HDW.out.at_ hB4.size fun k hk => hB4.block k (HDW.out.lt k hk)
  have HO4 : Hid (Only F w w4) := HOW.out.step (Only.of_below hB4)
  obtain ⟨B, HBB⟩ : ∃ B, Hid (B = W.heap.size) := ⟨_, rfl⟩
  obtain ⟨L, HL⟩ : ∃ L, Hid (L = t.length) := ⟨_, rfl⟩
  rw [← HL.out] at hTx ⊢
  rw [← HBB.out] at hTx
  have HTX : Hid (Texts w4 B (.slice va L vc) (t.map (·.1))) := hTx
  have HFB : Hid (∀ k, (F k ∨ k = nB') → k < B) := fun k hk => by rw [HBB.out]; exact HDW.out.lt k hk
  have hL64 : L ≤ 64 := by rw [HL.out]; exact HOKT.out.2
  clear h5 hTx hB4 hml hc5W HDW HOW
  go_wp2_with fail
  go_loopw [41] (fun i wr => ∃ j : Nat, j ≤ L ∧ i = .int .i64 j ∧ (∃ dv', DiskIn wr (fun k => F k ∨ k = nB') d (m.mid t (cuts t zs m.files j)) ad dv' nB' kB (.slice none 0 0)) ∧ Texts wr B (.slice va L vc) (t.map (·.1)) ∧ Only F w wr) (fun i _ => L - (intOf i).toNat)
  case atStart => exact ⟨0, Nat.zero_le _, rfl, ⟨dv, HD4.out⟩, HTX.out, HO4.out⟩
  case round =>
    obtain ⟨j, hj, rfl, ⟨dv', hD⟩, hTx, hO⟩ := hrel
    have HD : Hid (DiskIn wr (fun k => F k ∨ k = nB') d (m.mid t (cuts t zs m.files j)) ad dv' nB' kB (.slice none 0 0)) := hD
    have HTx : Hid (Texts wr B (.slice va L vc) (t.map (·.1))) := hTx
    have HO : Hid (Only F w wr) := hO
    clear hD hTx hO HD4 HTX HO4
    by_cases hlt : j < L
    · have hjt : j < t.length := by rw [← HL.out]; exact hlt
      obtain ⟨p, HP⟩ : ∃ p, Hid (t[j]? = some p) := ⟨_, List.getElem?_eq_getElem hjt⟩
      have hpm : p ∈ t := List.mem_of_getElem? HP.out
      have hp2 := HOKT.out.1.less p hpm
      have HLK : Hid (look t p.1 = some p.2) := mem_look HOKT.out.1.rise (by exact hpm)
      obtain ⟨g, cap, hvq, hBg, hgl, hcg, hcap1, hcap2⟩ := HTx.out.cell (j := j) (n := p.1) (by rw [List.getElem?_map, HP.out]; rfl)
      have hva : va = some ⟨g, 0, none⟩ := by cases hvq; rfl
      have hvc : vc = cap := by cases hvq; rfl
      clear hvq
      subst hva
      subst hvc
      have hnl : p.1.length ≤ maxLen := by
        have := HOKT.out.1.nms p hpm
        simp only [isNm, Bool.and_eq_true, decide_eq_true_eq] at this
        unfold maxLen
        omega
      have hlk := HD.out.names.lookup hnl
      rw [show (m.mid t (cuts t zs m.files j)).names = t from rfl, HLK.out] at hlk
      simp only [pv] at hlk
      have hc5 := HD.out.c5
      obtain ⟨nm, HNM⟩ : ∃ x, Hid (x = str p.1) := ⟨_, rfl⟩
      rw [← HNM.out] at hlk hcg
      obtain ⟨fb, HFBB⟩ : ∃ x, Hid (x = ad.getD p.2 0) := ⟨_, rfl⟩
      rw [← HFBB.out] at hlk
      obtain ⟨mo, HMO⟩ : ∃ x, Hid (x = zs.getD j 0) := ⟨_, rfl⟩
      have HCUT : Hid (Go.Calls Try.prog 50 #[.pointer (some ⟨fb, 0, none⟩), .int .i64 mo] wr fun e w' => e = .returned (.tuple #[]) ∧ ∃ dv'', DiskIn w' (fun k => F k ∨ k = nB') d (m.mid t (cuts t zs m.files (j + 1))) ad dv'' nB' kB (.slice none 0 0) ∧ Only (· = fb) wr w') := by
        have hq := HD.out.cut_at p.2 (by show p.2 < (cuts t zs m.files j).length; rw [cuts_len]; exact hp2) (cuts_fok HFOK.out.1 t zs HOKT.out.1.less j) HFOK.out.2 mo
        rw [← HFBB.out] at hq
        refine hq.mono fun e w' ⟨h1, dv'', h2, h3⟩ => ⟨h1, dv'', ?_, h3⟩
        rw [cuts_next t zs m.files j HP.out, ← HMO.out]
        exact h2
      have HFF : Hid (F fb ∨ fb = nB') := by rw [HFBB.out]; exact HD.out.ff p.2 (by show p.2 < (cuts t zs m.files j).length; rw [cuts_len]; exact hp2)
      have hcm2 := hcap2
      unfold maxLen at hcm2
      have HEND : Hid (∀ w', (∃ dv'', DiskIn w' (fun k => F k ∨ k = nB') d (m.mid t (cuts t zs m.files (j + 1))) ad dv'' nB' kB (.slice none 0 0) ∧ Only (· = fb) wr w') → (∃ dv'', DiskIn w' (fun k => F k ∨ k = nB') d (m.mid t (cuts t zs m.files (j + 1))) ad dv'' nB' kB (.slice none 0 0)) ∧ Texts w' B (.slice (some ⟨g, 0, none⟩) L vc) (t.map (·.1)) ∧ Only F w w') := by
        rintro w' ⟨dv'', k1, k2⟩
        refine ⟨⟨dv'', k1⟩, HTx.out.at_ fun b hb => k2.block b ?_ ?_, HO.out.trans k2 fun i hi => ?_⟩
        · simp [Value.ownBlock] at hb; omega
        · intro q
          simp [Value.ownBlock] at hb
          have := HFB.out fb HFF.out
          have q' : b = fb := q
          omega
        · have hi' : i = fb := hi
          rw [hi']
          exact HF'.out fb HFF.out
      have hcap3 : L ≤ vc := by rw [List.length_map, ← HL.out] at hcap1; exact hcap1
      clear hjt hpm hp2 hnl hBg hcap1 hcap2
      by_cases hk : j < klen
      · obtain ⟨kb, ko, hka, hkb, hkc⟩ := (HKI.out.only HO.out HSRC.out).2 (by omega)
        have hck := hkc j hk
        rw [← HMO.out] at hck
        subst hka
        clear hkb
        clear hkc
        go_wp2_with (go_at_call 50; refine HCUT.out.mono ?_; rintro e w' ⟨rfl, hfin⟩)
        have hE := HEND.out _ hfin
        go_roundw
        case rel => exact ⟨j + 1, by omega, by go_num, hE⟩
        case measure => simp [intOf]; omega
      · have hmz : mo = 0 := by rw [HMO.out]; exact getD_none _ _ _ (by have := HKI.out.1; omega)
        rw [hmz] at HCUT
        clear hmz
        go_wp2_with (go_at_call 50; refine HCUT.out.mono ?_; rintro e w' ⟨rfl, hfin⟩)
        have hE := HEND.out _ hfin
        go_roundw
        case rel => exact ⟨j + 1, by omega, by go_num, hE⟩
        case measure => simp [intOf]; omega
    · have hjL : j = L := by omega
      subst hjL
      have hc1 := HD.out.c1
      have hf1 := HD.out.cell.free 1
      have H6 : Hid (DiskIn (wr.setCell ⟨d, 1, none⟩ (.bool true)) (fun k => F k ∨ k = nB') d { (m.mid t (cuts t zs m.files j)) with on := true } ad dv' nB' kB (.slice none 0 0)) := HD.out.setm 1 _ rfl rfl rfl rfl rfl
      have hc4 := H6.out.c4
      have hf4 := H6.out.cell.free 4
      have H7 : Hid (DiskIn ((wr.setCell ⟨d, 1, none⟩ (.bool true)).setCell ⟨d, 4, none⟩ (.int .i64 (-1))) (fun k => F k ∨ k = nB') d (m.start ch zs).1 ad dv' nB' kB (.slice none 0 0)) := by
        rw [HST.out, ← HL.out]
        exact H6.out.setm 4 _ rfl rfl rfl rfl rfl
      have H8 : Hid (Only F w ((wr.setCell ⟨d, 1, none⟩ (.bool true)).setCell ⟨d, 4, none⟩ (.int .i64 (-1)))) := by
        have hFd : F d ∨ w.heap.size ≤ d := HF'.out d HD.out.fd
        exact (HO.out.setCell (p := ⟨d, 1, none⟩) hFd _).setCell (p := ⟨d, 4, none⟩) hFd _
      generalize (m.mid t (cuts t zs m.files j)).on = on' at hc1
      generalize M.fuse _ = fu' at hc4
      go_wp2
      go_ret
      exact ⟨rfl, _, _, _, H7.out, HF'.out, H8.out⟩
end
end Go.Proofs.Ytedpiikdlpehjaa.Dsk
