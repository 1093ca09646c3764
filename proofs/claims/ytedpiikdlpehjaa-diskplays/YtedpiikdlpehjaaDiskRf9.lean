/- The document's disk: Rename. -/
import Derived.Test.YtedpiikdlpehjaaDiskRf8
namespace Go.Proofs.Ytedpiikdlpehjaa.Dsk
open Go Go.RowKit Go.Maps
set_option linter.unusedSimpArgs false
set_option linter.unusedVariables false

section
variable {w : World} {X : Nat → Prop} {rb : Nat} {m : M} {fv nv kv av : Value}
set_option maxHeartbeats 1000000 in
theorem RIn.rename (h : RIn w X rb m fv nv kv av) (hW : Wf m) (hc : m.calls ≤ 1000) (n b : Nm) (hbm : b.length ≤ maxLen) : Calls Try.prog 31 #[.pointer (some ⟨rb, 0, none⟩), .string (str n), .string (str b)] w fun e w' => e = .returned (.int .i64 (m.rename n b).2) ∧ RPost w X rb w' (m.rename n b).1 := by
  have H : Hid (RIn w X rb m fv nv kv av) := h
  obtain ⟨us, hus, hone, hvs⟩ := h.aft.vals
  have HUS : Hid (SlC w X 1 av (afts m).length us) := hus
  have HVS : Hid (∀ (i : Nat) (t : Tbl) (u : Value), (afts m)[i]? = some t → us[i]? = some u → SlC w X 2 u t.length (cellsE t)) := hvs
  obtain ⟨na, nc, hnv⟩ := h.names.form
  obtain ⟨aa, ac, hav⟩ := hus.form
  subst hnv hav
  have HCS : Hid (m.since.length ≤ 1000) := by have := hW.sinceN; unfold Hid; omega
  have HNL : Hid (m.names.length ≤ 1000000) := by
    have q := hW.few m.since.length
    rw [List.take_length, ← hW.names] at q
    unfold Hid
    omega
  have hfd := find_any h.names.ents n
  have c2 : w.cell? ⟨rb, 2, none⟩ = some (.slice na m.names.length nc) := h.row.cell 2
  obtain ⟨R, HRR⟩ : ∃ R, Hid (R = m.rename n b) := ⟨_, rfl⟩
  rw [← HRR.out]
  go_enter Try.func31, Try.ntmps31
  go_wp2_with fail
  refine hfd.mono ?_
  rintro e w1 ⟨rfl, hB1⟩
  have HB1 : Hid (Below w.heap.size w w1) := hB1
  have HR1 : Hid (Row w1 rb 33 (rC m fv (.slice na m.names.length nc) kv (.slice aa (afts m).length ac))) := H.out.row.at_ (hB1.block _ H.out.row.lt)
  have d6 : w1.cell? ⟨rb, 6, none⟩ = some (.bool (!m.on)) := HR1.out.cell 6
  clear hfd c2 h hus hvs hB1
  by_cases h1 : m.on = false
  · rw [h1] at d6
    go_wp2
    go_ret
    have e : R = (m, 15) := by rw [HRR.out]; unfold M.rename; rw [if_pos h1]
    rw [e]
    exact ⟨rfl, H.out.same HB1.out⟩
  have ho : m.on = true := by simpa using h1
  rw [ho] at d6
  cases hq : look m.names n with
  | none =>
    rw [lookI_none hq]
    go_wp2
    go_ret
    have e : R = (m, 6) := by rw [HRR.out]; unfold M.rename; rw [if_neg h1, hq]
    rw [e]
    exact ⟨rfl, H.out.same HB1.out⟩
  | some i =>
    rw [lookI_some hq]
    have hi0 : decide ((i : Int) < 0) = false := decide_eq_false (by omega)
    have HI : Hid (i ≤ 1000) := by
      have q := hW.okN.less (n, i) (look_mem hq)
      have := hW.filesN
      simp only at q
      unfold Hid
      omega
    have hnm := rname_any b w1 hbm
    go_wp2_with fail
    refine hnm.mono ?_
    rintro e wn ⟨rfl, hBn⟩
    have HBn : Hid (Below w.heap.size w wn) := HB1.out.trans (hBn.mono HB1.out.size)
    have HRn : Hid (Row wn rb 33 (rC m fv (.slice na m.names.length nc) kv (.slice aa (afts m).length ac))) := HR1.out.at_ (hBn.block _ HR1.out.lt)
    clear hnm hBn
    cases hnb : isNm b with
    | false =>
      go_wp2
      go_ret
      have e : R = (m, 1) := by rw [HRR.out]; unfold M.rename; rw [if_neg h1, hq]; simp only [hnb, if_true]
      rw [e]
      exact ⟨rfl, H.out.same HBn.out⟩
    | true =>
      by_cases h2 : m.fuse = 0
      · have hb := burns_off HRn.out h2
        go_wp2_with fail
        refine hb.mono ?_
        rintro e w2 ⟨rfl, hR2, hO2⟩
        clear hb
        go_wp2
        go_ret
        have e : R = (m.off, 15) := by
          rw [HRR.out]
          unfold M.rename
          rw [if_neg h1, hq]
          simp only [hnb, M.does, if_pos h2]
          split <;> simp_all
        rw [e]
        exact ⟨rfl, H.out.offd ((Only.of_below HBn.out).step hO2) hR2⟩
      · have hb := burns_on HRn.out h2 hW.fuse (by omega)
        go_wp2_with fail
        refine hb.mono ?_
        rintro e w2 ⟨rfl, hR2, hO2⟩
        have HR2 : Hid (Row w2 rb 33 (rC m.spent fv (.slice na m.names.length nc) kv (.slice aa (afts m).length ac))) := hR2
        have HO2 : Hid (Only (· = rb) w w2) := (Only.of_below HBn.out).step hO2
        by_cases hab : n = b
        · subst hab
          have hqq : ((str n).toList == (str n).toList) = true := beq_self_eq_true _
          clear hb hR2 hO2 d6 hi0
          go_wp2
          go_ret
          have e : R = (m.spent, 0) := by
            rw [HRR.out]
            unfold M.rename
            rw [if_neg h1, hq]
            simp only [hnb, M.does, if_neg h2]
            simp
          rw [e]
          exact ⟨rfl, ⟨⟨_, _, _, _, H.out.keep (w1 := w) HO2.out HR2.out rfl rfl rfl rfl⟩, HO2.out⟩⟩
        have hqq : ((str n).toList == (str b).toList) = false := str_ne hab
        have e2 : w2.cell? ⟨rb, 2, none⟩ = some (.slice na m.names.length nc) := hR2.cell 2
        have hwo := without_any (H.out.names.keep HO2.out H.out.rbx).ents n HNL.out
        clear hb hR2 hO2 d6 hi0
        go_wp2_with fail
        refine hwo.mono ?_
        rintro e w3 ⟨lv, rfl, hO3, hB3⟩
        have HL3 : Hid (w3.ownsRow w2.heap.size 71 2 lv (del m.names n).length (cellsE (del m.names n))) := hO3
        obtain ⟨la, lc, hlv⟩ : ∃ la lc, lv = .slice la (del m.names n).length lc := (slc_own hO3 (cellsE_len _)).form
        subst hlv
        have HB3 : Hid (Only (· = rb) w w3) := HO2.out.step (Only.of_below hB3)
        have HR3 : Hid (Row w3 rb 33 (rC m.spent fv (.slice na m.names.length nc) kv (.slice aa (afts m).length ac))) := HR2.out.at_ (hB3.block _ HR2.out.lt)
        have hwi := with_any (v := .slice la (del m.names n).length lc) (t := del m.names n) (ents_own HL3.out) b i (by have q : (del m.names n).length ≤ m.names.length := List.length_filter_le _ _; have := HNL.out; omega) (by have := HI.out; omega)
        clear hwo hO3 e2
        go_wp2_with fail
        refine hwi.mono ?_
        rintro e w5 ⟨lv5, rfl, hO5, hB5⟩
        have HL5 : Hid (w5.ownsRow w3.heap.size 71 2 lv5 (put (del m.names n) b i).length (cellsE (put (del m.names n) b i))) := hO5
        obtain ⟨la5, lc5, hlv5⟩ : ∃ la lc, lv5 = .slice la (put (del m.names n) b i).length lc := (slc_own hO5 (cellsE_len _)).form
        subst hlv5
        have HB5 : Hid (Only (· = rb) w w5) := HB3.out.step (Only.of_below hB5)
        have HR5 : Hid (Row w5 rb 33 (rC m.spent fv (.slice na m.names.length nc) kv (.slice aa (afts m).length ac))) := HR3.out.at_ (hB5.block _ HR3.out.lt)
        have hch := change_any (la := la5) (ln := (put (del m.names n) b i).length) (lc := lc5) HR5.out (HUS.out.keep HB5.out H.out.rbx) hone (newx_rb H.out.rbx H.out.row.lt) (by rw [afts_len]; have := HCS.out; omega)
        clear hwi hO5
        go_wp2_with fail
        refine hch.mono ?_
        rintro e w4 ⟨rfl, av', hR4, hA4, hO4⟩
        clear hch
        go_wp2
        go_ret
        have e : R = (m.spent.turn ⟨n, b, some i⟩, 0) := by
          rw [HRR.out]
          unfold M.rename
          rw [if_neg h1, hq]
          simp only [hnb, M.does, if_neg h2, if_neg hab]
          simp
        rw [e]
        have hO : Only (· = rb) w w4 := HB5.out.step hO4
        refine ⟨rfl, ?_⟩
        have hs3 := HB5.out.size
        have q := H.out.turned hW ⟨n, b, some i⟩ hO hR4 HUS.out HVS.out (slc_new (w1 := w3) (own_stays HL5.out fun b hb => hO4.block b (own_lt HL5.out hb) fun e => by have := own_block' HL5.out b hb; have := HR3.out.lt; omega) (cellsE_len _) HB3.out.size) hA4 hs3 (H.out.fils.keep hO H.out.rbx)
        exact q
end
end Go.Proofs.Ytedpiikdlpehjaa.Dsk
