/- The document's disk: SyncDir, Remove, Rename. -/
import Derived.Test.YtedpiikdlpehjaaDiskRf7
namespace Go.Proofs.Ytedpiikdlpehjaa.Dsk
open Go Go.RowKit Go.Maps
set_option linter.unusedSimpArgs false
set_option linter.unusedVariables false

section
variable {w : World} {X : Nat → Prop} {rb : Nat} {m : M} {fv nv kv av : Value}
theorem SlC.form {sz n : Nat} {v : Value} {us : List Value} (h : SlC w X sz v n us) : ∃ a cap, v = .slice a n cap := by
  obtain ⟨a, cap, q, _⟩ := h
  exact ⟨a, cap, q⟩
theorem lookI_none {t : Tbl} {n : Nm} (h : look t n = none) : lookI t n = -1 := by unfold lookI; rw [h]
theorem lookI_some {t : Tbl} {n : Nm} {i : Nat} (h : look t n = some i) : lookI t n = i := by unfold lookI; rw [h]
theorem own_lt {w : World} {B : Nat} {e : TypeId} {k n : Nat} {v : Value} {xs : List Value} (h : w.ownsRow B e k v n xs) {g : Nat} (hg : v.ownBlock = some g) : g < w.heap.size := by
  rcases h.2 with ⟨q, q0⟩ | ⟨g', cap, cur, q, h0, hr, _⟩
  · rw [q] at hg; cases hg
  · rw [q] at hg; cases hg; exact (Array.getElem?_eq_some_iff.1 hr).1
theorem afts_len (m : M) : (afts m).length = m.since.length := by unfold afts; rw [List.length_map, List.length_range]
set_option maxHeartbeats 1000000 in
theorem RIn.syncDir (h : RIn w X rb m fv nv kv av) (hW : Wf m) (hc : m.calls < 1099511627776) : Calls Try.prog 33 #[.pointer (some ⟨rb, 0, none⟩)] w fun e w' => e = .returned (.int .i64 m.syncDir.2) ∧ RPost w X rb w' m.syncDir.1 := by
  have c6 : w.cell? ⟨rb, 6, none⟩ = some (.bool (!m.on)) := h.row.cell 6
  have H : Hid (RIn w X rb m fv nv kv av) := h
  unfold M.syncDir
  by_cases h1 : m.on = false
  · rw [if_pos h1]
    rw [h1] at c6
    go_enter Try.func33, Try.ntmps33
    go_wp2
    go_ret
    exact ⟨rfl, H.out.same (Below.refl _ _)⟩
  · have ho : m.on = true := by simpa using h1
    rw [if_neg h1]
    rw [ho] at c6
    unfold M.does
    by_cases h2 : m.fuse = 0
    · rw [if_pos h2]
      have hb := burns_off h.row h2
      clear h
      go_enter Try.func33, Try.ntmps33
      go_wp2_with (first | (go_at_call 53; refine hb.mono ?_; rintro e w1 ⟨rfl, hR1, hO1⟩))
      go_ret
      exact ⟨rfl, H.out.offd hO1 hR1⟩
    · rw [if_neg h2]
      have hb := burns_on h.row h2 hW.fuse hc
      obtain ⟨na, nc, hnv⟩ := h.names.form
      obtain ⟨ka, kc, hkv⟩ := h.kept.form
      obtain ⟨us, hus, _⟩ := h.aft
      obtain ⟨aa, ac, hav⟩ := hus.form
      subst hnv hkv hav
      clear h hus
      go_enter Try.func33, Try.ntmps33
      go_wp2_with fail
      refine hb.mono ?_
      rintro e w1 ⟨rfl, hR1, hO1⟩
      have HR1 : Hid (Row w1 rb 33 (rC m.spent fv (.slice na m.names.length nc) (.slice ka m.kept.length kc) (.slice aa (afts m).length ac))) := hR1
      have HO1 : Hid (Only (· = rb) w w1) := hO1
      have HNM : Hid (settle m.kept (m.since.take m.since.length) = m.names) := by rw [List.take_length]; exact hW.names.symm
      have d2 : w1.cell? ⟨rb, 2, none⟩ = some (.slice na m.names.length nc) := hR1.cell 2
      have d3 : w1.cell? ⟨rb, 3, none⟩ = some (.slice ka m.kept.length kc) := hR1.cell 3
      have d4 : w1.cell? ⟨rb, 4, none⟩ = some (.slice aa (afts m).length ac) := hR1.cell 4
      have g3 := hR1.free 3
      have g4 := hR1.free 4
      have HR2 : Hid (Row (w1.setCell ⟨rb, 3, none⟩ (.slice na m.names.length nc)) rb 33 (rC m.spent fv (.slice na m.names.length nc) (.slice na m.names.length nc) (.slice aa (afts m).length ac))) := hR1.set 3 _
      have d4' : (w1.setCell ⟨rb, 3, none⟩ (.slice na m.names.length nc)).cell? ⟨rb, 4, none⟩ = some (.slice aa (afts m).length ac) := HR2.out.cell 4
      have g4' := HR2.out.free 4
      generalize m.names.length = nl at *
      generalize m.kept.length = kl at *
      generalize (afts m).length = al at *
      clear hb hR1 hO1 c6
      go_wp2
      go_ret
      have hO2 : Only (· = rb) w ((w1.setCell ⟨rb, 3, none⟩ (.slice na nl nc)).setCell ⟨rb, 4, none⟩ (.slice none 0 0)) := Only.setCell (F := (· = rb)) (p := ⟨rb, 4, none⟩) (Only.setCell (F := (· = rb)) (p := ⟨rb, 3, none⟩) HO1.out (.inl rfl) _) (.inl rfl) _
      have hk : (m.spent.settled m.spent.since.length).kept = m.names := HNM.out
      refine ⟨rfl, ⟨fv, .slice na nl nc, .slice na nl nc, .slice none 0 0, ⟨HR2.out.set 4 _, H.out.fils.keep hO2 H.out.rbx, H.out.names.keep hO2 H.out.rbx, ?_, ⟨[], SlC.nil _ _ _, fun i t u ht hu => by cases hu⟩, newx_rb H.out.rbx H.out.row.lt⟩⟩, hO2⟩
      rw [hk]
      exact H.out.names.keep hO2 H.out.rbx
set_option maxHeartbeats 1000000 in
theorem RIn.remove (h : RIn w X rb m fv nv kv av) (hW : Wf m) (hc : m.calls ≤ 1000) (n : Nm) : Calls Try.prog 32 #[.pointer (some ⟨rb, 0, none⟩), .string (str n)] w fun e w' => e = .returned (.int .i64 (m.remove n).2) ∧ RPost w X rb w' (m.remove n).1 := by
  have H : Hid (RIn w X rb m fv nv kv av) := h
  obtain ⟨us, hus, hone, hvs⟩ := h.aft.vals
  have HUS : Hid (SlC w X 1 av (afts m).length us) := hus
  have HVS : Hid (∀ (i : Nat) (t : Tbl) (u : Value), (afts m)[i]? = some t → us[i]? = some u → SlC w X 2 u t.length (cellsE t)) := hvs
  obtain ⟨na, nc, hnv⟩ := h.names.form
  obtain ⟨aa, ac, hav⟩ := hus.form
  subst hnv hav
  have HCS : Hid (m.since.length ≤ 1000) := by have := hW.sinceN; unfold Hid; omega
  have HNL : Hid (m.names.length ≤ 1000000) := by
    have q := hW.few m.since.length
    rw [List.take_length, ← hW.names] at q
    unfold Hid
    omega
  have hfd := find_any h.names.ents n
  have c2 : w.cell? ⟨rb, 2, none⟩ = some (.slice na m.names.length nc) := h.row.cell 2
  obtain ⟨R, HRR⟩ : ∃ R, Hid (R = m.remove n) := ⟨_, rfl⟩
  rw [← HRR.out]
  go_enter Try.func32, Try.ntmps32
  go_wp2_with fail
  refine hfd.mono ?_
  rintro e w1 ⟨rfl, hB1⟩
  have HB1 : Hid (Below w.heap.size w w1) := hB1
  have HR1 : Hid (Row w1 rb 33 (rC m fv (.slice na m.names.length nc) kv (.slice aa (afts m).length ac))) := H.out.row.at_ (hB1.block _ H.out.row.lt)
  have d6 : w1.cell? ⟨rb, 6, none⟩ = some (.bool (!m.on)) := HR1.out.cell 6
  clear hfd c2 h hus hvs hB1
  by_cases h1 : m.on = false
  · rw [h1] at d6
    go_wp2
    go_ret
    have e : R = (m, 15) := by rw [HRR.out]; unfold M.remove; rw [if_pos h1]
    rw [e]
    exact ⟨rfl, H.out.same HB1.out⟩
  have ho : m.on = true := by simpa using h1
  rw [ho] at d6
  cases hq : look m.names n with
  | none =>
    rw [lookI_none hq]
    go_wp2
    go_ret
    have e : R = (m, 6) := by rw [HRR.out]; unfold M.remove; rw [if_neg h1, hq]
    rw [e]
    exact ⟨rfl, H.out.same HB1.out⟩
  | some i =>
    rw [lookI_some hq]
    have hi0 : decide ((i : Int) < 0) = false := decide_eq_false (by omega)
    by_cases h2 : m.fuse = 0
    · have hb := burns_off HR1.out h2
      go_wp2_with fail
      refine hb.mono ?_
      rintro e w2 ⟨rfl, hR2, hO2⟩
      clear hb
      go_wp2
      go_ret
      have e : R = (m.off, 15) := by rw [HRR.out]; unfold M.remove; rw [if_neg h1, hq]; simp only [M.does, if_pos h2]
      rw [e]
      exact ⟨rfl, H.out.offd ((Only.of_below HB1.out).step hO2) hR2⟩
    · have hb := burns_on HR1.out h2 hW.fuse (by omega)
      go_wp2_with fail
      refine hb.mono ?_
      rintro e w2 ⟨rfl, hR2, hO2⟩
      have HR2 : Hid (Row w2 rb 33 (rC m.spent fv (.slice na m.names.length nc) kv (.slice aa (afts m).length ac))) := hR2
      have HO2 : Hid (Only (· = rb) w w2) := (Only.of_below HB1.out).step hO2
      have e2 : w2.cell? ⟨rb, 2, none⟩ = some (.slice na m.names.length nc) := hR2.cell 2
      have hwo := without_any (H.out.names.keep HO2.out H.out.rbx).ents n HNL.out
      clear hb hR2 hO2 d6 hi0
      go_wp2_with fail
      refine hwo.mono ?_
      rintro e w3 ⟨lv, rfl, hO3, hB3⟩
      have HL3 : Hid (w3.ownsRow w2.heap.size 71 2 lv (del m.names n).length (cellsE (del m.names n))) := hO3
      obtain ⟨la, lc, hlv⟩ : ∃ la lc, lv = .slice la (del m.names n).length lc := (slc_own hO3 (cellsE_len _)).form
      subst hlv
      have HB3 : Hid (Only (· = rb) w w3) := HO2.out.step (Only.of_below hB3)
      have HR3 : Hid (Row w3 rb 33 (rC m.spent fv (.slice na m.names.length nc) kv (.slice aa (afts m).length ac))) := HR2.out.at_ (hB3.block _ HR2.out.lt)
      have hch := change_any (la := la) (ln := (del m.names n).length) (lc := lc) HR3.out (HUS.out.keep HB3.out H.out.rbx) hone (newx_rb H.out.rbx H.out.row.lt) (by rw [afts_len]; have := HCS.out; omega)
      clear hwo hO3 e2
      go_wp2_with fail
      refine hch.mono ?_
      rintro e w4 ⟨rfl, av', hR4, hA4, hO4⟩
      clear hch
      go_wp2
      go_ret
      have e : R = (m.spent.turn ⟨n, [], none⟩, 0) := by rw [HRR.out]; unfold M.remove; rw [if_neg h1, hq]; simp only [M.does, if_neg h2]
      rw [e]
      have hO : Only (· = rb) w w4 := HB3.out.step hO4
      refine ⟨rfl, ?_⟩
      have hs3 := HB3.out.size
      have q := H.out.turned hW ⟨n, [], none⟩ hO hR4 HUS.out HVS.out (slc_new (w1 := w2) (own_stays HL3.out fun b hb => hO4.block b (own_lt HL3.out hb) fun e => by have := own_block' HL3.out b hb; have := HR2.out.lt; omega) (cellsE_len _) HO2.out.size) hA4 hs3 (H.out.fils.keep hO H.out.rbx)
      exact q
end
end Go.Proofs.Ytedpiikdlpehjaa.Dsk
