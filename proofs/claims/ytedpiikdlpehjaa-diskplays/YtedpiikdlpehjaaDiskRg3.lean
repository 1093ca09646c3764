/- The document's disk: Append. -/
import Derived.Test.YtedpiikdlpehjaaDiskRg2
import Derived.Deep.RegionHeld3
import Derived.Test.YtedpiikdlpehjaaDiskLast
namespace Go.Proofs.Ytedpiikdlpehjaa.Dsk
open Go Go.RowKit Go.Maps
set_option linter.unusedSimpArgs false
set_option linter.unusedVariables false

section
variable {w : World} {X : Nat → Prop} {rb : Nat} {m : M} {fv nv kv av : Value}
theorem RIn.at_ {w' : World} (h : RIn w X rb m fv nv kv av) (hs : w.heap.size ≤ w'.heap.size) (e : ∀ b, b < w.heap.size → w'.heap[b]? = w.heap[b]?) : RIn w' X rb m fv nv kv av where
  row := h.row.at_ (e rb h.row.lt)
  fils := h.fils.at_ hs fun b _ hl => e b hl
  names := h.names.at_ hs fun b _ hl => e b hl
  kept := h.kept.at_ hs fun b _ hl => e b hl
  aft := by
    obtain ⟨us, h1, h2⟩ := h.aft
    exact ⟨us, h1.at_ hs fun b _ hl => e b hl, fun i t u ht hu => (h2 i t u ht hu).at_ hs fun b _ hl => e b hl⟩
  rbx := h.rbx
theorem RIn.later {w' : World} (h : RIn w X rb m fv nv kv av) (hB : Below w.heap.size w w') : RIn w' X rb m fv nv kv av := h.at_ hB.size fun b hb => hB.block b hb
theorem RIn.drew_ (h : RIn w X rb m fv nv kv av) : RIn w.drew X rb m fv nv kv av := h.at_ (Nat.le_refl _) fun b hb => rfl
set_option maxRecDepth 100000 in
set_option maxHeartbeats 4000000 in
theorem RIn.append (h : RIn w X rb m fv nv kv av) (hW : Wf m) (hc : m.calls ≤ 1000) (n : Nm) (ba : Option Addr) (bl bc : Nat) (bs : List UInt8) (hS : Bys w ba bl bs) (hbl : bl ≤ 140737488355328) (hbs : ∀ b off, ba = some ⟨b, off, none⟩ → 0 < bl → b ≠ rb) : Calls Try.prog 29 #[.pointer (some ⟨rb, 0, none⟩), .string (str n), .slice ba bl bc] w fun e w' => e = .returned (.int .i64 (m.append n bs).2) ∧ RPost w X rb w' (m.append n bs).1 := by
  have H : Hid (RIn w X rb m fv nv kv av) := h
  obtain ⟨us, hus, hone, hvs⟩ := h.aft.vals
  have HUS : Hid (SlC w X 1 av (afts m).length us) := hus
  have HVS : Hid (∀ (i : Nat) (t : Tbl) (u : Value), (afts m)[i]? = some t → us[i]? = some u → SlC w X 2 u t.length (cellsE t)) := hvs
  obtain ⟨na, nc, hnv⟩ := h.names.form
  obtain ⟨aa, ac, hav⟩ := hus.form
  subst hnv hav
  have HCS : Hid (m.since.length ≤ 1000) := by have := hW.sinceN; unfold Hid; omega
  have HNL : Hid (m.names.length ≤ 1000000) := by
    have q := hW.few m.since.length
    rw [List.take_length, ← hW.names] at q
    unfold Hid
    omega
  have hfd := find_any h.names.ents n
  have c2 : w.cell? ⟨rb, 2, none⟩ = some (.slice na m.names.length nc) := h.row.cell 2
  obtain ⟨R, HRR⟩ : ∃ R, Hid (R = m.append n bs) := ⟨_, rfl⟩
  rw [← HRR.out]
  go_enter Try.func29, Try.ntmps29
  go_wp2_with fail
  refine hfd.mono ?_
  rintro e w1 ⟨rfl, hB1⟩
  have HB1 : Hid (Below w.heap.size w w1) := hB1
  have HR1 : Hid (Row w1 rb 33 (rC m fv (.slice na m.names.length nc) kv (.slice aa (afts m).length ac))) := H.out.row.at_ (hB1.block _ H.out.row.lt)
  have d6 : w1.cell? ⟨rb, 6, none⟩ = some (.bool (!m.on)) := HR1.out.cell 6
  clear hfd c2 h hus hvs hB1
  by_cases h1 : m.on = false
  · rw [h1] at d6
    go_wp2
    go_ret
    have e : R = (m, 15) := by rw [HRR.out]; unfold M.append; rw [if_pos h1]
    rw [e]
    exact ⟨rfl, H.out.same HB1.out⟩
  have ho : m.on = true := by simpa using h1
  rw [ho] at d6
  cases hq : look m.names n with
  | none =>
    rw [lookI_none hq]
    go_wp2
    go_ret
    have e : R = (m, 6) := by rw [HRR.out]; unfold M.append; rw [if_neg h1, hq]
    rw [e]
    exact ⟨rfl, H.out.same HB1.out⟩
  | some i =>
    rw [lookI_some hq]
    have hi0 : decide ((i : Int) < 0) = false := decide_eq_false (by omega)
    have hR1d : RIn w1.drew X rb m fv (.slice na m.names.length nc) kv (.slice aa (afts m).length ac) := (H.out.later HB1.out).drew_
    have hus2 := hR1d.used hW hc
    have d0 : w1.cell? ⟨rb, 0, none⟩ = some (.int .i64 m.room) := HR1.out.cell 0
    have hru : m.uses ≤ 1099511627776 := by
      unfold M.uses
      rw [if_pos ho]
      exact total_few hW _ (by have q := hW.few m.since.length; rw [List.take_length, ← hW.names] at q; exact q) (fun p hp => hW.okN.less p hp)
    have hrm := hW.room
    have HUE : Hid (m.uses = m.used) := by
      have q : m.uses = m.used := by unfold M.uses; rw [if_pos ho]
      exact q
    have HBL : Hid (bl = bs.length) := hS.1
    have hrl : rb < w1.heap.size := HR1.out.lt
    obtain ⟨us_, HUS_⟩ : ∃ x, Hid (x = m.uses) := ⟨_, rfl⟩
    obtain ⟨ro, HRO⟩ : ∃ x, Hid (x = m.room) := ⟨_, rfl⟩
    rw [← HUS_.out] at hus2 hru
    rw [← HRO.out] at d0 hrm
    have hwr : IntKind.i64.wrap ((ro : Int) - (us_ : Int)) = (ro : Int) - (us_ : Int) := by simp [IntKind.wrap, IntKind.bits, IntKind.signed]; omega
    obtain ⟨r, hr⟩ : ∃ r, decide ((ro : Int) - (us_ : Int) < (bl : Int)) = r := ⟨_, rfl⟩
    go_wp2_with fail
    go_region_held3 (fun w' => w'.cell? ⟨rb, 0, none⟩ = some (.int .i64 ro)) (go_keep) (first | (go_at_call 16; refine hus2.mono ?_; rintro e wu ⟨rfl, hBu⟩; have ku := (hBu.cell (p := ⟨rb, 0, none⟩) hrl).trans d0))
    have HBu : Hid (Below w.heap.size w wu) := HB1.out.trans ((((Below.refl _ w1).drew).trans hBu).mono HB1.out.size)
    have HRu : Hid (Row wu rb 33 (rC m fv (.slice na m.names.length nc) kv (.slice aa (afts m).length ac))) := HR1.out.at_ ((((Below.refl _ w1).drew).trans hBu).block _ HR1.out.lt)
    clear hus2 ku hBu hR1d
    by_cases hfu : m.room < m.used + bs.length
    · have hr1 : r = true := by
        rw [← hr]
        refine decide_eq_true ?_
        have q1 := HUS_.out
        have q2 := HRO.out
        have q3 := HUE.out
        have q4 := HBL.out
        omega
      subst hr1
      go_wp2
      go_ret
      have e : R = (m, 14) := by
        rw [HRR.out]
        unfold M.append
        rw [if_neg h1, hq]
        simp only [if_pos hfu]
      rw [e]
      exact ⟨rfl, H.out.same HBu.out⟩
    have hr0 : r = false := by
      rw [← hr]
      refine decide_eq_false ?_
      have q1 := HUS_.out
      have q2 := HRO.out
      have q3 := HUE.out
      have q4 := HBL.out
      omega
    subst hr0
    by_cases h2 : m.fuse = 0
    · have hb := burns_off HRu.out h2
      go_wp2_with fail
      refine hb.mono ?_
      rintro e w2 ⟨rfl, hR2, hO2⟩
      clear hb
      go_wp2
      go_ret
      have e : R = (m.off, 15) := by rw [HRR.out]; unfold M.append; rw [if_neg h1, hq]; simp only [if_neg hfu, M.does, if_pos h2]
      rw [e]
      exact ⟨rfl, H.out.offd ((Only.of_below HBu.out).step hO2) hR2⟩
    · have hb := burns_on HRu.out h2 hW.fuse (by omega)
      go_wp2_with fail
      refine hb.mono ?_
      rintro e w2 ⟨rfl, hR2, hO2⟩
      have HR2 : Hid (Row w2 rb 33 (rC m.spent fv (.slice na m.names.length nc) kv (.slice aa (afts m).length ac))) := hR2
      have HO2 : Hid (Only (· = rb) w w2) := (Only.of_below HBu.out).step hO2
      have HI : Hid (i < m.files.length) := hW.okN.less (n, i) (look_mem hq)
      obtain ⟨fa, fc, hfv⟩ := H.out.fils.form
      subst hfv
      obtain ⟨f, hf⟩ : ∃ f, m.files[i]? = some f := ⟨_, List.getElem?_eq_getElem HI.out⟩
      obtain ⟨b, off, hfa, hbl, x0, x1⟩ := (H.out.fils.keep HO2.out H.out.rbx).file hf
      subst hfa
      have e1 : w2.cell? ⟨rb, 1, none⟩ = some (.slice (some ⟨b, off, none⟩) m.files.length fc) := hR2.cell 1
      have hil := HI.out
      have HFL : Hid (m.files.length ≤ 1000) := by have := hW.filesN; unfold Hid; omega
      have hfl := HFL.out
      clear hb hR2 hO2 d6 hi0
      have HP : Hid (∀ q W, Calls Try.prog 55 #[.pointer (some ⟨rb, 0, none⟩), .int .i64 i, .agg #[.string (str (f.data.take f.kept)), .string W]] (w2.drewN q) fun e w' => e = .returned (.tuple #[]) ∧ ∃ fv, Row w' rb 33 (rC m.spent fv (.slice na m.names.length nc) kv (.slice aa (afts m).length ac)) ∧ w'.ownsRow (w2.drewN q).heap.size 75 2 fv m.files.length (((cellsF m.files).set (i * 2) (.string (str (f.data.take f.kept)))).set (i * 2 + 1) (.string W)) ∧ Only (· = rb) (w2.drewN q) w') :=
        fun q W => put_any (w := w2.drewN q) (X := NewX X w w2) (us := cellsF m.files) (m := m.spent) (HR2.out.at_ rfl) ((H.out.fils.keep HO2.out H.out.rbx).at_ (Nat.le_refl _) fun _ _ _ => rfl) (cellsF_one _) (by omega) i hil (str (f.data.take f.kept)) W (cellsF_str _)
      have hcv := fun q => conv_bys (cap := bc) ((hS.only HO2.out hbs).later (w' := w2.drewN q) ⟨rfl, rfl, rfl, Nat.le_refl _, fun _ _ => rfl⟩)
      have HKL : Hid (f.kept ≤ f.data.length ∧ f.data.length ≤ 1048576) := by
        have q := hW.files i HI.out
        have q2 := hW.room
        have q3 : m.file i = f := by unfold M.file; rw [List.getD_eq_getElem?_getD, hf]; rfl
        rw [q3] at q
        exact ⟨q.1, Nat.le_trans q.2 q2⟩
      have HAB : Hid (str (f.data.drop f.kept) ++ str bs = str ((f.data ++ bs).drop f.kept) ∧ str (f.data.take f.kept) = str ((f.data ++ bs).take f.kept)) := by
        have q := HKL.out.1
        rw [List.drop_append_of_le_length q, List.take_append_of_le_length q]
        exact ⟨(str_app _ _).symm, rfl⟩
      have hab : (str (f.data.drop f.kept)).size + (str bs).size ≤ 9223372036854775807 := by
        rw [str_size, str_size, List.length_drop]
        have q := HKL.out.2
        have q4 := HBL.out
        omega
      generalize hfln : m.files.length = fl at *
      go_wp2_with fail
      refine wp_region_last 22 (by kernel_rfl) (by kernel_rfl) rfl (by simp only [List.take_succ_cons, List.take_zero]; rfl) ?_
      repeat (first | go_big_quiet_step (fail) | quiet_step (fail))
      refine wpQuiet_nil ?_
      intro _ hw'
      obtain ⟨nq, hw''⟩ := hw'
      subst hw''
      go_wp2_with (go_at_call 55; refine (HP.out _ _).mono ?_; rintro e w3 ⟨rfl, fv', hR3, hF3, hO3⟩)
      all_goals (
        have hfin : RPost w X rb w3 { m.spent with files := m.spent.files.set i ⟨f.data ++ bs, f.kept⟩ } := by
          have hO : Only (· = rb) w w3 := HO2.out.step (Only.step (Only.of_below (w' := w2.drewN nq) ⟨rfl, rfl, rfl, Nat.le_refl _, fun _ _ => rfl⟩) hO3)
          have hF4 := slc_new (X := X) (w := w) (w1 := w2.drewN nq) hF3 (by rw [List.length_set, List.length_set, cellsF_len, hfln]) HO2.out.size
          rw [HAB.out.1, HAB.out.2] at hF4
          refine ⟨⟨fv', _, _, _, ⟨hR3, ?_, H.out.names.keep hO H.out.rbx, H.out.kept.keep hO H.out.rbx, H.out.aft.keep hO H.out.rbx, newx_rb H.out.rbx H.out.row.lt⟩⟩, hO⟩
          show SlC w3 (NewX X w w3) 2 fv' (m.files.set i ⟨f.data ++ bs, f.kept⟩).length (cellsF (m.files.set i ⟨f.data ++ bs, f.kept⟩))
          rw [List.length_set, cellsF_set, hfln]
          exact hF4
        clear hF3 hR3 hO3
        go_wp2
        go_ret
        have e : R = ({ m.spent with files := m.spent.files.set i ⟨f.data ++ bs, f.kept⟩ }, 0) := by
          rw [HRR.out]
          unfold M.append
          rw [if_neg h1, hq]
          simp only [if_neg hfu, M.does, if_neg h2]
          have q3 : m.spent.file i = f := by
            show m.files.getD i nul = _
            rw [List.getD_eq_getElem?_getD, hf]
            rfl
          rw [q3]
        rw [e]
        exact ⟨rfl, hfin⟩)
end
end Go.Proofs.Ytedpiikdlpehjaa.Dsk
