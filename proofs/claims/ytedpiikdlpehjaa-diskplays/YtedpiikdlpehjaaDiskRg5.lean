/- The document's disk: Create. -/
import Derived.Test.YtedpiikdlpehjaaDiskRg1
import Derived.Deep.RegionHeld3
namespace Go.Proofs.Ytedpiikdlpehjaa.Dsk
open Go Go.RowKit Go.Maps
set_option linter.unusedSimpArgs false
set_option linter.unusedVariables false

theorem ins_len (x : Nm × Nat) : ∀ t : Tbl, (ins x t).length = t.length + 1
  | [] => rfl
  | y :: r => by
    unfold ins
    split
    · rfl
    · rw [List.length_cons, ins_len x r, List.length_cons]
theorem put_len (t : Tbl) (n : Nm) (i : Nat) : (put t n i).length = (del t n).length + 1 := ins_len _ _
theorem put_len_le (t : Tbl) (n : Nm) (i : Nat) : (put t n i).length ≤ t.length + 1 := by
  rw [put_len]
  have : (del t n).length ≤ t.length := List.length_filter_le _ _
  omega
theorem del_same {t : Tbl} {n : Nm} (h : look t n = none) : del t n = t := by
  have hn := look_none h
  unfold del
  rw [List.filter_eq_self]
  intro p hp
  simpa using hn p hp
theorem del_lt {t : Tbl} {n : Nm} {i : Nat} (h : look t n = some i) : (del t n).length < t.length := by
  have hm := look_mem h
  unfold del
  induction t with
  | nil => cases hm
  | cons q t ih =>
    rw [List.filter_cons]
    by_cases e : q.1 = n
    · have hl : (t.filter fun p => !(p.1 == n)).length ≤ t.length := List.length_filter_le _ _
      simp only [e, beq_self_eq_true, Bool.not_true, Bool.false_eq_true, if_false, List.length_cons]
      omega
    · have hq : (!(q.1 == n)) = true := by simpa using e
      rw [if_pos hq, List.length_cons, List.length_cons]
      have hm2 : (n, i) ∈ t := by
        rcases List.mem_cons.1 hm with r | r
        · exact absurd (by rw [← r]) e
        · exact r
      have h2 : look t n = some i := by
        unfold look at h ⊢
        rw [List.find?_cons] at h
        have hq2 : (q.1 == n) = false := by simpa using e
        rw [hq2] at h
        exact h
      have := ih h2 hm2
      omega
theorem del_nil {m : M} (hW : Wf m) : del m.names [] = m.names := by
  unfold del
  rw [List.filter_eq_self]
  intro p hp
  have h1 := hW.okN.nms p hp
  unfold isNm at h1
  simp only [Bool.and_eq_true, decide_eq_true_eq] at h1
  have h2 : p.1 ≠ [] := fun e => by rw [e] at h1; simp at h1
  simpa using h2
theorem put_big {t : Tbl} {n : Nm} {i : Nat} (hr : Rising t) (ht : t.length ≤ 64) : 64 < (put t n i).length ↔ (look t n = none ∧ t.length = 64) := by
  rw [put_len]
  cases hq : look t n with
  | none => rw [del_same hq]; constructor; (intro h; exact ⟨rfl, by omega⟩); (intro h; omega)
  | some j =>
    have := del_lt hq
    constructor
    · intro h; omega
    · intro h; cases h.1
section
variable {w : World} {X : Nat → Prop} {rb : Nat} {m : M} {fv nv kv av : Value}
set_option maxRecDepth 100000 in
set_option maxHeartbeats 4000000 in
theorem RIn.create (h : RIn w X rb m fv nv kv av) (hW : Wf m) (hc : m.calls ≤ 1000) (n : Nm) (hnm : n.length ≤ maxLen) : Calls Try.prog 28 #[.pointer (some ⟨rb, 0, none⟩), .string (str n)] w fun e w' => e = .returned (.int .i64 (m.create n).2) ∧ RPost w X rb w' (m.create n).1 := by
  have H : Hid (RIn w X rb m fv nv kv av) := h
  obtain ⟨us, hus, hone, hvs⟩ := h.aft.vals
  have HUS : Hid (SlC w X 1 av (afts m).length us) := hus
  have HVS : Hid (∀ (i : Nat) (t : Tbl) (u : Value), (afts m)[i]? = some t → us[i]? = some u → SlC w X 2 u t.length (cellsE t)) := hvs
  obtain ⟨na, nc, hnv⟩ := h.names.form
  obtain ⟨fa, fc, hfv⟩ := h.fils.form
  obtain ⟨aa, ac, hav⟩ := hus.form
  subst hnv hav hfv
  have HCS : Hid (m.since.length ≤ 1000) := by have := hW.sinceN; unfold Hid; omega
  have HFL : Hid (m.files.length ≤ 1000) := by have := hW.filesN; unfold Hid; omega
  have HNL : Hid (m.names.length ≤ 64) := by
    have q := hW.few m.since.length
    rw [List.take_length, ← hW.names] at q
    exact q
  have hfl := HFL.out
  have hwi := with_any (w := w.drew) (h.names.at_ (Nat.le_refl _) fun _ _ _ => rfl).ents n m.files.length (by have := HNL.out; omega) (by have := HFL.out; omega)
  have c1 : w.cell? ⟨rb, 1, none⟩ = some (.slice fa m.files.length fc) := h.row.cell 1
  have c2 : w.cell? ⟨rb, 2, none⟩ = some (.slice na m.names.length nc) := h.row.cell 2
  have HRL : Hid (rb < w.heap.size) := h.row.lt
  obtain ⟨R, HRR⟩ : ∃ R, Hid (R = m.create n) := ⟨_, rfl⟩
  rw [← HRR.out]
  go_enter Try.func28, Try.ntmps28
  obtain ⟨fl, HFF⟩ : ∃ x, Hid (x = m.files.length) := ⟨_, rfl⟩
  obtain ⟨nl, HNN⟩ : ∃ x, Hid (x = m.names.length) := ⟨_, rfl⟩
  rw [← HFF.out] at c1 hwi hfl
  rw [← HNN.out] at c2 hwi
  go_wp2_with fail
  go_region_held3 (fun w' => w'.cell? ⟨rb, 1, none⟩ = some (.slice fa fl fc) ∧ w'.cell? ⟨rb, 2, none⟩ = some (.slice na nl nc)) (go_keep) (first | (go_at_call 51; refine hwi.mono ?_; rintro e w1 ⟨lv, rfl, hO1, hB1⟩; have k1 := (hB1.cell (p := ⟨rb, 1, none⟩) HRL.out).trans c1; have k2 := (hB1.cell (p := ⟨rb, 2, none⟩) HRL.out).trans c2))
  have HB1 : Hid (Below w.heap.size w w1) := ((Below.refl _ w).drew).trans hB1
  have HL1 : Hid (w1.ownsRow w.heap.size 71 2 lv (put m.names n m.files.length).length (cellsE (put m.names n m.files.length))) := by rw [← HFF.out]; exact hO1
  obtain ⟨la, lc, hlv⟩ : ∃ la lc, lv = .slice la (put m.names n m.files.length).length lc := (slc_own HL1.out (cellsE_len _)).form
  subst hlv
  have HR1 : Hid (Row w1 rb 33 (rC m (.slice fa m.files.length fc) (.slice na m.names.length nc) kv (.slice aa (afts m).length ac))) := H.out.row.at_ (HB1.out.block _ H.out.row.lt)
  have d6 : w1.cell? ⟨rb, 6, none⟩ = some (.bool (!m.on)) := HR1.out.cell 6
  clear hwi c1 c2 k1 k2 hO1 hB1 h hus hvs
  by_cases h1 : m.on = false
  · rw [h1] at d6
    go_wp2
    go_ret
    have e : R = (m, 15) := by rw [HRR.out]; unfold M.create; rw [if_pos h1]
    rw [e]
    exact ⟨rfl, H.out.same HB1.out⟩
  have ho : m.on = true := by simpa using h1
  rw [ho] at d6
  have hnmc := rname_any n w1 hnm
  go_wp2_with fail
  refine hnmc.mono ?_
  rintro e wn ⟨rfl, hBn⟩
  have HBn : Hid (Below w.heap.size w wn) := HB1.out.trans (hBn.mono HB1.out.size)
  have HRn : Hid (Row wn rb 33 (rC m (.slice fa m.files.length fc) (.slice na m.names.length nc) kv (.slice aa (afts m).length ac))) := HR1.out.at_ (hBn.block _ HR1.out.lt)
  have HLn : Hid (wn.ownsRow w.heap.size 71 2 (.slice la (put m.names n m.files.length).length lc) (put m.names n m.files.length).length (cellsE (put m.names n m.files.length))) := own_stays HL1.out fun b hb => hBn.block b (own_lt HL1.out hb)
  clear hnmc hBn
  cases hnb : isNm n with
  | false =>
    go_wp2
    go_ret
    have e : R = (m, 1) := by rw [HRR.out]; unfold M.create; rw [if_neg h1, if_pos hnb]
    rw [e]
    exact ⟨rfl, H.out.same HBn.out⟩
  | true =>
    obtain ⟨pl, HPL⟩ : ∃ x, Hid (x = (put m.names n m.files.length).length) := ⟨_, rfl⟩
    have HBIG : Hid (64 < pl ↔ (look m.names n = none ∧ m.names.length = 64)) := by rw [HPL.out]; exact put_big hW.okN.rise HNL.out
    rw [← HPL.out] at HLn
    rw [← HPL.out]
    have hpl : pl ≤ 65 := by
      have q := put_len_le m.names n m.files.length
      have q2 := HNL.out
      have q3 := HPL.out
      omega
    by_cases h3 : look m.names n = none ∧ m.names.length = 64
    · have hd : decide ((64 : Int) < (pl : Int)) = true := decide_eq_true (by have := HBIG.out.2 h3; omega)
      go_wp2
      go_ret
      have e : R = (m, 5) := by rw [HRR.out]; unfold M.create; rw [if_neg h1, if_neg (by rw [hnb]; decide), if_pos h3]
      rw [e]
      exact ⟨rfl, H.out.same HBn.out⟩
    have hd : decide ((64 : Int) < (pl : Int)) = false := decide_eq_false (fun q => h3 (HBIG.out.1 (by omega)))
    by_cases h2 : m.fuse = 0
    · have hb := burns_off HRn.out h2
      go_wp2_with fail
      refine hb.mono ?_
      rintro e w2 ⟨rfl, hR2, hO2⟩
      clear hb
      go_wp2
      go_ret
      have e : R = (m.off, 15) := by rw [HRR.out]; unfold M.create; rw [if_neg h1, if_neg (by rw [hnb]; decide), if_neg h3]; simp only [M.does, if_pos h2]
      rw [e]
      exact ⟨rfl, H.out.offd ((Only.of_below HBn.out).step hO2) hR2⟩
    · have hb := burns_on HRn.out h2 hW.fuse (by omega)
      go_wp2_with fail
      refine hb.mono ?_
      rintro e w2 ⟨rfl, hR2, hO2⟩
      obtain ⟨i0, hi0, hz0, hz1, hz2⟩ := info_parts infoFile
      have HR2 : Hid (Row w2 rb 33 (rC m.spent (.slice fa m.files.length fc) (.slice na m.names.length nc) kv (.slice aa (afts m).length ac))) := hR2
      have HO2 : Hid (Only (· = rb) w w2) := (Only.of_below HBn.out).step hO2
      have HL2 : Hid (w2.ownsRow w.heap.size 71 2 (.slice la pl lc) pl (cellsE (put m.names n m.files.length))) := own_stays HLn.out fun b hb => hO2.block b (own_lt HLn.out hb) fun q => by have := own_block' HLn.out b hb; have := HRL.out; omega
      have HF2 : Hid (SlC w2 (NewX X w w2) 2 (.slice fa m.files.length fc) m.files.length (cellsF m.files)) := H.out.fils.keep HO2.out H.out.rbx
      have hnn := HF2.out.none_
      have husf := HF2.out.len
      have e1 : w2.cell? ⟨rb, 1, none⟩ = some (.slice fa m.files.length fc) := hR2.cell 1
      have hfl2 := HFL.out
      have HS2 : Hid (w.heap.size ≤ w2.heap.size) := HO2.out.size
      clear hb hR2 hO2 d6 hd
      go_wp2_with (at_builtin; refine wpList_append_any rfl (.const (.slice none 0 0)) _ 29 rfl w2.heap.size 75 i0 (.agg #[.string ⟨#[]⟩, .string ⟨#[]⟩]) 2 32 Try.underlying29 hi0 hz0 hz1 hz2 rfl (by decide) (.slice none 0 0) 0 [] rfl (World.ownsRow_nil _ _ _ _) fa m.files.length fc (cellsF m.files) rfl hnn husf (HF2.out.src (Below.refl _ _)) (cellsF_one _) ?_ ?_ ?_ ?_)
      · unfold maxLen; omega
      · omega
      · exact Nat.le_refl _
      intro v3 w3 hown3 hgrow3
      have HB3 : Hid (Below w2.heap.size w2 w3) := (Below.refl _ w2).grown hgrow3 (Nat.le_refl _) (fun k hk => by cases hk)
      have HO3 : Hid (w3.ownsRow w2.heap.size 75 2 v3 m.files.length (cellsF m.files)) := by first | exact hown3 | simpa using hown3
      have hs3 := HB3.out.size
      clear hown3 hgrow3
      go_wp2_with (at_builtin; refine wpList_append_own_at _ rfl _ _ 29 rfl w2.heap.size 75 i0 (.agg #[.string ⟨#[]⟩, .string ⟨#[]⟩]) 2 32 Try.underlying29 hi0 hz0 hz1 hz2 rfl (by decide) v3 m.files.length (cellsF m.files) rfl (HO3.out.alloc _) ⟨w3.heap.size, 0, none⟩ 1 1 [.string ⟨#[]⟩, .string ⟨#[]⟩] rfl rfl (cells2' _ _ _ _) (by intro u hu; rcases List.mem_cons.1 hu with h | h; (rw [h]; rfl); (rw [List.mem_singleton.1 h]; rfl)) ?_ ?_ ?_ ?_)
      · unfold maxLen; omega
      · omega
      · first | omega | (simp; omega)
      intro v4 w4 hown4 hgrow4 _ _
      have HB4 : Hid (Below w2.heap.size w2 w4) := (HB3.out.alloc hs3 _).grown hgrow4 (by simp; omega) (fun k hk => own_block' HO3.out k hk)
      have HR4 : Hid (Row w4 rb 33 (rC m.spent (.slice fa m.files.length fc) (.slice na m.names.length nc) kv (.slice aa (afts m).length ac))) := HR2.out.at_ (HB4.out.block _ HR2.out.lt)
      have HO4 : Hid (w4.ownsRow w2.heap.size 75 2 v4 (m.files.length + 1) (cellsF (m.files ++ [nul]))) := by
        have q : cellsF (m.files ++ [nul]) = cellsF m.files ++ [.string ⟨#[]⟩, .string ⟨#[]⟩] := by unfold cellsF; rw [List.flatMap_append]; rfl
        rw [q]
        exact hown4
      obtain ⟨va, vc, hv4⟩ : ∃ va vc, v4 = .slice va (m.files.length + 1) vc := by
        rcases hown4.2 with ⟨q, q0⟩ | ⟨g, cap, cur, q, _⟩
        · omega
        · exact ⟨_, _, q⟩
      subst hv4
      have d1 : w4.cell? ⟨rb, 1, none⟩ = some (.slice fa m.files.length fc) := HR4.out.cell 1
      have g1 := HR4.out.free 1
      obtain ⟨W5, HW5⟩ : ∃ x, Hid (x = w4.setCell ⟨rb, 1, none⟩ (.slice va (m.files.length + 1) vc)) := ⟨_, rfl⟩
      have HR5 : Hid (Row W5 rb 33 (rC m.spent (.slice va (m.files.length + 1) vc) (.slice na m.names.length nc) kv (.slice aa (afts m).length ac))) := by rw [HW5.out]; exact HR4.out.set 1 _
      have HO5 : Hid (Only (· = rb) w W5) := by rw [HW5.out]; exact Only.setCell (F := (· = rb)) (p := ⟨rb, 1, none⟩) (HO2.out.step (Only.of_below HB4.out)) (.inl rfl) _
      have HO45 : Hid (Only (· = rb) w4 W5) := by rw [HW5.out]; exact Only.setCell (F := (· = rb)) (p := ⟨rb, 1, none⟩) (Only.refl _ w4) (.inl rfl) _
      have hch := change_any (la := la) (ln := pl) (lc := lc) HR5.out (HUS.out.keep HO5.out H.out.rbx) hone (newx_rb H.out.rbx H.out.row.lt) (by rw [afts_len]; have := HCS.out; omega)
      have hWe : w4.setCell ⟨rb, 1, none⟩ (.slice va (m.files.length + 1) vc) = W5 := HW5.out.symm
      clear hown4 hgrow4 e1
      go_wp2_with fail
      refine hch.mono ?_
      rintro e w6 ⟨rfl, av', hR6, hA6, hO6⟩
      clear hch hWe
      go_wp2
      go_ret
      have e : R = ({ m.spent.turn ⟨[], n, some m.files.length⟩ with files := m.files ++ [nul] }, 0) := by
        rw [HRR.out]
        unfold M.create
        rw [if_neg h1, if_neg (by rw [hnb]; decide), if_neg h3]
        simp only [M.does, if_neg h2]
      rw [e]
      have hO : Only (· = rb) w w6 := HO5.out.step hO6
      have hrl := HRL.out
      have hs5 := HO5.out.size
      have happ : Chg.app ⟨[], n, some m.files.length⟩ m.names = put m.names n m.files.length := by
        show put (del m.names []) n m.files.length = _
        rw [del_nil hW]
      refine ⟨rfl, H.out.turned hW ⟨[], n, some m.files.length⟩ hO hR6 HUS.out HVS.out ?_ hA6 hs5 ?_⟩
      · rw [happ, ← HPL.out]
        refine slc_new (w1 := w) (own_stays HL2.out fun b hb => ?_) (by rw [cellsE_len, ← HPL.out]) (Nat.le_refl _)
        have q1 := own_block' HL2.out b hb
        have q2 := own_lt HL2.out hb
        have qs4 := HB4.out.size
        rw [hO6.block b (by have := HO45.out.size; omega) (by omega), HO45.out.block b (by omega) (by omega), HB4.out.block b q2]
      · rw [List.length_append, List.length_singleton]
        refine slc_new (w1 := w2) (own_stays HO4.out fun b hb => ?_) (by rw [cellsF_len, List.length_append, List.length_singleton]) HS2.out
        have q1 := own_block' HO4.out b hb
        have q2 := own_lt HO4.out hb
        have qs := HS2.out
        rw [hO6.block b (by have := HO45.out.size; omega) (by omega), HO45.out.block b (by omega) (by omega)]
end
end Go.Proofs.Ytedpiikdlpehjaa.Dsk
