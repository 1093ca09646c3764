/- The document's disk: Start. -/
import Derived.Test.YtedpiikdlpehjaaDiskRg3
import Derived.BigRegion
namespace Go.Proofs.Ytedpiikdlpehjaa.Dsk
open Go Go.RowKit Go.Maps
set_option linter.unusedSimpArgs false
set_option linter.unusedVariables false

theorem cut_str (f : Fl) (k : Int) (h : f.kept ≤ f.data.length) (q : Nat) (hq : (q : Int) = min (max k 0) ((f.data.length : Int) - f.kept)) : str (f.data.take f.kept) ++ str ((f.data.drop f.kept).take q) = str (f.data.take (f.more k)) := by
  rw [← str_app]
  congr 1
  have e : f.more k = f.kept + q := by unfold Fl.more; omega
  rw [e, List.take_add]
theorem cut_cells (fs : List Fl) (i : Nat) (f : Fl) (k : Int) : cellsF (fs.set i (f.cut k)) = ((cellsF fs).set (i * 2) (.string (str (f.data.take (f.more k))))).set (i * 2 + 1) (.string ⟨#[]⟩) := by
  rw [cellsF_set]
  have e1 : (f.cut k).data.take (f.cut k).kept = f.data.take (f.more k) := by unfold Fl.cut; simp [List.take_take]
  have e2 : (f.cut k).data.drop (f.cut k).kept = [] := by unfold Fl.cut; simp
  rw [e1, e2]
  rfl
theorem str_take (l : List UInt8) (q : Nat) : (str l).extract 0 q = str (l.take q) := by
  have h := ByteArray.extract_mk l 0 q
  unfold str
  rw [h]; simp
/-- the disk behind j of Start's cuts -/
def M.begun (m : M) (t : Tbl) (zs : List Int) (j : Nat) : M := { m with on := true, fuse := -1, names := t, kept := t, since := [], files := cuts t zs m.files j }
theorem begun_start (m : M) (c : Int) (zs : List Int) (h : m.on = false) : m.start c zs = (m.begun (settle m.kept (m.since.take (many c m.since.length))) zs (settle m.kept (m.since.take (many c m.since.length))).length, 0) := by
  unfold M.start
  rw [if_neg (by rw [h]; simp)]
  rfl
section
variable {w : World} {X : Nat → Prop} {rb : Nat} {m : M} {fv nv kv av : Value}
theorem afts_at (m : M) (k : Nat) (h : k < m.since.length) : (afts m)[k]? = some (settle m.kept (m.since.take (k + 1))) := by
  unfold afts
  rw [List.getElem?_map, List.getElem?_range h]
  rfl
theorem SlC.at1 {a : Option Addr} {n cap k sz : Nat} {us : List Value} (h : SlC w X sz (.slice a n cap) k us) {i : Nat} {u : Value} (hu : us[i]? = some u) : ∃ b off, a = some ⟨b, off, none⟩ ∧ X b ∧ b < w.heap.size ∧ w.cell? ⟨b, off + i, none⟩ = some u := by
  obtain ⟨a', cap', h1, h2, h3, h5, h6, h4⟩ := h
  cases h1
  exact h4 i u hu
/-- the state that Start's loop goes through -/
structure Begun (w : World) (X : Nat → Prop) (rb : Nat) (m : M) (t : Tbl) (zs : List Int) (kv : Value) (wr : World) (j : Nat) : Prop where
  only : Only (· = rb) w wr
  here : ∃ fv, RIn wr (NewX X w wr) rb (m.begun t zs j) fv kv kv (.slice none 0 0)

/-- the names are those behind so many changes -/
theorem Begun.init {W : World} {t : Tbl} {zs : List Int} {kv' : Value} (h : RIn w X rb m fv nv kv av) (hO : Only (· = rb) w W) (hrow : Row W rb 33 (rC (m.begun t zs 0) fv kv' kv' (.slice none 0 0))) (hk : SlC w X 2 kv' t.length (cellsE t)) : Begun w X rb m t zs kv' W 0 :=
  ⟨hO, fv, hrow, h.fils.keep hO h.rbx, hk.keep hO h.rbx, hk.keep hO h.rbx, ⟨[], SlC.nil _ _ _, fun i t u hi => by cases hi⟩, newx_rb h.rbx h.row.lt⟩

theorem newx_sub {a b c : World} (h1 : a.heap.size ≤ b.heap.size) (h2 : b.heap.size ≤ c.heap.size) {k : Nat} (h : NewX (NewX X a b) b c k) : NewX X a c k := by
  rcases h with (h | h) | h
  · exact .inl h
  · exact .inr ⟨h.1, by omega⟩
  · exact .inr ⟨by omega, h.2⟩
/-- a round of the loop: put -/
theorem Begun.put {wr : World} {t : Tbl} {zs : List Int} {kv' : Value} {j : Nat} (h : Begun w X rb m t zs kv' wr j) {p : Nm × Nat} {f : Fl} (hp : t[j]? = some p) (hf : (cuts t zs m.files j)[p.2]? = some f) (hfl : m.files.length ≤ 1000000) (U : World) (hU : Below wr.heap.size wr U) (S : ByteArray) (hS : S = str (f.data.take (f.more (zs.getD j 0)))) :
    Calls Try.prog 55 #[.pointer (some ⟨rb, 0, none⟩), .int .i64 p.2, .agg #[.string S, .string ⟨#[]⟩]] U fun e w' => e = .returned (.tuple #[]) ∧ Begun w X rb m t zs kv' w' (j + 1) := by
  obtain ⟨hO0, fv, hr⟩ := h
  obtain ⟨fa, fc, hfv⟩ := hr.fils.form
  subst hfv
  have hlen : (m.begun t zs j).files.length = m.files.length := cuts_len t zs m.files j
  have hi : p.2 < (m.begun t zs j).files.length := (List.getElem?_eq_some_iff.1 hf).1
  refine (put_any (w := U) (X := NewX X w wr) (us := cellsF (m.begun t zs j).files) (m := m.begun t zs j) (hr.row.at_ (hU.block _ hr.row.lt)) (hr.fils.later hU) (cellsF_one _) (by rw [hlen]; exact hfl) p.2 hi S ⟨#[]⟩ (cellsF_str _)).mono ?_
  rintro e w' ⟨he, fv', hR, hF, hO⟩
  have hOO : Only (· = rb) wr w' := (Only.of_below hU).step hO
  have hsub : ∀ b, NewX (NewX X w wr) wr w' b → b < w'.heap.size → NewX X w w' b := fun b hb _ => newx_sub hO0.size hOO.size hb
  refine ⟨he, hO0.step hOO, fv', hR, ?_, (hr.names.keep hOO hr.rbx).mono hsub, (hr.kept.keep hOO hr.rbx).mono hsub, ⟨[], SlC.nil _ _ _, fun i t u hi => by cases hi⟩, ?_⟩
  · have q := slc_new (X := X) (w := w) (w1 := U) hF (by rw [List.length_set, List.length_set, cellsF_len]) (Nat.le_trans hO0.size hU.size)
    have e1 : (m.begun t zs (j + 1)).files = (m.begun t zs j).files.set p.2 (f.cut (zs.getD j 0)) := by
      show cuts t zs m.files (j + 1) = _
      rw [cuts_next t zs m.files j hp]
      have q3 : (cuts t zs m.files j).getD p.2 nul = f := by rw [List.getD_eq_getElem?_getD, hf]; rfl
      rw [q3]
      rfl
    rw [e1, List.length_set, cut_cells, ← hS]
    exact q
  · exact fun q => q.elim (fun z => hr.rbx (.inl z)) (fun z => hr.rbx (.inr ⟨z.1, hr.row.lt⟩))

set_option maxRecDepth 100000 in
set_option maxHeartbeats 4000000 in
theorem RIn.start (h : RIn w X rb m fv nv kv av) (hW : Wf m) (hc : m.calls ≤ 1000) (c : Int) (hcb : -9223372036854775808 ≤ c ∧ c ≤ 9223372036854775807) (ka : Option Addr) (kl kc : Nat) (zs : List Int) (hK : Ints w ka kl zs) (hkl : kl ≤ kc) (hkm : kc ≤ maxLen) (hsrc : ∀ b off, ka = some ⟨b, off, none⟩ → 0 < kl → b ≠ rb) :
    Calls Try.prog 35 #[.pointer (some ⟨rb, 0, none⟩), .int .i64 c, .slice ka kl kc] w fun e w' => e = .returned (.int .i64 (m.start c zs).2) ∧ RPost w X rb w' (m.start c zs).1 := by
  have H : Hid (RIn w X rb m fv nv kv av) := h
  have c6 : w.cell? ⟨rb, 6, none⟩ = some (.bool (!m.on)) := h.row.cell 6
  by_cases h1 : m.on = true
  · have e : m.start c zs = (m, 16) := by unfold M.start; rw [if_pos h1]
    rw [e]
    rw [h1] at c6
    clear h
    go_enter Try.func35, Try.ntmps35
    go_wp2
    go_ret
    exact ⟨rfl, H.out.same (Below.refl _ _)⟩
  have hoff : m.on = false := by simpa using h1
  rw [hoff] at c6
  have f6 := h.row.free 6
  obtain ⟨us, hus, hone, hvs⟩ := h.aft.vals
  obtain ⟨aa, ac, hav⟩ := hus.form
  subst hav
  have hal : (afts m).length = m.since.length := by unfold afts; simp
  rw [hal] at hus
  have HVS : Hid (∀ (i : Nat) (t : Tbl) (u : Value), (afts m)[i]? = some t → us[i]? = some u → SlC w X 2 u t.length (cellsE t)) := hvs
  have HUS : Hid (SlC w X 1 (.slice aa m.since.length ac) m.since.length us) := hus
  obtain ⟨n, HN⟩ : ∃ n, Hid (n = m.since.length) := ⟨_, rfl⟩
  have hnb : (n : Int) ≤ 1000 := by rw [HN.out]; have := hW.sinceN; omega
  rw [begun_start m c zs hoff]
  obtain ⟨t, HTT⟩ : ∃ t, Hid (t = settle m.kept (m.since.take (many c m.since.length))) := ⟨_, rfl⟩
  rw [← HTT.out]
  have HOT : Hid (∀ p ∈ t, p.2 < m.files.length) := by rw [HTT.out]; exact (hW.ok _).less
  have HFO : Hid (FOk m.files m.room) := hW.files
  obtain ⟨V, HV⟩ : ∃ V, Hid (V = (w.setCell ⟨rb, 6, none⟩ (.bool false)).setCell ⟨rb, 5, none⟩ (.int .i64 (-1))) := ⟨_, rfl⟩
  have HRV : Hid (Row V rb 33 [.int .i64 m.room, fv, nv, kv, .slice aa m.since.length ac, .int .i64 (-1), .bool false, .int .i64 m.calls]) := by
    have q := (h.row.set 6 (.bool false)).set 5 (.int .i64 (-1))
    rw [hal] at q
    rw [HV.out]; exact q
  have HOV : Hid (Only (· = rb) w V) := by
    rw [HV.out]
    exact Only.setCell (F := (· = rb)) (p := ⟨rb, 5, none⟩) (Only.setCell (F := (· = rb)) (p := ⟨rb, 6, none⟩) (Only.refl _ w) (.inl rfl) _) (.inl rfl) _
  have hVe : (w.setCell ⟨rb, 6, none⟩ (.bool false)).setCell ⟨rb, 5, none⟩ (.int .i64 (-1)) = V := HV.out.symm
  have r5 := (h.row.set 6 (.bool false)).cell 5
  have g5 := (h.row.set 6 (.bool false)).free 5
  have c5' : (w.setCell ⟨rb, 6, none⟩ (.bool false)).cell? ⟨rb, 5, none⟩ = some (.int .i64 m.fuse) := r5
  have v4 : V.cell? ⟨rb, 4, none⟩ = some (.slice aa n ac) := by rw [HN.out]; exact HRV.out.cell 4
  have v3 : V.cell? ⟨rb, 3, none⟩ = some kv := HRV.out.cell 3
  have v2 : V.cell? ⟨rb, 2, none⟩ = some nv := HRV.out.cell 2
  have u4 := HRV.out.free 4
  have u3 := HRV.out.free 3
  have u2 := HRV.out.free 2
  obtain ⟨ka2, kc2, hkv⟩ := h.kept.form
  obtain ⟨na2, nc2, hnv⟩ := h.names.form
  generalize m.fuse = fu at c5'
  clear h hus hvs r5
  by_cases hn : 0 < min c (n : Int)
  · have hnd : decide (0 < min c (n : Int)) = true := decide_eq_true hn
    obtain ⟨n1, HN1⟩ : ∃ n1 : Nat, Hid ((n1 : Int) = min c (n : Int) - 1) := ⟨(min c (n : Int) - 1).toNat, by unfold Hid; omega⟩
    have hn1 : n1 < n := by have := HN1.out; omega
    have HMN : Hid (many c n = n1 + 1) := by have := HN1.out; unfold Hid many; omega
    have hul := HUS.out.len
    obtain ⟨u, hu⟩ : ∃ u, us[n1]? = some u := ⟨_, List.getElem?_eq_getElem (by rw [hul, ← HN.out]; omega)⟩
    have HKT : Hid (SlC w X 2 u t.length (cellsE t)) := by
      refine HVS.out n1 t u ?_ hu
      rw [afts_at m n1 (by rw [← HN.out]; exact hn1), HTT.out, ← HN.out, HMN.out]
    obtain ⟨kn, HKN⟩ : ∃ kn, Hid (kn = t.length) := ⟨_, rfl⟩
    have hknb : kn ≤ 64 := by rw [HKN.out, HTT.out]; exact hW.few _
    obtain ⟨ka3, kc3, hu3⟩ := HKT.out.form
    have hu4 : u = .slice ka3 kn kc3 := by rw [HKN.out]; exact hu3
    clear hu3 hkv hnv
    subst hu4
    have hsl := HUS.out
    obtain ⟨ub, uo, hua, hux, hul2, hcu⟩ := hsl.at1 hu
    clear hsl hu hul
    subst hua
    have hcV : V.cell? ⟨ub, uo + n1, none⟩ = some (.slice ka3 kn kc3) := (World.cell?_of_block (w := w) (a := ⟨ub, uo + n1, none⟩) (HOV.out.block ub hul2 (fun q => H.out.rbx (q ▸ hux)))).trans hcu
    clear hcu hux hul2
    have hw1 : IntKind.i64.wrap (min c (n : Int) - 1) = (n1 : Int) := by rw [HN1.out]; simp [IntKind.wrap, IntKind.bits, IntKind.signed]; omega
    obtain ⟨W, HWW⟩ : ∃ W, Hid (W = ((V.setCell ⟨rb, 3, none⟩ (.slice ka3 kn kc3)).setCell ⟨rb, 2, none⟩ (.slice ka3 kn kc3)).setCell ⟨rb, 4, none⟩ (.slice none 0 0)) := ⟨_, rfl⟩
    have HBG : Hid (Begun w X rb m t zs (.slice ka3 kn kc3) W 0) := by
      have hO : Only (· = rb) w W := by
        rw [HWW.out]
        exact Only.setCell (F := (· = rb)) (p := ⟨rb, 4, none⟩) (Only.setCell (F := (· = rb)) (p := ⟨rb, 2, none⟩) (Only.setCell (F := (· = rb)) (p := ⟨rb, 3, none⟩) HOV.out (.inl rfl) _) (.inl rfl) _) (.inl rfl) _
      have hrow := ((HRV.out.set 3 (.slice ka3 kn kc3)).set 2 (.slice ka3 kn kc3)).set 4 (.slice none 0 0)
      rw [← HWW.out] at hrow
      exact Begun.init H.out hO hrow HKT.out
    have hWe : ((V.setCell ⟨rb, 3, none⟩ (.slice ka3 kn kc3)).setCell ⟨rb, 2, none⟩ (.slice ka3 kn kc3)).setCell ⟨rb, 4, none⟩ (.slice none 0 0) = W := HWW.out.symm
    go_enter Try.func35, Try.ntmps35
    go_wp2
    clear c6 c5' v4 v3 v2 u4 u3 u2 f6 g5 hVe hWe hnd hn hn1 hcV hw1
    go_loopw [8] (fun i wr => ∃ j : Nat, j ≤ kn ∧ i = .int .i64 j ∧ Begun w X rb m t zs (.slice ka3 kn kc3) wr j) (fun i _ => kn - (intOf i).toNat)
    case atStart => exact ⟨0, Nat.zero_le _, rfl, HBG.out⟩
    case round =>
      obtain ⟨j, hj, rfl, hB⟩ := hrel
      have HB : Hid (Begun w X rb m t zs (.slice ka3 kn kc3) wr j) := hB
      obtain ⟨fv', hr⟩ := hB.here
      clear hB
      obtain ⟨fa, fc, hfv⟩ := hr.fils.form
      subst hfv
      have hrl : rb < wr.heap.size := hr.row.lt
      have x2 : wr.cell? ⟨rb, 2, none⟩ = some (.slice ka3 kn kc3) := hr.row.cell 2
      obtain ⟨fl, hfl⟩ : ∃ x, x = (m.begun t zs j).files.length := ⟨_, rfl⟩
      have x1 : wr.cell? ⟨rb, 1, none⟩ = some (.slice fa fl fc) := by rw [hfl]; exact hr.row.cell 1
      have HFL : Hid (fl = m.files.length) := by rw [hfl]; exact cuts_len t zs m.files j
      have hflb : fl ≤ 1000 := by have := HFL.out; have := hW.filesN; omega
      by_cases hlt : j < kn
      · obtain ⟨p, hp⟩ : ∃ p, t[j]? = some p := ⟨_, List.getElem?_eq_getElem (by have := HKN.out; omega)⟩
        have hnm : SlC wr (NewX X w wr) 2 (.slice ka3 kn kc3) t.length (cellsE t) := hr.names
        obtain ⟨b, off, hkb, hbl, y0, y1⟩ := hnm.entry hp
        have hpl : p.2 < fl := by rw [HFL.out]; exact HOT.out p (List.mem_of_getElem? hp)
        obtain ⟨f, hf⟩ : ∃ f, (m.begun t zs j).files[p.2]? = some f := ⟨_, List.getElem?_eq_getElem (by rw [← hfl]; exact hpl)⟩
        have hfs := hr.fils
        obtain ⟨b', off', hfb, hbl', z0, z1⟩ := hfs.file hf
        have HFK : Hid (f.kept ≤ f.data.length ∧ f.data.length ≤ 1048576) := by
          have q := cuts_fok (r := m.room) HFO.out t zs (fun p hp => HOT.out p hp) j p.2 (by rw [cuts_len, ← HFL.out]; exact hpl)
          have q3 : (cuts t zs m.files j).getD p.2 nul = f := by
            have hf' : (cuts t zs m.files j)[p.2]? = some f := hf
            rw [List.getD_eq_getElem?_getD, hf']; rfl
          rw [q3] at q
          exact ⟨q.1, Nat.le_trans q.2 hW.room⟩
        have HPUT : Hid (∀ (U : World), Below wr.heap.size wr U → ∀ (S : ByteArray), S = str (f.data.take (f.more (zs.getD j 0))) → Calls Try.prog 55 #[.pointer (some ⟨rb, 0, none⟩), .int .i64 p.2, .agg #[.string S, .string ⟨#[]⟩]] U fun e w' => e = .returned (.tuple #[]) ∧ Begun w X rb m t zs (.slice ka3 kn kc3) w' (j + 1)) :=
          fun U hU S hS => HB.out.put hp hf (by have := HFL.out; omega) U hU S hS
        have hKr : Ints wr ka kl zs := hK.only HB.out.only hsrc
        subst hkb hfb
        obtain ⟨pk, HPK⟩ : ∃ x, Hid (x = p.2) := ⟨_, rfl⟩
        rw [← HPK.out] at y1 z0 z1 hpl HPUT
        obtain ⟨A, HAA⟩ : ∃ A, Hid (A = str (f.data.take f.kept)) := ⟨_, rfl⟩
        obtain ⟨D, HDD⟩ : ∃ D, Hid (D = str (f.data.drop f.kept)) := ⟨_, rfl⟩
        rw [← HAA.out] at z0
        rw [← HDD.out] at z1
        have hDs : D.size ≤ 1048576 := by rw [HDD.out, str_size, List.length_drop]; have := HFK.out; omega
        obtain ⟨kz, HKZ⟩ : ∃ kz, Hid (kz = zs.getD j 0) := ⟨_, rfl⟩
        rw [← HKZ.out] at HPUT
        clear hr hnm hfs hfl
        by_cases hjk : j < kl
        · obtain ⟨kb, ko, hka, hkb, hkc⟩ := hKr.2 (by omega)
          have k0 : wr.cell? ⟨kb, ko + j, none⟩ = some (.int .i64 kz) := by rw [HKZ.out]; exact hkc j hjk
          subst hka
          clear hkc hKr
          go_wp2_with fail
          go_region
          go_wp2_with fail
          obtain ⟨q, HQ⟩ : ∃ q : Nat, Hid ((q : Int) = min (max kz 0) (D.size : Int)) := ⟨(min (max kz 0) (D.size : Int)).toNat, by unfold Hid; omega⟩
          have hqD : q ≤ D.size := by have := HQ.out; omega
          rw [← HQ.out]
          obtain ⟨Z, HZ⟩ : ∃ Z, Hid (Z = (wr.alloc (.cells #[.string A, .string D] 75)).drew) := ⟨_, rfl⟩
          rw [← HZ.out]
          obtain ⟨bx, HX⟩ : ∃ x, Hid (x = wr.heap.size) := ⟨_, rfl⟩
          rw [← HX.out]
          have HBZ : Hid (Below wr.heap.size wr Z) := by rw [HZ.out]; exact ((Below.refl _ wr).alloc (Nat.le_refl _) _).drew
          have HRZ : Hid (Row Z bx 75 [.string A, .string D]) := by rw [HZ.out, HX.out]; exact (Row.mk wr [.string A, .string D] _).at_ rfl
          have q0 : Z.cell? ⟨bx, 0, none⟩ = some (.string A) := HRZ.out.cell 0
          have q1 : Z.cell? ⟨bx, 1, none⟩ = some (.string D) := HRZ.out.cell 1
          have q2 : Z.cell? ⟨rb, 2, none⟩ = some (.slice (some ⟨b, off, none⟩) kn kc3) := (HBZ.out.cell (p := ⟨rb, 2, none⟩) hrl).trans x2
          have q3 : Z.cell? ⟨b, off + j * 2 + 1, none⟩ = some (.int .i64 pk) := (HBZ.out.cell (p := ⟨b, off + j * 2 + 1, none⟩) hbl).trans y1
          have HSS : Hid (A ++ D.extract 0 q = str (f.data.take (f.more kz))) := by
            rw [HAA.out, HDD.out, str_take]
            refine cut_str f kz HFK.out.1 q ?_
            rw [HQ.out, HDD.out, str_size, List.length_drop]
            have := HFK.out.1
            omega
          have hAs : A.size + q ≤ 9223372036854775807 := by rw [HAA.out, str_size, List.length_take]; have := HFK.out; omega
          clear x1 x2 y0 y1 z0 z1 k0
          refine wp_region_last 17 (by kernel_rfl) (by kernel_rfl) rfl (by simp only [List.take_succ_cons, List.take_zero]; rfl) ?_
          repeat (first | go_big_quiet_step (fail) | quiet_step (fail))
          refine wpQuiet_nil ?_
          intro _ hw'
          obtain ⟨nq, hw''⟩ := hw'
          subst hw''
          go_wp2_with fail
          have hbz : Below wr.heap.size wr (Z.drewN nq) := HBZ.out.trans ⟨rfl, rfl, rfl, Nat.le_refl _, fun _ _ => rfl⟩
          refine (HPUT.out _ hbz _ HSS.out).mono ?_
          rintro e w3 ⟨rfl, hB3⟩
          clear hbz
          have HB3 : Hid (Begun w X rb m t zs (.slice (some ⟨b, off, none⟩) kn kc3) w3 (j + 1)) := hB3
          clear hB3
          go_wp2
          go_roundw
          case rel => exact ⟨j + 1, by omega, by go_num, HB3.out⟩
          case measure => simp [intOf]; omega
        · have HK0z : Hid (kz = 0) := by
            rw [HKZ.out, List.getD_eq_getElem?_getD, List.getElem?_eq_none (by have := hKr.1; omega)]; rfl
          rw [HK0z.out] at HPUT
          clear hKr
          go_wp2_with fail
          go_region
          go_wp2_with fail
          obtain ⟨q, HQ⟩ : ∃ q : Nat, Hid ((q : Int) = min 0 (D.size : Int)) := ⟨(min 0 (D.size : Int)).toNat, by unfold Hid; omega⟩
          have hqD : q ≤ D.size := by have := HQ.out; omega
          rw [← HQ.out]
          obtain ⟨Z, HZ⟩ : ∃ Z, Hid (Z = (wr.alloc (.cells #[.string A, .string D] 75)).drew) := ⟨_, rfl⟩
          rw [← HZ.out]
          obtain ⟨bx, HX⟩ : ∃ x, Hid (x = wr.heap.size) := ⟨_, rfl⟩
          rw [← HX.out]
          have HBZ : Hid (Below wr.heap.size wr Z) := by rw [HZ.out]; exact ((Below.refl _ wr).alloc (Nat.le_refl _) _).drew
          have HRZ : Hid (Row Z bx 75 [.string A, .string D]) := by rw [HZ.out, HX.out]; exact (Row.mk wr [.string A, .string D] _).at_ rfl
          have q0 : Z.cell? ⟨bx, 0, none⟩ = some (.string A) := HRZ.out.cell 0
          have q1 : Z.cell? ⟨bx, 1, none⟩ = some (.string D) := HRZ.out.cell 1
          have q2 : Z.cell? ⟨rb, 2, none⟩ = some (.slice (some ⟨b, off, none⟩) kn kc3) := (HBZ.out.cell (p := ⟨rb, 2, none⟩) hrl).trans x2
          have q3 : Z.cell? ⟨b, off + j * 2 + 1, none⟩ = some (.int .i64 pk) := (HBZ.out.cell (p := ⟨b, off + j * 2 + 1, none⟩) hbl).trans y1
          have HSS : Hid (A ++ D.extract 0 q = str (f.data.take (f.more 0))) := by
            rw [HAA.out, HDD.out, str_take]
            refine cut_str f 0 HFK.out.1 q ?_
            rw [HQ.out, HDD.out, str_size, List.length_drop]
            have := HFK.out.1
            omega
          have hAs : A.size + q ≤ 9223372036854775807 := by rw [HAA.out, str_size, List.length_take]; have := HFK.out; omega
          clear x1 x2 y0 y1 z0 z1
          refine wp_region_last 17 (by kernel_rfl) (by kernel_rfl) rfl (by simp only [List.take_succ_cons, List.take_zero]; rfl) ?_
          repeat (first | go_big_quiet_step (fail) | quiet_step (fail))
          refine wpQuiet_nil ?_
          intro _ hw'
          obtain ⟨nq, hw''⟩ := hw'
          subst hw''
          go_wp2_with fail
          have hbz : Below wr.heap.size wr (Z.drewN nq) := HBZ.out.trans ⟨rfl, rfl, rfl, Nat.le_refl _, fun _ _ => rfl⟩
          refine (HPUT.out _ hbz _ HSS.out).mono ?_
          rintro e w3 ⟨rfl, hB3⟩
          clear hbz
          have HB3 : Hid (Begun w X rb m t zs (.slice (some ⟨b, off, none⟩) kn kc3) w3 (j + 1)) := hB3
          clear hB3
          go_wp2
          go_roundw
          case rel => exact ⟨j + 1, by omega, by go_num, HB3.out⟩
          case measure => simp [intOf]; omega
      · go_wp2
        go_ret
        have hjn : j = t.length := by have := HKN.out; omega
        rw [← hjn]
        exact ⟨rfl, ⟨_, _, _, _, HB.out.here.choose_spec⟩, HB.out.only⟩
  · have HK0 : Hid (t = m.kept) := by
      rw [HTT.out, ← HN.out]
      have e : many c n = 0 := by unfold many; omega
      rw [e]; rfl
    have hnd : decide (0 < min c (n : Int)) = false := decide_eq_false hn
    obtain ⟨kn, HKN⟩ : ∃ kn, Hid (kn = t.length) := ⟨_, rfl⟩
    have hknb : kn ≤ 64 := by rw [HKN.out, HTT.out]; exact hW.few _
    have hkv' : kv = .slice ka2 kn kc2 := by rw [HKN.out, HK0.out]; exact hkv
    clear hkv hnv
    subst hkv'
    obtain ⟨W, HWW⟩ : ∃ W, Hid (W = (V.setCell ⟨rb, 2, none⟩ (.slice ka2 kn kc2)).setCell ⟨rb, 4, none⟩ (.slice none 0 0)) := ⟨_, rfl⟩
    have HBG : Hid (Begun w X rb m t zs (.slice ka2 kn kc2) W 0) := by
      have hO : Only (· = rb) w W := by
        rw [HWW.out]
        exact Only.setCell (F := (· = rb)) (p := ⟨rb, 4, none⟩) (Only.setCell (F := (· = rb)) (p := ⟨rb, 2, none⟩) HOV.out (.inl rfl) _) (.inl rfl) _
      have hrow := (HRV.out.set 2 (.slice ka2 kn kc2)).set 4 (.slice none 0 0)
      rw [← HWW.out] at hrow
      refine Begun.init H.out hO hrow ?_
      rw [HK0.out]
      exact H.out.kept
    have hWe : (V.setCell ⟨rb, 2, none⟩ (.slice ka2 kn kc2)).setCell ⟨rb, 4, none⟩ (.slice none 0 0) = W := HWW.out.symm
    go_enter Try.func35, Try.ntmps35
    go_wp2
    clear c6 c5' v4 v3 v2 u4 u3 u2 f6 g5 hVe hWe hnd hn
    go_loopw [8] (fun i wr => ∃ j : Nat, j ≤ kn ∧ i = .int .i64 j ∧ Begun w X rb m t zs (.slice ka2 kn kc2) wr j) (fun i _ => kn - (intOf i).toNat)
    case atStart => exact ⟨0, Nat.zero_le _, rfl, HBG.out⟩
    case round =>
      obtain ⟨j, hj, rfl, hB⟩ := hrel
      have HB : Hid (Begun w X rb m t zs (.slice ka2 kn kc2) wr j) := hB
      obtain ⟨fv', hr⟩ := hB.here
      clear hB
      obtain ⟨fa, fc, hfv⟩ := hr.fils.form
      subst hfv
      have hrl : rb < wr.heap.size := hr.row.lt
      have x2 : wr.cell? ⟨rb, 2, none⟩ = some (.slice ka2 kn kc2) := hr.row.cell 2
      obtain ⟨fl, hfl⟩ : ∃ x, x = (m.begun t zs j).files.length := ⟨_, rfl⟩
      have x1 : wr.cell? ⟨rb, 1, none⟩ = some (.slice fa fl fc) := by rw [hfl]; exact hr.row.cell 1
      have HFL : Hid (fl = m.files.length) := by rw [hfl]; exact cuts_len t zs m.files j
      have hflb : fl ≤ 1000 := by have := HFL.out; have := hW.filesN; omega
      by_cases hlt : j < kn
      · obtain ⟨p, hp⟩ : ∃ p, t[j]? = some p := ⟨_, List.getElem?_eq_getElem (by have := HKN.out; omega)⟩
        have hnm : SlC wr (NewX X w wr) 2 (.slice ka2 kn kc2) t.length (cellsE t) := hr.names
        obtain ⟨b, off, hkb, hbl, y0, y1⟩ := hnm.entry hp
        have hpl : p.2 < fl := by rw [HFL.out]; exact HOT.out p (List.mem_of_getElem? hp)
        obtain ⟨f, hf⟩ : ∃ f, (m.begun t zs j).files[p.2]? = some f := ⟨_, List.getElem?_eq_getElem (by rw [← hfl]; exact hpl)⟩
        have hfs := hr.fils
        obtain ⟨b', off', hfb, hbl', z0, z1⟩ := hfs.file hf
        have HFK : Hid (f.kept ≤ f.data.length ∧ f.data.length ≤ 1048576) := by
          have q := cuts_fok (r := m.room) HFO.out t zs (fun p hp => HOT.out p hp) j p.2 (by rw [cuts_len, ← HFL.out]; exact hpl)
          have q3 : (cuts t zs m.files j).getD p.2 nul = f := by
            have hf' : (cuts t zs m.files j)[p.2]? = some f := hf
            rw [List.getD_eq_getElem?_getD, hf']; rfl
          rw [q3] at q
          exact ⟨q.1, Nat.le_trans q.2 hW.room⟩
        have HPUT : Hid (∀ (U : World), Below wr.heap.size wr U → ∀ (S : ByteArray), S = str (f.data.take (f.more (zs.getD j 0))) → Calls Try.prog 55 #[.pointer (some ⟨rb, 0, none⟩), .int .i64 p.2, .agg #[.string S, .string ⟨#[]⟩]] U fun e w' => e = .returned (.tuple #[]) ∧ Begun w X rb m t zs (.slice ka2 kn kc2) w' (j + 1)) :=
          fun U hU S hS => HB.out.put hp hf (by have := HFL.out; omega) U hU S hS
        have hKr : Ints wr ka kl zs := hK.only HB.out.only hsrc
        subst hkb hfb
        obtain ⟨pk, HPK⟩ : ∃ x, Hid (x = p.2) := ⟨_, rfl⟩
        rw [← HPK.out] at y1 z0 z1 hpl HPUT
        obtain ⟨A, HAA⟩ : ∃ A, Hid (A = str (f.data.take f.kept)) := ⟨_, rfl⟩
        obtain ⟨D, HDD⟩ : ∃ D, Hid (D = str (f.data.drop f.kept)) := ⟨_, rfl⟩
        rw [← HAA.out] at z0
        rw [← HDD.out] at z1
        have hDs : D.size ≤ 1048576 := by rw [HDD.out, str_size, List.length_drop]; have := HFK.out; omega
        obtain ⟨kz, HKZ⟩ : ∃ kz, Hid (kz = zs.getD j 0) := ⟨_, rfl⟩
        rw [← HKZ.out] at HPUT
        clear hr hnm hfs hfl
        by_cases hjk : j < kl
        · obtain ⟨kb, ko, hka, hkb, hkc⟩ := hKr.2 (by omega)
          have k0 : wr.cell? ⟨kb, ko + j, none⟩ = some (.int .i64 kz) := by rw [HKZ.out]; exact hkc j hjk
          subst hka
          clear hkc hKr
          go_wp2_with fail
          go_region
          go_wp2_with fail
          obtain ⟨q, HQ⟩ : ∃ q : Nat, Hid ((q : Int) = min (max kz 0) (D.size : Int)) := ⟨(min (max kz 0) (D.size : Int)).toNat, by unfold Hid; omega⟩
          have hqD : q ≤ D.size := by have := HQ.out; omega
          rw [← HQ.out]
          obtain ⟨Z, HZ⟩ : ∃ Z, Hid (Z = (wr.alloc (.cells #[.string A, .string D] 75)).drew) := ⟨_, rfl⟩
          rw [← HZ.out]
          obtain ⟨bx, HX⟩ : ∃ x, Hid (x = wr.heap.size) := ⟨_, rfl⟩
          rw [← HX.out]
          have HBZ : Hid (Below wr.heap.size wr Z) := by rw [HZ.out]; exact ((Below.refl _ wr).alloc (Nat.le_refl _) _).drew
          have HRZ : Hid (Row Z bx 75 [.string A, .string D]) := by rw [HZ.out, HX.out]; exact (Row.mk wr [.string A, .string D] _).at_ rfl
          have q0 : Z.cell? ⟨bx, 0, none⟩ = some (.string A) := HRZ.out.cell 0
          have q1 : Z.cell? ⟨bx, 1, none⟩ = some (.string D) := HRZ.out.cell 1
          have q2 : Z.cell? ⟨rb, 2, none⟩ = some (.slice (some ⟨b, off, none⟩) kn kc2) := (HBZ.out.cell (p := ⟨rb, 2, none⟩) hrl).trans x2
          have q3 : Z.cell? ⟨b, off + j * 2 + 1, none⟩ = some (.int .i64 pk) := (HBZ.out.cell (p := ⟨b, off + j * 2 + 1, none⟩) hbl).trans y1
          have HSS : Hid (A ++ D.extract 0 q = str (f.data.take (f.more kz))) := by
            rw [HAA.out, HDD.out, str_take]
            refine cut_str f kz HFK.out.1 q ?_
            rw [HQ.out, HDD.out, str_size, List.length_drop]
            have := HFK.out.1
            omega
          have hAs : A.size + q ≤ 9223372036854775807 := by rw [HAA.out, str_size, List.length_take]; have := HFK.out; omega
          clear x1 x2 y0 y1 z0 z1 k0
          refine wp_region_last 17 (by kernel_rfl) (by kernel_rfl) rfl (by simp only [List.take_succ_cons, List.take_zero]; rfl) ?_
          repeat (first | go_big_quiet_step (fail) | quiet_step (fail))
          refine wpQuiet_nil ?_
          intro _ hw'
          obtain ⟨nq, hw''⟩ := hw'
          subst hw''
          go_wp2_with fail
          have hbz : Below wr.heap.size wr (Z.drewN nq) := HBZ.out.trans ⟨rfl, rfl, rfl, Nat.le_refl _, fun _ _ => rfl⟩
          refine (HPUT.out _ hbz _ HSS.out).mono ?_
          rintro e w3 ⟨rfl, hB3⟩
          clear hbz
          have HB3 : Hid (Begun w X rb m t zs (.slice (some ⟨b, off, none⟩) kn kc2) w3 (j + 1)) := hB3
          clear hB3
          go_wp2
          go_roundw
          case rel => exact ⟨j + 1, by omega, by go_num, HB3.out⟩
          case measure => simp [intOf]; omega
        · have HK0z : Hid (kz = 0) := by
            rw [HKZ.out, List.getD_eq_getElem?_getD, List.getElem?_eq_none (by have := hKr.1; omega)]; rfl
          rw [HK0z.out] at HPUT
          clear hKr
          go_wp2_with fail
          go_region
          go_wp2_with fail
          obtain ⟨q, HQ⟩ : ∃ q : Nat, Hid ((q : Int) = min 0 (D.size : Int)) := ⟨(min 0 (D.size : Int)).toNat, by unfold Hid; omega⟩
          have hqD : q ≤ D.size := by have := HQ.out; omega
          rw [← HQ.out]
          obtain ⟨Z, HZ⟩ : ∃ Z, Hid (Z = (wr.alloc (.cells #[.string A, .string D] 75)).drew) := ⟨_, rfl⟩
          rw [← HZ.out]
          obtain ⟨bx, HX⟩ : ∃ x, Hid (x = wr.heap.size) := ⟨_, rfl⟩
          rw [← HX.out]
          have HBZ : Hid (Below wr.heap.size wr Z) := by rw [HZ.out]; exact ((Below.refl _ wr).alloc (Nat.le_refl _) _).drew
          have HRZ : Hid (Row Z bx 75 [.string A, .string D]) := by rw [HZ.out, HX.out]; exact (Row.mk wr [.string A, .string D] _).at_ rfl
          have q0 : Z.cell? ⟨bx, 0, none⟩ = some (.string A) := HRZ.out.cell 0
          have q1 : Z.cell? ⟨bx, 1, none⟩ = some (.string D) := HRZ.out.cell 1
          have q2 : Z.cell? ⟨rb, 2, none⟩ = some (.slice (some ⟨b, off, none⟩) kn kc2) := (HBZ.out.cell (p := ⟨rb, 2, none⟩) hrl).trans x2
          have q3 : Z.cell? ⟨b, off + j * 2 + 1, none⟩ = some (.int .i64 pk) := (HBZ.out.cell (p := ⟨b, off + j * 2 + 1, none⟩) hbl).trans y1
          have HSS : Hid (A ++ D.extract 0 q = str (f.data.take (f.more 0))) := by
            rw [HAA.out, HDD.out, str_take]
            refine cut_str f 0 HFK.out.1 q ?_
            rw [HQ.out, HDD.out, str_size, List.length_drop]
            have := HFK.out.1
            omega
          have hAs : A.size + q ≤ 9223372036854775807 := by rw [HAA.out, str_size, List.length_take]; have := HFK.out; omega
          clear x1 x2 y0 y1 z0 z1
          refine wp_region_last 17 (by kernel_rfl) (by kernel_rfl) rfl (by simp only [List.take_succ_cons, List.take_zero]; rfl) ?_
          repeat (first | go_big_quiet_step (fail) | quiet_step (fail))
          refine wpQuiet_nil ?_
          intro _ hw'
          obtain ⟨nq, hw''⟩ := hw'
          subst hw''
          go_wp2_with fail
          have hbz : Below wr.heap.size wr (Z.drewN nq) := HBZ.out.trans ⟨rfl, rfl, rfl, Nat.le_refl _, fun _ _ => rfl⟩
          refine (HPUT.out _ hbz _ HSS.out).mono ?_
          rintro e w3 ⟨rfl, hB3⟩
          clear hbz
          have HB3 : Hid (Begun w X rb m t zs (.slice (some ⟨b, off, none⟩) kn kc2) w3 (j + 1)) := hB3
          clear hB3
          go_wp2
          go_roundw
          case rel => exact ⟨j + 1, by omega, by go_num, HB3.out⟩
          case measure => simp [intOf]; omega
      · go_wp2
        go_ret
        have hjn : j = t.length := by have := HKN.out; omega
        rw [← hjn]
        exact ⟨rfl, ⟨_, _, _, _, HB.out.here.choose_spec⟩, HB.out.only⟩
end
end Go.Proofs.Ytedpiikdlpehjaa.Dsk
