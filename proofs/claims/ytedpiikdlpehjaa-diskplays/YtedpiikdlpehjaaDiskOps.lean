/- The calls in memory: New, Sync, Append, Remove, Rename, Create, SyncDir, Read. -/
import Derived.Test.YtedpiikdlpehjaaDiskFiles
namespace Go.Proofs.Ytedpiikdlpehjaa.Dsk
open Go Go.RowKit Go.Maps
set_option linter.unusedSimpArgs false
set_option linter.unusedVariables false

theorem wpList_append_held (w : World) {ops : Array Oper} {rest : List Oper} {o : Oper} {a : Act} {Q : Exit → Act → World → Prop} (hgd : o.guard = none) (s x : Operand)
    (ho : o.op = .call { callee := .builtin .append, args := #[s, x], argTypes := #[37, 37] }) (v : Value) (l : List UInt8) (hs : a.eval s = v) (h : Held w v l)
    (sa : Option Addr) (len cap : Nat) (bs : List UInt8) (hx : a.eval x = .slice sa len cap) (hb : Bys w sa len bs) (hm : l.length + len ≤ 140737488355328)
    (hK : ∀ v' w', Held w' v' (l ++ bs) → w.grownBy w' v.ownBlock → (∀ b, v'.ownBlock = some b → v.ownBlock = some b ∨ w.heap.size ≤ b) → wpList Try.prog ops Q rest (a.put o.dst v') w') : wpList Try.prog ops Q (o :: rest) a w := by
  refine wpList_plain hgd fun K hK' => ?_
  obtain ⟨v', w', hr, h2, h3, h4⟩ := run_append_held h o.type sa len cap bs hb hm
  unfold Oper.wp execOp
  simp only [ho, resolve, invoke, builtin, Sem.run_bind, Sem.run_pure, Result.andThen_ok, List.map_toArray, List.map_cons, List.map_nil, hs, hx, hr]
  exact hK' _ _ (hK v' w' h2 h3 h4)
theorem getD_set {α : Type} (l : List α) (i j : Nat) (v z : α) (hi : i < l.length) : (l.set i v).getD j z = if i = j then v else l.getD j z := by
  simp only [List.getD_eq_getElem?_getD, List.getElem?_set]
  split
  · rename_i e
    subst e
    simp [hi]
  · rfl
section
variable {w : World} {F : Nat → Prop} {d : Nat} {m : M} {ad : List Nat} {dv : List Value} {nB kB : Nat} {sv : Value}
/-- a file of the disk is another one -/
theorem DiskIn.refile {w' : World} {i : Nat} {v' : Value} {f' : Fl} (h : DiskIn w F d m ad dv nB kB sv) (hi : i < m.files.length) (hs : w.heap.size ≤ w'.heap.size) (e : ∀ k, F k → k ≠ ad.getD i 0 → (dv.getD i undef).ownBlock ≠ some k → w'.heap[k]? = w.heap[k]?)
    (hf : FileAt w' (ad.getD i 0) v' f') (hloc : ∀ b, v'.ownBlock = some b → (dv.getD i undef).ownBlock = some b ∨ w.heap.size ≤ b) :
    DiskIn w' (fun k => F k ∨ v'.ownBlock = some k) d { m with files := m.files.set i f' } ad (dv.set i v') nB kB sv := by
  have hdl : i < dv.length := by rw [h.dlen]; exact hi
  have hfc := (h.file i hi).cell
  have hne : ∀ k t c, Row w k t c → t ≠ 81 → k ≠ ad.getD i 0 := fun k t c hr ht q => ht ((q ▸ hr).inj hfc).1
  have hnr : ∀ k t c, Row w k t c → t ≠ 5 → (dv.getD i undef).ownBlock ≠ some k := fun k t c hr ht q => by
    obtain ⟨cur, hr'⟩ := (h.file i hi).held.row q
    exact ht (hr.inj hr').1
  have hmt : ∀ k T, TblAt w k ad T → k ≠ ad.getD i 0 ∧ (dv.getD i undef).ownBlock ≠ some k := fun k T hT => ⟨fun q => hfc.no_map (q ▸ hT), fun q => by
    obtain ⟨cur, hr'⟩ := (h.file i hi).held.row q
    exact hr'.no_map hT⟩
  have hlen : (m.files.set i f').length = m.files.length := List.length_set
  have hold : ∀ j, j < m.files.length → j ≠ i → FileAt w' (ad.getD j 0) (dv.getD j undef) (m.file j) := fun j hj hji => by
    refine (h.file j hj).at_ (e _ (h.ff j hj) (h.apart j i hj hi hji) fun q => ?_) fun g hg => e _ (h.fr j hj g hg) (fun q => ?_) (h.rows j i hj hi hji g hg)
    · obtain ⟨cur, hr'⟩ := (h.file i hi).held.row q
      exact absurd ((h.file j hj).cell.inj hr').1 (by decide)
    · obtain ⟨cur, hr'⟩ := (h.file j hj).held.row hg
      exact absurd ((q ▸ hr').inj hfc).1 (by decide)
  refine ⟨?_, ?_, ?_, h.nk, ?_, by rw [hlen]; exact h.len, by rw [hlen, List.length_set]; exact h.dlen, by rw [hlen]; exact h.apart, ?_, ?_, .inl h.fd, .inl h.fn, .inl h.fk, fun b hb => .inl (h.fs b hb), by rw [hlen]; exact fun j hj => .inl (h.ff j hj), ?_, fun k hk => ?_⟩
  · exact h.cell.at_ (e d h.fd (hne d _ _ h.cell (by decide)) (hnr d _ _ h.cell (by decide)))
  · exact h.names.at_ (e nB h.fn (hmt _ _ h.names).1 (hmt _ _ h.names).2)
  · exact h.kept.at_ (e kB h.fk (hmt _ _ h.kept).1 (hmt _ _ h.kept).2)
  · refine own_stays h.since fun b hb => ?_
    obtain ⟨cur, hc⟩ := own_row_at h.since hb
    have hr : Row w b 86 cur.toList := by unfold Row; simpa using hc
    exact e b (h.fs b hb) (hne b _ _ hr (by decide)) (hnr b _ _ hr (by decide))
  · intro j hj
    rw [hlen] at hj
    by_cases q : j = i
    · subst q
      have e1 : (dv.set j v').getD j undef = v' := by rw [getD_set _ _ _ _ _ hdl, if_pos rfl]
      have e2 : M.file { m with files := m.files.set j f' } j = f' := by
        unfold M.file
        rw [getD_set _ _ _ _ _ hi, if_pos rfl]
      rw [e1, e2]
      exact hf
    · have e1 : (dv.set i v').getD j undef = dv.getD j undef := by rw [getD_set _ _ _ _ _ hdl, if_neg (fun x => q x.symm)]
      have e2 : M.file { m with files := m.files.set i f' } j = m.file j := by
        unfold M.file
        rw [getD_set _ _ _ _ _ hi, if_neg (fun x => q x.symm)]
      rw [e1, e2]
      exact hold j hj q
  · intro j k hj hk hjk b hb
    rw [hlen] at hj hk
    have hvn : ∀ x, x < m.files.length → x ≠ i → v'.ownBlock = some b → (dv.getD x undef).ownBlock = some b → False := fun x hx hxi h1 h2 => by
      rcases hloc b h1 with q | q
      · exact h.rows i x hi hx (fun y => hxi y.symm) b q h2
      · have := (h.file x hx).held.lt h2
        omega
    rw [getD_set _ _ _ _ _ hdl] at hb ⊢
    by_cases q : i = j
    · rw [if_pos q] at hb
      rw [if_neg (fun x => hjk (q ▸ x))]
      exact fun y => hvn k hk (fun x => hjk (q ▸ x.symm)) hb y
    · rw [if_neg q] at hb
      by_cases q2 : i = k
      · rw [if_pos q2]
        exact fun y => hvn j hj (fun x => q x.symm) y hb
      · rw [if_neg q2]
        exact h.rows j k hj hk hjk b hb
  · intro j hj b hb
    rw [hlen] at hj
    rw [getD_set _ _ _ _ _ hdl] at hb
    by_cases q : i = j
    · rw [if_pos q] at hb
      exact .inr hb
    · rw [if_neg q] at hb
      exact .inl (h.fr j hj b hb)
  · rcases hk with hk | hk
    · exact Nat.lt_of_lt_of_le (h.lt k hk) hs
    · exact hf.held.lt hk
theorem DiskIn.mono {G : Nat → Prop} (h : DiskIn w F d m ad dv nB kB sv) (hG : ∀ k, F k → G k) (hl : ∀ k, G k → k < w.heap.size) : DiskIn w G d m ad dv nB kB sv :=
  { h with fd := hG _ h.fd, fn := hG _ h.fn, fk := hG _ h.fk, fs := fun b hb => hG _ (h.fs b hb), ff := fun i hi => hG _ (h.ff i hi), fr := fun i hi b hb => hG _ (h.fr i hi b hb), lt := hl }

theorem DiskIn.sync_ok (h : DiskIn w F d m ad dv nB kB sv) (ho : m.on = true) (hf : m.fuse ≠ 0) (hw : -1 ≤ m.fuse ∧ m.fuse ≤ 9223372036854775807) (hc : m.calls < 4611686018427387904) (n : Nm) (hn : n.length ≤ maxLen) (i : Nat) (hl : look m.names n = some i) (hi : i < m.files.length) :
    Go.Calls Try.prog 22 #[.pointer (some ⟨d, 0, none⟩), .string (str n)] w fun e w' => e = .returned (.int .i64 0) ∧ DiskIn w' F d { m.spent with files := m.files.set i ⟨(m.file i).data, (m.file i).data.length⟩ } ad dv nB kB sv ∧ Only F w w' := by
  have h1 := h.find_some ho n hn i hl
  have h2 := h.spend_on hf hw hc
  have H : Hid (DiskIn w F d m ad dv nB kB sv) := h
  have HI : Hid (i < m.files.length) := hi
  obtain ⟨fb, HFB⟩ : ∃ f, Hid (f = ad.getD i 0) := ⟨_, rfl⟩
  rw [← HFB.out] at h1
  obtain ⟨S, HS⟩ : ∃ S, Hid (S = str n) := ⟨_, rfl⟩
  rw [← HS.out] at h1 ⊢
  clear h ho hf hw hc hn hl hi
  go_enter Try.func22, Try.ntmps22
  go_wp2_with fail
  refine h1.mono ?_
  rintro e w' ⟨rfl, rfl⟩
  go_wp2_with fail
  refine h2.mono ?_
  rintro e w1 ⟨rfl, h3, hO⟩
  have HD : Hid (DiskIn w1 F d m.spent ad dv nB kB sv) := h3
  have HO : Hid (Only F w w1) := hO
  have HI' : Hid (i < m.spent.files.length) := HI.out
  have hcell := (h3.file i HI'.out).cell
  obtain ⟨va, vc, hva⟩ := (h3.file i HI'.out).held.form
  rw [← HFB.out] at hcell
  have hc0 : w1.cell? ⟨fb, 0, none⟩ = some (.slice va (m.file i).data.length vc) := by
    have := hcell.cell 0
    rw [hva] at this
    exact this
  have hc1 : w1.cell? ⟨fb, 1, none⟩ = some (.int .i64 (m.file i).kept) := hcell.cell 1
  have hf1 := hcell.free 1
  obtain ⟨len, HL⟩ : ∃ x, Hid (x = (m.file i).data.length) := ⟨_, rfl⟩
  rw [← HL.out] at hc0
  generalize (m.file i).kept = kp at hc1
  have HFIN : Hid (DiskIn (w1.setCell ⟨fb, 1, none⟩ (.int .i64 len)) F d { m.spent with files := m.files.set i ⟨(m.file i).data, (m.file i).data.length⟩ } ad dv nB kB sv ∧ Only F w (w1.setCell ⟨fb, 1, none⟩ (.int .i64 len))) := by
    have hfb : F fb := by rw [HFB.out]; exact HD.out.ff i HI'.out
    refine ⟨?_, HO.out.setCell (.inl hfb) _⟩
    have hdl : dv.set i (dv.getD i undef) = dv := by
      rw [List.getD_eq_getElem?_getD, List.getElem?_eq_getElem (by rw [HD.out.dlen]; exact HI'.out)]
      simp
    have key := HD.out.refile (w' := w1.setCell ⟨fb, 1, none⟩ (.int .i64 len)) (v' := dv.getD i undef) (f' := ⟨(m.file i).data, (m.file i).data.length⟩) HI'.out (by simp [World.setCell]) (fun k hk h1 h2 => Below.heap_setCell _ _ _ _ (by rw [← HFB.out] at h1; exact h1)) ?_ (fun b hb => .inl hb)
    · rw [hdl] at key
      exact key.mono (fun k hk => hk.elim id fun q => HD.out.fr i HI'.out k q) (fun k hk => by have := HD.out.lt k hk; simpa [World.setCell] using this)
    · rw [← HFB.out, ← HL.out]
      refine ⟨?_, ?_⟩
      · have := hcell.set 1 (.int .i64 len)
        exact this
      · refine (HD.out.file i HI'.out).held.at_ fun b hb => Below.heap_setCell _ _ _ _ fun q => ?_
        obtain ⟨cur, hr⟩ := (HD.out.file i HI'.out).held.row hb
        have q' : b = fb := q
        exact absurd ((q' ▸ hr).inj hcell).1 (by decide)
  clear h3 hO hcell hva h1 h2
  go_wp2
  go_ret
  exact ⟨rfl, HFIN.out⟩
end
end Go.Proofs.Ytedpiikdlpehjaa.Dsk
