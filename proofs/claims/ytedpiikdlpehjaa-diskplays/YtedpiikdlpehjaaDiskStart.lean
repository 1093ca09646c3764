/- Start. -/
import Derived.Test.YtedpiikdlpehjaaDiskCut
namespace Go.Proofs.Ytedpiikdlpehjaa.Dsk
open Go Go.RowKit Go.Maps
set_option linter.unusedSimpArgs false
set_option linter.unusedVariables false

/-- numbers that lie in memory -/
def Ints (w : World) (a : Option Addr) (len : Nat) (zs : List Int) : Prop :=
  len = zs.length ∧ (0 < len → ∃ b off, a = some ⟨b, off, none⟩ ∧ b < w.heap.size ∧ ∀ i, i < len → w.cell? ⟨b, off + i, none⟩ = some (.int .i64 (zs.getD i 0)))
theorem Ints.at_ {w w' : World} {a : Option Addr} {len : Nat} {l : List Int} (h : Ints w a len l) (hs : w.heap.size ≤ w'.heap.size) (e : ∀ b off, a = some ⟨b, off, none⟩ → 0 < len → b < w.heap.size → w'.heap[b]? = w.heap[b]?) : Ints w' a len l := by
  refine ⟨h.1, fun hp => ?_⟩
  obtain ⟨b, off, ha, hlt, hc⟩ := h.2 hp
  refine ⟨b, off, ha, Nat.lt_of_lt_of_le hlt hs, fun i hi => ?_⟩
  rw [World.cell?_of_block (w := w) (a := ⟨b, off + i, none⟩) (e b off ha hp hlt)]
  exact hc i hi
theorem Ints.only {w w' : World} {F : Nat → Prop} {a : Option Addr} {len : Nat} {l : List Int} (h : Ints w a len l) (hb : Only F w w') (hF : ∀ b off, a = some ⟨b, off, none⟩ → 0 < len → ¬ F b) : Ints w' a len l := h.at_ hb.size fun b off ha hp hl => hb.block b hl (hF b off ha hp)
/-- files that may be -/
def FOk (fs : List Fl) (r : Nat) : Prop := ∀ i, i < fs.length → (fs.getD i nul).kept ≤ (fs.getD i nul).data.length ∧ (fs.getD i nul).data.length ≤ r
theorem more_le (f : Fl) (k : Int) (h : f.kept ≤ f.data.length) : f.kept ≤ f.more k ∧ f.more k ≤ f.data.length := by unfold Fl.more; omega
theorem cuts_len (t : Tbl) (keep : List Int) (fs : List Fl) : ∀ j, (cuts t keep fs j).length = fs.length
  | 0 => rfl
  | j + 1 => by
    unfold cuts
    simp only
    split
    · exact cuts_len t keep fs j
    · rw [List.length_set]; exact cuts_len t keep fs j
theorem set_fok {fs : List Fl} {r : Nat} (h : FOk fs r) (i : Nat) (f : Fl) (hf : f.kept ≤ f.data.length ∧ f.data.length ≤ r) : FOk (fs.set i f) r := by
  intro j hj
  rw [List.length_set] at hj
  by_cases hi : i < fs.length
  · rw [getD_set _ _ _ _ _ hi]
    split
    · exact hf
    · exact h j hj
  · rw [List.set_eq_of_length_le (by omega)]
    exact h j hj
theorem cuts_fok {fs : List Fl} {r : Nat} (h : FOk fs r) (t : Tbl) (keep : List Int) (ht : ∀ p ∈ t, p.2 < fs.length) : ∀ j, FOk (cuts t keep fs j) r
  | 0 => h
  | j + 1 => by
    have ih := cuts_fok h t keep ht j
    unfold cuts
    simp only
    split
    · exact ih
    · rename_i p hp
      have h1 := ih p.2 (by rw [cuts_len]; exact ht p (List.mem_of_getElem? hp))
      have h2 := more_le _ (keep.getD j 0) h1.1
      refine set_fok ih _ _ ⟨?_, ?_⟩
      · simp only [Fl.cut, List.length_take]; omega
      · simp only [Fl.cut, List.length_take]; omega
theorem cuts_next (t : Tbl) (keep : List Int) (fs : List Fl) (j : Nat) {p : Nm × Nat} (h : t[j]? = some p) : cuts t keep fs (j + 1) = (cuts t keep fs j).set p.2 (((cuts t keep fs j).getD p.2 nul).cut (keep.getD j 0)) := by
  rw [cuts, h]
theorem Texts.cell {w : World} {B : Nat} {v : Value} {l : List Nm} (h : Texts w B v l) {j : Nat} {n : Nm} (hj : l[j]? = some n) : ∃ g cap, v = .slice (some ⟨g, 0, none⟩) l.length cap ∧ B ≤ g ∧ g < w.heap.size ∧ w.cell? ⟨g, j, none⟩ = some (.string (str n)) ∧ l.length ≤ cap ∧ cap ≤ maxLen := by
  have hlt := (List.getElem?_eq_some_iff.1 hj).1
  rcases h.2 with ⟨_, q⟩ | ⟨g, cap, cur, q, h0, hb, h1, h2, h3, h4⟩
  · omega
  · refine ⟨g, cap, q, h0, (Array.getElem?_eq_some_iff.1 hb).1, ?_, h1, h2⟩
    rw [cell_of_row w g j cur _ (0, 0) hb]
    have e : (cur.toList.take (l.length * 1))[j]? = some (.string (str n)) := by rw [h4, List.getElem?_map, hj]; rfl
    rw [List.getElem?_take, if_pos (by omega)] at e
    simpa using e
theorem Texts.at_ {w w' : World} {B : Nat} {v : Value} {l : List Nm} (h : Texts w B v l) (e : ∀ b, v.ownBlock = some b → w'.heap[b]? = w.heap[b]?) : Texts w' B v l := own_stays h e
theorem Texts.form {w : World} {B : Nat} {v : Value} {l : List Nm} (h : Texts w B v l) : ∃ a cap, v = .slice a l.length cap := by
  rcases h.2 with ⟨q, q0⟩ | ⟨g, cap, cur, q, _⟩
  · exact ⟨_, _, by rw [q, q0]⟩
  · exact ⟨_, _, q⟩
section
variable {w : World} {F : Nat → Prop} {d : Nat} {m : M} {ad : List Nat} {dv : List Value} {nB kB : Nat} {sv : Value}
theorem DiskIn.start_on (h : DiskIn w F d m ad dv nB kB sv) (ho : m.on = true) (x y : Value) : Go.Calls Try.prog 25 #[.pointer (some ⟨d, 0, none⟩), x, y] w fun e w' => e = .returned (.int .i64 16) ∧ w = w' := by
  have h1 := isMade_at d w h.c0
  have hc1 := h.c1
  rw [ho] at hc1
  clear h ho
  go_enter Try.func25, Try.ntmps25
  go_wp2_with (go_at_call 41; refine h1.mono ?_; rintro e w' ⟨rfl, rfl⟩)
  go_ret
  exact ⟨rfl, rfl⟩
theorem start_un (v x y : Value) (w : World) (h : Un w v) : Calls Try.prog 25 #[v, x, y] w fun e w' => e = .returned (.int .i64 2) ∧ w = w' := by
  have h1 := isMade_un v w h
  clear h
  go_enter Try.func25, Try.ntmps25
  go_wp2_with (go_at_call 41; refine h1.mono ?_; rintro e w' ⟨rfl, rfl⟩)
  go_ret
  exact ⟨rfl, rfl⟩
/-- the names stand in another map -/
theorem DiskIn.renamed {w' : World} {nB' : Nat} {t : Tbl} (h : DiskIn w F d m ad dv nB kB sv) (hs : w.heap.size ≤ w'.heap.size) (e : ∀ k, F k → k ≠ d → w'.heap[k]? = w.heap[k]?) (hd : Row w' d 62 (dC { m with names := t } nB' kB sv)) (hn : TblAt w' nB' ad t) (hne : ¬ F nB') :
    DiskIn w' (fun k => F k ∨ k = nB') d { m with names := t } ad dv nB' kB sv := by
  refine ⟨hd, hn, h.kept.at_ (e kB h.fk h.kept_ne.symm), fun q => hne (q ▸ h.fk), ?_, h.len, h.dlen, h.apart, ?_, h.rows, .inl h.fd, .inr rfl, .inl h.fk, fun b hb => .inl (h.fs b hb), fun i hi => .inl (h.ff i hi), fun i hi b hb => .inl (h.fr i hi b hb), fun k hk => ?_⟩
  · refine own_stays h.since fun b hb => e b (h.fs b hb) fun q => ?_
    exact h.since_ne (by rw [← q, hb])
  · intro i hi
    refine (h.file i hi).at_ (e _ (h.ff i hi) fun q => ?_) fun g hg => e g (h.fr i hi g hg) fun q => ?_
    · exact absurd ((q ▸ (h.file i hi).cell).inj h.cell).1 (by decide)
    · obtain ⟨cur, hr⟩ := (h.file i hi).held.row hg
      exact absurd ((q ▸ hr).inj h.cell).1 (by decide)
  · rcases hk with hk | hk
    · exact Nat.lt_of_lt_of_le (h.lt k hk) hs
    · rw [hk]; exact hn.lt
end
theorem clone_tbl (b : Nat) (ad : List Nat) (t : Tbl) (w : World) (h : TblAt w b ad t) : Calls Try.prog 49 #[.map (some b)] w fun e w' => e = .returned (.map (some w.heap.size)) ∧ TblAt w' w.heap.size ad t ∧ Below w.heap.size w w' :=
  (AnyW.maps_Clone_owns cloneL 9 elemR b t.length (dat ad t) w h).mono fun e w' ⟨h1, h2, _, h4⟩ => ⟨h1, h2, h4⟩
end Go.Proofs.Ytedpiikdlpehjaa.Dsk
