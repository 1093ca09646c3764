/- (*Disk).turn. -/
import Derived.Test.YtedpiikdlpehjaaDiskTurn
import Derived.Deep.RegionLaw
import Derived.Deep.RegionWith
import Derived.Laws.OwnMore
namespace Go.Proofs.Ytedpiikdlpehjaa.Dsk
open Go Go.RowKit Go.Maps
set_option linter.unusedSimpArgs false
set_option linter.unusedVariables false

theorem infoChg : (Try.prog.info? 86).map (fun i => (i.zero, i.size, i.bytes)) = some (some (.agg #[.string ByteArray.empty, .string ByteArray.empty, .pointer none]), 3, 40) := by kernel_rfl
theorem info_parts {t : TypeId} {z : Value} {n b : Nat} (h : (Try.prog.info? t).map (fun i => (i.zero, i.size, i.bytes)) = some (some z, n, b)) : ∃ i, Try.prog.info? t = some i ∧ i.zero = some z ∧ i.size = n ∧ i.bytes = b := by
  cases hq : Try.prog.info? t with
  | none => simp [hq] at h
  | some i => simp [hq] at h; exact ⟨i, rfl, h.1, h.2.1, h.2.2⟩
/-- one step of a region that draws: an append to a row of one's own -/
theorem step_append_own {P : Program} {ops : Array Oper} {o : Oper} {a : Act} {w : World} {K : Act → World → Prop} {Q : Exit → Act → World → Prop} {E : Prop}
    (hg : o.guard = none) (s x : Operand) (t : TypeId) (hop : o.op = Op.call { callee := Callee.builtin Builtin.append, args := #[s, x], argTypes := #[t, t] }) (base : Nat)
    (e : TypeId) (i : TypeInfo) (z : Value) (size bytes : Nat) (h1 : P.underlying t = some (.slice e)) (h2 : P.info? e = some i) (h3 : i.zero = some z) (h4 : i.size = size) (h5 : i.bytes = bytes) (h6 : z.cells.size = size) (h7 : 0 < size)
    (v : Value) (n : Nat) (xs : List Value) (hs : a.eval s = v) (hown : w.ownsRow base e size v n xs)
    (ad : Addr) (m c : Nat) (news : List Value) (hx : a.eval x = .slice (some ad) m c) (hn : news.length = m * size) (hc : ∀ j u, news[j]? = some u → w.cell? (ad.add j) = some u) (h1c : ∀ u ∈ news, u.oneCell' = true)
    (b1 : n + m ≤ maxLen) (b2 : (n + m) * bytes ≤ 140737488355328) (hbase : base ≤ w.heap.size)
    (hK : ∀ v' w', w'.ownsRow base e size v' (n + m) (xs ++ news) → w.grownBy w' v.ownBlock → K (a.put o.dst v') w') :
    if Region.wanted o (yielded ops a.tmps) = true then Oper.wp P o a w K Q else E := by
  have hw : Region.wanted o (yielded ops a.tmps) = true := by simp [Region.wanted, hg]
  rw [if_pos hw]
  obtain ⟨v', w', hrun, r1, r2, _⟩ := run_append_own (P := P) w base t o.type e i z size bytes h1 h2 h3 h4 h5 h6 h7 v n xs hown ad m c news hn hc h1c b1 b2 hbase
  unfold Oper.wp
  simp [execOp, hop, resolve, invoke, builtin, hs, hx, hrun, Result.andThen]
  exact hK v' w' r1 r2
theorem news3 (w : World) (a b c : Value) (t : TypeId) : ∀ j u, ([a, b, c] : List Value)[j]? = some u → (w.alloc (.cells #[a, b, c] t)).cell? ((⟨w.heap.size, 0, none⟩ : Addr).add j) = some u := by
  intro j u hj
  have e : (⟨w.heap.size, 0, none⟩ : Addr).add j = ⟨w.heap.size, j, none⟩ := by unfold Addr.add; split <;> simp_all
  rw [e, cell_of_row _ w.heap.size j #[a, b, c] t (0, 0) (heap_alloc_new w _)]
  simpa using hj
theorem own_block_lt {w : World} {base : Nat} {e : TypeId} {size : Nat} {v : Value} {n : Nat} {xs : List Value} (h : w.ownsRow base e size v n xs) {b : Nat} (hb : v.ownBlock = some b) : b < w.heap.size := by
  rcases h.2 with ⟨rfl, _⟩ | ⟨g, cap, cur, rfl, _, hg, _⟩
  · cases hb
  · simp [Value.ownBlock] at hb
    subst hb
    exact (Array.getElem?_eq_some_iff.1 hg).1
theorem own_row_at {w : World} {base : Nat} {e : TypeId} {size : Nat} {v : Value} {n : Nat} {xs : List Value} (h : w.ownsRow base e size v n xs) {b : Nat} (hb : v.ownBlock = some b) : ∃ cur, w.heap[b]? = some (.cells cur e (0, 0)) := by
  rcases h.2 with ⟨rfl, _⟩ | ⟨g, cap, cur, rfl, _, hg, _⟩
  · cases hb
  · simp [Value.ownBlock] at hb
    subst hb
    exact ⟨cur, hg⟩
section
variable {w : World} {F : Nat → Prop} {d : Nat} {m : M} {ad : List Nat} {dv : List Value} {nB kB : Nat} {sv : Value}
/-- a table of the disk is another one -/
theorem DiskIn.names_ne (h : DiskIn w F d m ad dv nB kB sv) : d ≠ nB := fun e => by
  obtain ⟨es, clock, hb, _⟩ := h.names
  have := h.cell
  unfold Row at this
  rw [e, hb] at this
  cases this
theorem DiskIn.kept_ne (h : DiskIn w F d m ad dv nB kB sv) : d ≠ kB := fun e => by
  obtain ⟨es, clock, hb, _⟩ := h.kept
  have := h.cell
  unfold Row at this
  rw [e, hb] at this
  cases this
theorem Row.no_map {w : World} {b : Nat} {t : TypeId} {c : List Value} {ad : List Nat} {T : Tbl} (hr : Row w b t c) (hT : TblAt w b ad T) : False := by
  obtain ⟨es, clock, hb, _⟩ := hT
  unfold Row at hr
  rw [hb] at hr
  cases hr
/-- all blocks of the disk but its tables stand -/
theorem DiskIn.tables {w' : World} {m' : M} (h : DiskIn w F d m ad dv nB kB sv) (hs : w.heap.size ≤ w'.heap.size) (e : ∀ k, F k → k ≠ nB → k ≠ kB → w'.heap[k]? = w.heap[k]?)
    (hn : TblAt w' nB ad m'.names) (hk : TblAt w' kB ad m'.kept) (hm : dC m' nB kB sv = dC m nB kB sv) (e3 : m'.files = m.files) (e4 : m'.since = m.since) : DiskIn w' F d m' ad dv nB kB sv := by
  have hfile : ∀ j, m'.file j = m.file j := fun j => by unfold M.file; rw [e3]
  refine ⟨?_, hn, hk, h.nk, ?_, by rw [e3]; exact h.len, by rw [e3]; exact h.dlen, by rw [e3]; exact h.apart, ?_, by rw [e3]; exact h.rows, h.fd, h.fn, h.fk, h.fs, by rw [e3]; exact h.ff, by rw [e3]; exact h.fr, fun k hk => Nat.lt_of_lt_of_le (h.lt k hk) hs⟩
  · rw [hm]; exact h.cell.at_ (e _ h.fd h.names_ne h.kept_ne)
  · rw [e4]
    refine ⟨h.since.1, ?_⟩
    rcases h.since.2 with q | ⟨g, cap, cur, rfl, h0, hb, r⟩
    · exact .inl q
    · refine .inr ⟨g, cap, cur, rfl, h0, (e g (h.fs g rfl) (fun q => ?_) (fun q => ?_)).trans hb, r⟩
      · exact Row.no_map (b := g) (t := 86) (c := cur.toList) (by unfold Row; simpa using hb) (q ▸ h.names)
      · exact Row.no_map (b := g) (t := 86) (c := cur.toList) (by unfold Row; simpa using hb) (q ▸ h.kept)
  · rw [e3]
    intro j hj
    rw [hfile]
    refine (h.file j hj).at_ (e _ (h.ff j hj) (fun q => ?_) (fun q => ?_)) (fun g hg => e _ (h.fr j hj g hg) (fun q => ?_) (fun q => ?_))
    · exact (h.file j hj).cell.no_map (q ▸ h.names)
    · exact (h.file j hj).cell.no_map (q ▸ h.kept)
    · obtain ⟨cur, hr⟩ := (h.file j hj).held.row hg
      exact hr.no_map (q ▸ h.names)
    · obtain ⟨cur, hr⟩ := (h.file j hj).held.row hg
      exact hr.no_map (q ▸ h.kept)
/-- the row of changes is another one -/
theorem DiskIn.grows {w' : World} {m' : M} {sv' : Value} (h : DiskIn w F d m ad dv nB kB sv) (hs : w.heap.size ≤ w'.heap.size) (e : ∀ k, F k → k ≠ d → sv.ownBlock ≠ some k → w'.heap[k]? = w.heap[k]?)
    (hd : Row w' d 62 (dC m' nB kB sv')) (hsv : w'.ownsRow 0 86 3 sv' m'.since.length (m'.since.flatMap (chgC ad))) (e1 : m'.names = m.names) (e2 : m'.kept = m.kept) (e3 : m'.files = m.files) : DiskIn w' (fun k => F k ∨ sv'.ownBlock = some k) d m' ad dv nB kB sv' := by
  have hfile : ∀ j, m'.file j = m.file j := fun j => by unfold M.file; rw [e3]
  have hrow : ∀ k, sv.ownBlock = some k → ∃ cur, Row w k 86 cur := fun k hk => by
    obtain ⟨cur, hc⟩ := own_row_at h.since hk
    exact ⟨cur.toList, by unfold Row; simpa using hc⟩
  refine ⟨hd, ?_, ?_, h.nk, hsv, by rw [e3]; exact h.len, by rw [e3]; exact h.dlen, by rw [e3]; exact h.apart, ?_, by rw [e3]; exact h.rows, .inl h.fd, .inl h.fn, .inl h.fk, fun b hb => .inr hb, by rw [e3]; exact fun i hi => .inl (h.ff i hi), by rw [e3]; exact fun i hi b hb => .inl (h.fr i hi b hb), fun k hk => ?_⟩
  · rw [e1]
    refine h.names.at_ (e _ h.fn h.names_ne.symm fun q => ?_)
    obtain ⟨cur, hr⟩ := hrow _ q
    exact hr.no_map h.names
  · rw [e2]
    refine h.kept.at_ (e _ h.fk h.kept_ne.symm fun q => ?_)
    obtain ⟨cur, hr⟩ := hrow _ q
    exact hr.no_map h.kept
  · rw [e3]
    intro j hj
    rw [hfile]
    refine (h.file j hj).at_ (e _ (h.ff j hj) (fun q => ?_) (fun q => ?_)) (fun g hg => e _ (h.fr j hj g hg) (fun q => ?_) (fun q => ?_))
    · have := (q ▸ (h.file j hj).cell).inj h.cell
      exact absurd this.1 (by decide)
    · obtain ⟨cur, hr⟩ := hrow _ q
      have := (h.file j hj).cell.inj hr
      exact absurd this.1 (by decide)
    · obtain ⟨cur, hr⟩ := (h.file j hj).held.row hg
      have := (q ▸ hr).inj h.cell
      exact absurd this.1 (by decide)
    · obtain ⟨cur, hr⟩ := (h.file j hj).held.row hg
      obtain ⟨cur', hr'⟩ := hrow _ q
      have := hr.inj hr'
      exact absurd this.1 (by decide)
  · rcases hk with hk | hk
    · exact Nat.lt_of_lt_of_le (h.lt k hk) hs
    · exact own_block_lt hsv hk
theorem DiskIn.turn_off (h : DiskIn w F d m ad dv nB kB sv) (hf : m.fuse = 0) (x y z : Value) (hx : x.oneCell' = true) (hy : y.oneCell' = true) (hz : z.oneCell' = true) : Go.Calls Try.prog 46 #[.pointer (some ⟨d, 0, none⟩), .agg #[x, y, z]] w fun e w' => e = .returned (.int .i64 15) ∧ DiskIn w' F d m.off ad dv nB kB sv ∧ Only F w w' := by
  have HB : Hid (Below w.heap.size w (w.alloc (.cells #[x, y, z] 86))) := (Below.refl _ w).alloc (Nat.le_refl _) _
  have H1 : Hid (DiskIn (w.alloc (.cells #[x, y, z] 86)) F d m ad dv nB kB sv) := h.at_ HB.out.size fun k hk => HB.out.block k (h.lt k hk)
  have HF : Hid (m.fuse = 0) := hf
  clear h hf
  go_enter Try.func46, Try.ntmps46
  go_wp2_with (go_at_call 47; refine (H1.out.spend_off HF.out).mono ?_; rintro e w' ⟨rfl, h2, hO⟩)
  go_ret
  exact ⟨rfl, h2, (Only.of_below HB.out).step hO⟩
end
end Go.Proofs.Ytedpiikdlpehjaa.Dsk
