/- A disk beside the document's disk, and other blocks that stay. -/
import Derived.Test.YtedpiikdlpehjaaDiskWould
import Derived.Test.YtedpiikdlpehjaaDiskTwo
namespace Go.Proofs.Ytedpiikdlpehjaa.Dsk
open Go Go.RowKit Go.Maps
set_option linter.unusedSimpArgs false
set_option linter.unusedVariables false

/-- a disk and the document's, none of whose blocks is of Y -/
def Pair (Y : Nat → Prop) (w0 w : World) (d : Nat) (a : M) (rb : Nat) (b : M) : Prop := ∃ F X fv nv kv av, DiskAt w F d a ∧ RIn w X rb b fv nv kv av ∧ (∀ k, F k → ¬ X k) ∧ ¬ F rb ∧ (∀ k, F k → w0.heap.size ≤ k) ∧ w0.heap.size ≤ rb ∧ (∀ k, X k → k < w.heap.size) ∧ Below w0.heap.size w0 w ∧ ∀ k, Y k → ¬ F k ∧ k ≠ rb ∧ k < w.heap.size
section
variable {Y : Nat → Prop} {w0 w : World} {d rb : Nat} {a b : M}
theorem Pair.bel (h : Pair Y w0 w d a rb b) : Below w0.heap.size w0 w := by
  obtain ⟨F, X, fv, nv, kv, av, h1, h2, h3, h4, h5, h6, h7, h8, h9⟩ := h
  exact h8
theorem Pair.wf (h : Pair Y w0 w d a rb b) : Wf a := by
  obtain ⟨F, X, fv, nv, kv, av, h1, _⟩ := h
  exact h1.1
theorem Pair.mine (h : Pair Y w0 w d a rb b) : Mine w0 w d a := by
  obtain ⟨F, X, fv, nv, kv, av, h1, h2, h3, h4, h5, h6, h7, h8, h9⟩ := h
  exact ⟨F, h1, h5, h8⟩
theorem Pair.rin (h : Pair Y w0 w d a rb b) : ∃ X fv nv kv av, RIn w X rb b fv nv kv av := by
  obtain ⟨F, X, fv, nv, kv, av, h1, h2, _⟩ := h
  exact ⟨X, fv, nv, kv, av, h2⟩
theorem Pair.ylt (h : Pair Y w0 w d a rb b) {k : Nat} (hk : Y k) : k < w.heap.size := by
  obtain ⟨F, X, fv, nv, kv, av, h1, h2, h3, h4, h5, h6, h7, h8, h9⟩ := h
  exact (h9 k hk).2.2
theorem Pair.later (h : Pair Y w0 w d a rb b) {w' : World} (hb : Below w.heap.size w w') : Pair Y w0 w' d a rb b := by
  obtain ⟨F, X, fv, nv, kv, av, h1, h2, h3, h4, h5, h6, h7, h8, h9⟩ := h
  exact ⟨F, X, fv, nv, kv, av, h1.below hb, h2.later hb, h3, h4, h5, h6, fun k hk => Nat.lt_of_lt_of_le (h7 k hk) hb.size, h8.trans (hb.mono h8.size), fun k hk => ⟨(h9 k hk).1, (h9 k hk).2.1, Nat.lt_of_lt_of_le (h9 k hk).2.2 hb.size⟩⟩
/-- blocks that are new since are of none -/
theorem Pair.more {Z : Nat → Prop} (h : Pair Y w0 w d a rb b) {w' : World} (hb : Below w.heap.size w w') (hZ : ∀ k, Z k → w.heap.size ≤ k ∧ k < w'.heap.size) : Pair Z w0 w' d a rb b := by
  obtain ⟨F, X, fv, nv, kv, av, h1, h2, h3, h4, h5, h6, h7, h8, h9⟩ := h
  refine ⟨F, X, fv, nv, kv, av, h1.below hb, h2.later hb, h3, h4, h5, h6, fun k hk => Nat.lt_of_lt_of_le (h7 k hk) hb.size, h8.trans (hb.mono h8.size), fun k hk => ⟨fun r => ?_, fun r => ?_, (hZ k hk).2⟩⟩
  · have := h1.lt k r
    have := hZ k hk
    omega
  · have := h2.row.lt
    have := hZ k hk
    omega
theorem Pair.does (h : Pair Y w0 w d a rb b) (hc : a.calls < 1099511627776) (r : Raw) (hR : RawOk w0 r) (hdl : r.dl ≤ 140737488355328) :
    Calls Try.prog 9 #[.pointer (some ⟨d, 0, none⟩), .agg #[.int .u8 r.act.kind, .string (str r.act.nA), .string (str r.act.nB), .slice r.da r.dl r.dc, .int .i64 r.act.num, .slice r.ka r.kl r.kc]] w fun e w' => e = .returned (.int .i64 (a.act r.act).2) ∧ Pair Y w0 w' d (a.act r.act).1 rb b ∧ ∀ k, Y k → w'.heap[k]? = w.heap[k]? := by
  obtain ⟨F, X, fv, nv, kv, av, h1, h2, h3, h4, h5, h6, h7, h8, h9⟩ := h
  refine (h1.does hc r (hR.later h8) hdl (hR.off_of h5)).mono ?_
  rintro e w' ⟨he, F', k1, k2, k3⟩
  have hst : ∀ k, k < w.heap.size → ¬ F k → w'.heap[k]? = w.heap[k]? := fun k hl hf => k3.block k hl hf
  refine ⟨he, ⟨F', X, fv, nv, kv, av, k1, ?_, fun k hk hx => ?_, fun q => ?_, fun k hk => ?_, h6, fun k hk => Nat.lt_of_lt_of_le (h7 k hk) k3.size, h8.trans (k3.below h8.size h5), fun k hk => ⟨fun q => ?_, (h9 k hk).2.1, Nat.lt_of_lt_of_le (h9 k hk).2.2 k3.size⟩⟩, fun k hk => hst k (h9 k hk).2.2 (h9 k hk).1⟩
  · have hx : ∀ k, X k → k < w.heap.size → w'.heap[k]? = w.heap[k]? := fun k hk hl => hst k hl fun q => h3 k q hk
    refine ⟨h2.row.at_ (hst rb h2.row.lt h4), h2.fils.at_ k3.size hx, h2.names.at_ k3.size hx, h2.kept.at_ k3.size hx, ?_, h2.rbx⟩
    obtain ⟨us, q1, q2⟩ := h2.aft
    exact ⟨us, q1.at_ k3.size hx, fun i t u ht hu => (q2 i t u ht hu).at_ k3.size hx⟩
  · rcases k2 k hk with q | q
    · exact h3 k q hx
    · have := h7 k hx
      omega
  · rcases k2 rb q with q | q
    · exact h4 q
    · have := h2.row.lt
      omega
  · rcases k2 k hk with q | q
    · exact h5 k q
    · exact Nat.le_trans h8.size q
  · rcases k2 k q with q | q
    · exact (h9 k hk).1 q
    · have := (h9 k hk).2.2
      omega
theorem Pair.would (h : Pair Y w0 w d a rb b) (hW : Wf b) (hc : b.calls ≤ 1000) (r : Raw) (hR : RawOk w0 r) (hdl : r.dl ≤ 140737488355328) :
    Calls Try.prog 10 #[.pointer (some ⟨rb, 0, none⟩), .agg #[.int .u8 r.act.kind, .string (str r.act.nA), .string (str r.act.nB), .slice r.da r.dl r.dc, .int .i64 r.act.num, .slice r.ka r.kl r.kc]] w fun e w' => e = .returned (.int .i64 (b.act r.act).2) ∧ Pair Y w0 w' d a rb (b.act r.act).1 ∧ ∀ k, Y k → w'.heap[k]? = w.heap[k]? := by
  obtain ⟨F, X, fv, nv, kv, av, h1, h2, h3, h4, h5, h6, h7, h8, h9⟩ := h
  refine (h2.would hW hc r (hR.later h8) hdl (hR.off_of (F := (· = rb)) fun k hk => hk ▸ h6)).mono ?_
  rintro e w' ⟨he, ⟨a1, a2, a3, a4, k1⟩, k3⟩
  refine ⟨he, ⟨F, _, a1, a2, a3, a4, h1.only k3 (fun k hf q => h4 (q ▸ hf)), k1, fun k hk hx => ?_, h4, h5, h6, fun k hk => ?_, h8.trans (k3.below h8.size (fun k hk => hk ▸ h6)), fun k hk => ⟨(h9 k hk).1, (h9 k hk).2.1, Nat.lt_of_lt_of_le (h9 k hk).2.2 k3.size⟩⟩, fun k hk => k3.block k (h9 k hk).2.2 (h9 k hk).2.1⟩
  · rcases hx with q | q
    · exact h3 k hk q
    · have := h1.lt k hk
      omega
  · rcases hk with q | q
    · exact Nat.lt_of_lt_of_le (h7 k q) k3.size
    · exact q.2
theorem Pair.used (h : Pair Y w0 w d a rb b) (hW : Wf b) (hc : b.calls ≤ 1000) : Calls Try.prog 16 #[.pointer (some ⟨rb, 0, none⟩)] w fun e w' => e = .returned (.int .i64 b.uses) ∧ Below w.heap.size w w' := by
  obtain ⟨X, fv, nv, kv, av, h2⟩ := h.rin
  exact h2.used hW hc
theorem Pair.list (h : Pair Y w0 w d a rb b) (hW : Wf b) : Calls Try.prog 14 #[.pointer (some ⟨rb, 0, none⟩)] w fun e w' => ∃ v, e = .returned v ∧ Texts w' w.heap.size v b.list ∧ Below w.heap.size w w' := by
  obtain ⟨X, fv, nv, kv, av, h2⟩ := h.rin
  exact h2.list hW
theorem Pair.read (h : Pair Y w0 w d a rb b) (hW : Wf b) (hc : b.calls ≤ 1000) (n : Nm) : Calls Try.prog 19 #[.pointer (some ⟨rb, 0, none⟩), .string (str n)] w fun e w' => ∃ a c, e = .returned (.tuple #[.slice a (b.read n).1.length c, .int .i64 (b.read n).2]) ∧ Bys w' a (b.read n).1.length (b.read n).1 ∧ Below w.heap.size w w' := by
  obtain ⟨X, fv, nv, kv, av, h2⟩ := h.rin
  exact h2.read hW hc n
theorem Pair.cells (h : Pair Y w0 w d a rb b) : w.cell? ⟨rb, 6, none⟩ = some (.bool (!b.on)) ∧ w.cell? ⟨rb, 7, none⟩ = some (.int .i64 b.calls) := by
  obtain ⟨X, fv, nv, kv, av, h2⟩ := h.rin
  exact ⟨h2.row.cell 6, h2.row.cell 7⟩
/-- the two, just made -/
theorem Mine.pair (h : Mine w0 w d a) {W : World} (hb : Below w.heap.size w W) (r : Nat) (hr : Row W rb 33 (rC (M.new r) (.slice none 0 0) (.slice none 0 0) (.slice none 0 0) (.slice none 0 0))) (hrb : w.heap.size ≤ rb) : Pair (fun _ => False) w0 W d a rb (M.new r) := by
  obtain ⟨F, h1, h5, h8⟩ := h
  exact ⟨F, fun _ => False, _, _, _, _, h1.below hb, ⟨hr, SlC.nil _ _ _, SlC.nil _ _ _, SlC.nil _ _ _, ⟨[], SlC.nil _ _ _, fun i t u hi => by cases hi⟩, fun q => q⟩, fun _ _ q => q, fun q => by have := h1.lt _ q; omega, h5, Nat.le_trans h8.size hrb, fun _ q => q.elim, h8.trans (hb.mono h8.size), fun _ q => q.elim⟩
end
end Go.Proofs.Ytedpiikdlpehjaa.Dsk
