/- Disks beside other blocks of the call. -/
import Derived.Test.YtedpiikdlpehjaaDiskSim
namespace Go.Proofs.Ytedpiikdlpehjaa.Dsk
open Go Go.RowKit Go.Maps
set_option linter.unusedSimpArgs false
set_option linter.unusedVariables false

/-- two disks, none of whose blocks is of X -/
def TwoX (X : Nat → Prop) (w0 w : World) (da : Nat) (a : M) (db : Nat) (b : M) : Prop := ∃ FA FB, DiskAt w FA da a ∧ DiskAt w FB db b ∧ (∀ k, FA k → ¬ FB k) ∧ (∀ k, FA k → w0.heap.size ≤ k) ∧ (∀ k, FB k → w0.heap.size ≤ k) ∧ Below w0.heap.size w0 w ∧ ∀ k, X k → ¬ FA k ∧ ¬ FB k ∧ k < w.heap.size
section
variable {X : Nat → Prop} {w0 w : World} {da db : Nat} {a b : M}
theorem TwoX.swap (h : TwoX X w0 w da a db b) : TwoX X w0 w db b da a := by
  obtain ⟨FA, FB, h1, h2, h3, h4, h5, h6, h7⟩ := h
  exact ⟨FB, FA, h2, h1, (fun k hb ha => h3 k ha hb), h5, h4, h6, fun k hk => ⟨(h7 k hk).2.1, (h7 k hk).1, (h7 k hk).2.2⟩⟩
theorem TwoX.two (h : TwoX X w0 w da a db b) : Two w0 w da a db b := by
  obtain ⟨FA, FB, h1, h2, h3, h4, h5, h6, h7⟩ := h
  exact ⟨FA, FB, h1, h2, h3, h4, h5, h6⟩
theorem Two.x (h : Two w0 w da a db b) {W : World} (hb : Below w.heap.size w W) (hX : ∀ k, X k → w.heap.size ≤ k ∧ k < W.heap.size) : TwoX X w0 W da a db b := by
  obtain ⟨FA, FB, h1, h2, h3, h4, h5, h6⟩ := h
  exact ⟨FA, FB, h1.below hb, h2.below hb, h3, h4, h5, h6.trans (hb.mono h6.size), fun k hk => ⟨fun q => by have := h1.lt k q; have := hX k hk; omega, fun q => by have := h2.lt k q; have := hX k hk; omega, (hX k hk).2⟩⟩
theorem TwoX.later (h : TwoX X w0 w da a db b) {w' : World} (hb : Below w.heap.size w w') : TwoX X w0 w' da a db b := by
  obtain ⟨FA, FB, h1, h2, h3, h4, h5, h6, h7⟩ := h
  exact ⟨FA, FB, h1.below hb, h2.below hb, h3, h4, h5, h6.trans (hb.mono h6.size), fun k hk => ⟨(h7 k hk).1, (h7 k hk).2.1, Nat.lt_of_lt_of_le (h7 k hk).2.2 hb.size⟩⟩
theorem TwoX.does (h : TwoX X w0 w da a db b) (hc : a.calls < 1099511627776) (r : Raw) (hR : RawOk w0 r) (hdl : r.dl ≤ 140737488355328) :
    Calls Try.prog 9 #[.pointer (some ⟨da, 0, none⟩), .agg #[.int .u8 r.act.kind, .string (str r.act.nA), .string (str r.act.nB), .slice r.da r.dl r.dc, .int .i64 r.act.num, .slice r.ka r.kl r.kc]] w fun e w' => e = .returned (.int .i64 (a.act r.act).2) ∧ TwoX X w0 w' da (a.act r.act).1 db b ∧ ∀ k, X k → w'.heap[k]? = w.heap[k]? := by
  obtain ⟨FA, FB, h1, h2, h3, h4, h5, h6, h7⟩ := h
  refine (h1.does hc r (hR.later h6) hdl (hR.off_of h4)).mono ?_
  rintro e w' ⟨he, F', k1, k2, k3⟩
  refine ⟨he, ⟨F', FB, k1, h2.only k3 (fun k hb ha => h3 k ha hb), fun k hk hb => ?_, fun k hk => ?_, h5, h6.trans (k3.below h6.size h4), fun k hk => ⟨fun q => ?_, (h7 k hk).2.1, Nat.lt_of_lt_of_le (h7 k hk).2.2 k3.size⟩⟩, fun k hk => k3.block k (h7 k hk).2.2 (h7 k hk).1⟩
  · rcases k2 k hk with q | q
    · exact h3 k q hb
    · have := h2.lt k hb
      omega
  · rcases k2 k hk with q | q
    · exact h4 k q
    · exact Nat.le_trans h6.size q
  · rcases k2 k q with q | q
    · exact (h7 k hk).1 q
    · have := (h7 k hk).2.2
      omega
end
/-- a disk, none of whose blocks is of X -/
def MineX (X : Nat → Prop) (w0 w : World) (d : Nat) (m : M) : Prop := ∃ F, DiskAt w F d m ∧ (∀ k, F k → w0.heap.size ≤ k) ∧ Below w0.heap.size w0 w ∧ ∀ k, X k → ¬ F k ∧ k < w.heap.size
section
variable {X : Nat → Prop} {w0 w : World} {d : Nat} {m : M}
theorem MineX.mine (h : MineX X w0 w d m) : Mine w0 w d m := by
  obtain ⟨F, h1, h2, h3, h4⟩ := h
  exact ⟨F, h1, h2, h3⟩
theorem MineX.bel (h : MineX X w0 w d m) : Below w0.heap.size w0 w := h.mine.bel
theorem Mine.x (h : Mine w0 w d m) {W : World} (hb : Below w.heap.size w W) (hX : ∀ k, X k → w.heap.size ≤ k ∧ k < W.heap.size) : MineX X w0 W d m := by
  obtain ⟨F, h1, h2, h3⟩ := h
  exact ⟨F, h1.below hb, h2, h3.trans (hb.mono h3.size), fun k hk => ⟨fun q => by have := h1.lt k q; have := hX k hk; omega, (hX k hk).2⟩⟩
theorem MineX.later (h : MineX X w0 w d m) {w' : World} (hb : Below w.heap.size w w') : MineX X w0 w' d m := by
  obtain ⟨F, h1, h2, h3, h4⟩ := h
  exact ⟨F, h1.below hb, h2, h3.trans (hb.mono h3.size), fun k hk => ⟨(h4 k hk).1, Nat.lt_of_lt_of_le (h4 k hk).2 hb.size⟩⟩
/-- a change of blocks of Y, which are of X or new, turns nothing of the disk -/
theorem MineX.only {Y : Nat → Prop} (h : MineX X w0 w d m) {w' : World} (hO : Only Y w w') (hY : ∀ k, Y k → X k) (hYw : ∀ k, Y k → w0.heap.size ≤ k) : MineX X w0 w' d m := by
  obtain ⟨F, h1, h2, h3, h4⟩ := h
  exact ⟨F, h1.only hO (fun k hk hy => (h4 k (hY k hy)).1 hk), h2, h3.trans (hO.below h3.size hYw), fun k hk => ⟨(h4 k hk).1, Nat.lt_of_lt_of_le (h4 k hk).2 hO.size⟩⟩
/-- blocks that are new since are of none of its own -/
theorem MineX.more {Z : Nat → Prop} (h : MineX X w0 w d m) {w' : World} (hb : Below w.heap.size w w') (hZ : ∀ k, Z k → X k ∨ (w.heap.size ≤ k ∧ k < w'.heap.size)) : MineX Z w0 w' d m := by
  obtain ⟨F, h1, h2, h3, h4⟩ := h
  refine ⟨F, h1.below hb, h2, h3.trans (hb.mono h3.size), fun k hk => ?_⟩
  rcases hZ k hk with q | q
  · exact ⟨(h4 k q).1, Nat.lt_of_lt_of_le (h4 k q).2 hb.size⟩
  · exact ⟨fun r => by have := h1.lt k r; omega, q.2⟩
theorem MineX.post {F : Nat → Prop} {w' : World} {m' : M} (h2 : ∀ k, F k → w0.heap.size ≤ k) (h3 : Below w0.heap.size w0 w) (h4 : ∀ k, X k → ¬ F k ∧ k < w.heap.size) (hp : Post F d w w' m') : MineX X w0 w' d m' ∧ ∀ k, X k → w'.heap[k]? = w.heap[k]? := by
  obtain ⟨F', k1, k2, k3⟩ := hp
  refine ⟨⟨F', k1, fun k hk => ?_, h3.trans (k3.below h3.size h2), fun k hk => ⟨fun q => ?_, Nat.lt_of_lt_of_le (h4 k hk).2 k3.size⟩⟩, fun k hk => k3.block k (h4 k hk).2 (h4 k hk).1⟩
  · rcases k2 k hk with q | q
    · exact h2 k q
    · exact Nat.le_trans h3.size q
  · rcases k2 k q with q | q
    · exact (h4 k hk).1 q
    · have := (h4 k hk).2
      omega
theorem MineX.does (h : MineX X w0 w d m) (hc : m.calls < 1099511627776) (r : Raw) (hR : RawOk w0 r) (hdl : r.dl ≤ 140737488355328) :
    Calls Try.prog 9 #[.pointer (some ⟨d, 0, none⟩), .agg #[.int .u8 r.act.kind, .string (str r.act.nA), .string (str r.act.nB), .slice r.da r.dl r.dc, .int .i64 r.act.num, .slice r.ka r.kl r.kc]] w fun e w' => e = .returned (.int .i64 (m.act r.act).2) ∧ MineX X w0 w' d (m.act r.act).1 ∧ ∀ k, X k → w'.heap[k]? = w.heap[k]? := by
  obtain ⟨F, h1, h2, h3, h4⟩ := h
  exact (h1.does hc r (hR.later h3) hdl (hR.off_of h2)).mono fun e w' ⟨he, hp⟩ => ⟨he, MineX.post h2 h3 h4 hp⟩
theorem MineX.sync (h : MineX X w0 w d m) (hc : m.calls < 1099511627776) (n : Nm) (hn : n.length ≤ maxLen) : Calls Try.prog 22 #[.pointer (some ⟨d, 0, none⟩), .string (str n)] w fun e w' => e = .returned (.int .i64 (m.sync n).2) ∧ MineX X w0 w' d (m.sync n).1 ∧ ∀ k, X k → w'.heap[k]? = w.heap[k]? := by
  obtain ⟨F, h1, h2, h3, h4⟩ := h
  exact (h1.sync hc n hn).mono fun e w' ⟨he, hp⟩ => ⟨he, MineX.post h2 h3 h4 hp⟩
theorem MineX.syncDir (h : MineX X w0 w d m) (hc : m.calls < 1099511627776) : Calls Try.prog 24 #[.pointer (some ⟨d, 0, none⟩)] w fun e w' => e = .returned (.int .i64 m.syncDir.2) ∧ MineX X w0 w' d m.syncDir.1 ∧ ∀ k, X k → w'.heap[k]? = w.heap[k]? := by
  obtain ⟨F, h1, h2, h3, h4⟩ := h
  exact (h1.syncDir hc).mono fun e w' ⟨he, hp⟩ => ⟨he, MineX.post h2 h3 h4 hp⟩
theorem MineX.arm (h : MineX X w0 w d m) (n : Int) (hn : n ≤ 9223372036854775807) : Calls Try.prog 23 #[.pointer (some ⟨d, 0, none⟩), .int .i64 n] w fun e w' => e = .returned (.tuple #[]) ∧ MineX X w0 w' d (m.arm n) ∧ ∀ k, X k → w'.heap[k]? = w.heap[k]? := by
  obtain ⟨F, h1, h2, h3, h4⟩ := h
  exact (h1.arm n hn).mono fun e w' ⟨he, hp⟩ => ⟨he, MineX.post h2 h3 h4 hp⟩
theorem MineX.start (h : MineX X w0 w d m) (hc : m.calls < 1099511627776) (ch : Int) (ka : Option Addr) (klen kcap : Nat) (zs : List Int) (hK : Ints w0 ka klen zs) (hkl : klen ≤ kcap) (hkm : kcap ≤ maxLen) :
    Calls Try.prog 25 #[.pointer (some ⟨d, 0, none⟩), .int .i64 ch, .slice ka klen kcap] w fun e w' => e = .returned (.int .i64 (m.start ch zs).2) ∧ MineX X w0 w' d (m.start ch zs).1 ∧ ∀ k, X k → w'.heap[k]? = w.heap[k]? := by
  obtain ⟨F, h1, h2, h3, h4⟩ := h
  refine (h1.start hc ch ka klen kcap zs (hK.at_ h3.size fun b _ _ _ hl => h3.block b hl) hkl hkm fun b off ha hp hF => ?_).mono fun e w' ⟨he, hp⟩ => ⟨he, MineX.post h2 h3 h4 hp⟩
  obtain ⟨b', o', e, hlt, _⟩ := hK.2 hp
  rw [ha] at e
  cases e
  have := h2 b hF
  omega
end
end Go.Proofs.Ytedpiikdlpehjaa.Dsk
