/- does: a call of a script. -/
import Derived.Test.YtedpiikdlpehjaaDiskMine
namespace Go.Proofs.Ytedpiikdlpehjaa.Dsk
open Go Go.RowKit Go.Maps
set_option linter.unusedSimpArgs false
set_option linter.unusedVariables false

/-- a call of a script -/
structure Act where
  kind : Nat
  nA : Nm
  nB : Nm
  data : List UInt8
  num : Int
  keep : List Int
def M.act (m : M) (a : Act) : M × Nat :=
  match a.kind % 8 with
  | 0 => m.create a.nA
  | 1 => m.append a.nA a.data
  | 2 => m.sync a.nA
  | 3 => m.rename a.nA a.nB
  | 4 => m.remove a.nA
  | 5 => m.syncDir
  | 6 => (m.arm a.num, 0)
  | _ => m.start a.num a.keep
/-- .. as it lies in memory -/
structure Raw where
  act : Act
  da : Option Addr
  dl : Nat
  dc : Nat
  ka : Option Addr
  kl : Nat
  kc : Nat
def Raw.cells (r : Raw) : List Value := [.int .u8 r.act.kind, .string (str r.act.nA), .string (str r.act.nB), .slice r.da r.dl r.dc, .int .i64 r.act.num, .slice r.ka r.kl r.kc]
structure RawOk (w : World) (r : Raw) : Prop where
  kind : r.act.kind < 256
  nA : r.act.nA.length ≤ maxLen
  nB : r.act.nB.length ≤ maxLen
  data : Bys w r.da r.dl r.act.data
  num : -9223372036854775808 ≤ r.act.num ∧ r.act.num ≤ 9223372036854775807
  keep : Ints w r.ka r.kl r.act.keep
  kl : r.kl ≤ r.kc
  kc : r.kc ≤ maxLen
  dlc : r.dl ≤ r.dc
  dcm : r.dc ≤ maxLen
/-- its blocks are none of F -/
def Raw.off (r : Raw) (F : Nat → Prop) : Prop := (∀ b o, r.da = some ⟨b, o, none⟩ → 0 < r.dl → ¬ F b) ∧ (∀ b o, r.ka = some ⟨b, o, none⟩ → 0 < r.kl → ¬ F b)
theorem RawOk.at_ {w w' : World} {r : Raw} (h : RawOk w r) (hs : w.heap.size ≤ w'.heap.size) (e : ∀ b o, (r.da = some ⟨b, o, none⟩ ∧ 0 < r.dl) ∨ (r.ka = some ⟨b, o, none⟩ ∧ 0 < r.kl) → b < w.heap.size → w'.heap[b]? = w.heap[b]?) : RawOk w' r :=
  { h with data := h.data.at_ hs fun b o ha hp hl => e b o (.inl ⟨ha, hp⟩) hl, keep := h.keep.at_ hs fun b o ha hp hl => e b o (.inr ⟨ha, hp⟩) hl }
theorem RawOk.later {w w' : World} {r : Raw} (h : RawOk w r) (hb : Below w.heap.size w w') : RawOk w' r := h.at_ hb.size fun b _ _ hl => hb.block b hl
theorem RawOk.only {w w' : World} {F : Nat → Prop} {r : Raw} (h : RawOk w r) (ho : Only F w w') (hf : r.off F) : RawOk w' r := h.at_ ho.size fun b o ha hl => ho.block b hl (ha.elim (fun q => hf.1 b o q.1 q.2) (fun q => hf.2 b o q.1 q.2))
theorem Post.after {F : Nat → Prop} {d : Nat} {w W w' : World} {m : M} (hb : Below w.heap.size w W) (h : Post F d W w' m) : Post F d w w' m := by
  obtain ⟨F', h1, h2, h3⟩ := h
  exact ⟨F', h1, fun k hk => (h2 k hk).elim .inl fun q => .inr (Nat.le_trans hb.size q), (Only.of_below hb).step h3⟩
theorem mod_eq {k q : Nat} (h : k % 8 = q) : ((k : Int) % 8) = (q : Int) := by omega
section
variable {w : World} {F : Nat → Prop} {d : Nat} {m : M}
set_option maxHeartbeats 1000000 in
theorem DiskAt.does (h : DiskAt w F d m) (hc : m.calls < 1099511627776) (r : Raw) (hR : RawOk w r) (hdl : r.dl ≤ 140737488355328) (hf : r.off F) :
    Calls Try.prog 9 #[.pointer (some ⟨d, 0, none⟩), .agg #[.int .u8 r.act.kind, .string (str r.act.nA), .string (str r.act.nB), .slice r.da r.dl r.dc, .int .i64 r.act.num, .slice r.ka r.kl r.kc]] w fun e w' => e = .returned (.int .i64 (m.act r.act).2) ∧ Post F d w w' (m.act r.act).1 := by
  have HB : Hid (Below w.heap.size w (w.alloc (.cells #[.int .u8 r.act.kind, .string (str r.act.nA), .string (str r.act.nB), .slice r.da r.dl r.dc, .int .i64 r.act.num, .slice r.ka r.kl r.kc] 40))) := (Below.refl _ w).alloc (Nat.le_refl _) _
  have hD := h.below HB.out
  have hRW := hR.later HB.out
  have la := hR.nA
  have lb := hR.nB
  have h0 := hD.create hc r.act.nA la
  have h1 := hD.append hc r.act.nA la r.da r.dl r.dc r.act.data hRW.data hdl hf.1
  have h2 := hD.sync hc r.act.nA la
  have h3 := hD.rename hc r.act.nA r.act.nB la lb
  have h4 := hD.remove hc r.act.nA la
  have h5 := hD.syncDir hc
  have h6 := hD.arm r.act.num hR.num.2
  have h7 := hD.start hc r.act.num r.ka r.kl r.kc r.act.keep hRW.keep hR.kl hR.kc hf.2
  have hk := hR.kind
  have hact : ∀ q, r.act.kind % 8 = q → m.act r.act = match q with | 0 => m.create r.act.nA | 1 => m.append r.act.nA r.act.data | 2 => m.sync r.act.nA | 3 => m.rename r.act.nA r.act.nB | 4 => m.remove r.act.nA | 5 => m.syncDir | 6 => (m.arm r.act.num, 0) | _ => m.start r.act.num r.act.keep := by
    intro q hq
    unfold M.act
    rw [hq]
  obtain ⟨q, hq⟩ : ∃ q, r.act.kind % 8 = q := ⟨_, rfl⟩
  have hq8 : q < 8 := by rw [← hq]; exact Nat.mod_lt _ (by decide)
  have hqi := mod_eq hq
  have hA := hact q hq
  clear hact hq hD hRW hR hf h la lb hdl
  generalize r.act.kind = k at *
  generalize str r.act.nA = S at *
  generalize str r.act.nB = S' at *
  rcases (by omega : q = 0 ∨ q = 1 ∨ q = 2 ∨ q = 3 ∨ q = 4 ∨ q = 5 ∨ q = 6 ∨ q = 7) with rfl | rfl | rfl | rfl | rfl | rfl | rfl | rfl
  · rw [hA]
    clear h1 h2 h3 h4 h5 h6 h7 hA
    go_enter Try.func9, Try.ntmps9
    go_wp2_with (go_at_call 20; refine h0.mono ?_; rintro e w' ⟨rfl, hp⟩)
    go_ret
    exact ⟨rfl, Post.after HB.out hp⟩
  · rw [hA]
    clear h0 h2 h3 h4 h5 h6 h7 hA
    go_enter Try.func9, Try.ntmps9
    go_wp2_with (go_at_call 21; refine h1.mono ?_; rintro e w' ⟨rfl, hp⟩)
    go_ret
    exact ⟨rfl, Post.after HB.out hp⟩
  · rw [hA]
    clear h0 h1 h3 h4 h5 h6 h7 hA
    go_enter Try.func9, Try.ntmps9
    go_wp2_with (go_at_call 22; refine h2.mono ?_; rintro e w' ⟨rfl, hp⟩)
    go_ret
    exact ⟨rfl, Post.after HB.out hp⟩
  · rw [hA]
    clear h0 h1 h2 h4 h5 h6 h7 hA
    go_enter Try.func9, Try.ntmps9
    go_wp2_with (go_at_call 26; refine h3.mono ?_; rintro e w' ⟨rfl, hp⟩)
    go_ret
    exact ⟨rfl, Post.after HB.out hp⟩
  · rw [hA]
    clear h0 h1 h2 h3 h5 h6 h7 hA
    go_enter Try.func9, Try.ntmps9
    go_wp2_with (go_at_call 27; refine h4.mono ?_; rintro e w' ⟨rfl, hp⟩)
    go_ret
    exact ⟨rfl, Post.after HB.out hp⟩
  · rw [hA]
    clear h0 h1 h2 h3 h4 h6 h7 hA
    go_enter Try.func9, Try.ntmps9
    go_wp2_with (go_at_call 24; refine h5.mono ?_; rintro e w' ⟨rfl, hp⟩)
    go_ret
    exact ⟨rfl, Post.after HB.out hp⟩
  · rw [hA]
    clear h0 h1 h2 h3 h4 h5 h7 hA
    go_enter Try.func9, Try.ntmps9
    go_wp2_with (go_at_call 23; refine h6.mono ?_; rintro e w' ⟨rfl, hp⟩)
    go_ret
    exact ⟨rfl, Post.after HB.out hp⟩
  · rw [hA]
    clear h0 h1 h2 h3 h4 h5 h6 hA
    go_enter Try.func9, Try.ntmps9
    go_wp2_with (go_at_call 25; refine h7.mono ?_; rintro e w' ⟨rfl, hp⟩)
    go_ret
    exact ⟨rfl, Post.after HB.out hp⟩
end
end Go.Proofs.Ytedpiikdlpehjaa.Dsk
