/- would: a call of a script, of the document's disk. -/
import Derived.Test.YtedpiikdlpehjaaDiskSim
import Derived.Test.YtedpiikdlpehjaaDiskRf9
import Derived.Test.YtedpiikdlpehjaaDiskRg1
import Derived.Test.YtedpiikdlpehjaaDiskRg4
import Derived.Test.YtedpiikdlpehjaaDiskRg5
import Derived.Test.YtedpiikdlpehjaaDiskRg6
import Derived.Test.YtedpiikdlpehjaaDiskRg7
import Derived.Test.YtedpiikdlpehjaaDiskRg8
namespace Go.Proofs.Ytedpiikdlpehjaa.Dsk
open Go Go.RowKit Go.Maps
set_option linter.unusedSimpArgs false
set_option linter.unusedVariables false

section
variable {w : World} {X : Nat → Prop} {rb : Nat} {m : M} {fv nv kv av : Value}
theorem RIn.wide {Y : Nat → Prop} (h : RIn w X rb m fv nv kv av) (hx : ∀ b, X b → b < w.heap.size → Y b) (hr : ¬ Y rb) : RIn w Y rb m fv nv kv av where
  row := h.row
  fils := h.fils.mono hx
  names := h.names.mono hx
  kept := h.kept.mono hx
  aft := by
    obtain ⟨us, h1, h2⟩ := h.aft
    exact ⟨us, h1.mono hx, fun i t u ht hu => (h2 i t u ht hu).mono hx⟩
  rbx := hr
theorem RPost.after {W w' : World} {m' : M} (h : RIn w X rb m fv nv kv av) (hb : Below w.heap.size w W) (k : RPost W X rb w' m') : RPost w X rb w' m' := by
  obtain ⟨⟨a1, a2, a3, a4, hi⟩, hO⟩ := k
  refine ⟨⟨a1, a2, a3, a4, hi.wide (fun b hx hl => ?_) ?_⟩, (Only.of_below hb).step hO⟩
  · exact hx.elim .inl fun q => .inr ⟨Nat.le_trans hb.size q.1, q.2⟩
  · exact fun q => q.elim h.rbx fun q => by have := h.row.lt; omega
theorem RIn.arm (h : RIn w X rb m fv nv kv av) (n : Int) (hn : -9223372036854775808 ≤ n ∧ n ≤ 9223372036854775807) : Calls Try.prog 34 #[.pointer (some ⟨rb, 0, none⟩), .int .i64 n] w fun e w' => e = .returned (.tuple #[]) ∧ RPost w X rb w' (m.arm n) :=
  (rarm_any h.row n hn).mono fun e w' ⟨he, hr, hO⟩ => ⟨he, ⟨_, _, _, _, h.keep (w1 := w) hO hr rfl rfl rfl rfl⟩, hO⟩
set_option maxHeartbeats 1000000 in
theorem RIn.would (h : RIn w X rb m fv nv kv av) (hW : Wf m) (hc : m.calls ≤ 1000) (r : Raw) (hR : RawOk w r) (hdl : r.dl ≤ 140737488355328) (hf : r.off (· = rb)) :
    Calls Try.prog 10 #[.pointer (some ⟨rb, 0, none⟩), .agg #[.int .u8 r.act.kind, .string (str r.act.nA), .string (str r.act.nB), .slice r.da r.dl r.dc, .int .i64 r.act.num, .slice r.ka r.kl r.kc]] w fun e w' => e = .returned (.int .i64 (m.act r.act).2) ∧ RPost w X rb w' (m.act r.act).1 := by
  have HB : Hid (Below w.heap.size w (w.alloc (.cells #[.int .u8 r.act.kind, .string (str r.act.nA), .string (str r.act.nB), .slice r.da r.dl r.dc, .int .i64 r.act.num, .slice r.ka r.kl r.kc] 40))) := (Below.refl _ w).alloc (Nat.le_refl _) _
  have HH : Hid (RIn w X rb m fv nv kv av) := h
  have hD := h.later HB.out
  have hRW := hR.later HB.out
  have la := hR.nA
  have lb := hR.nB
  have h0 := hD.create hW hc r.act.nA la
  have h1 := hD.append hW hc r.act.nA r.da r.dl r.dc r.act.data hRW.data hdl hf.1
  have h2 := hD.sync hW hc r.act.nA
  have h3 := hD.rename hW hc r.act.nA r.act.nB lb
  have h4 := hD.remove hW hc r.act.nA
  have h5 := hD.syncDir hW (by omega)
  have h6 := hD.arm r.act.num hR.num
  have h7 := hD.start hW hc r.act.num hR.num r.ka r.kl r.kc r.act.keep hRW.keep hR.kl hR.kc hf.2
  have hk := hR.kind
  have hact : ∀ q, r.act.kind % 8 = q → m.act r.act = match q with | 0 => m.create r.act.nA | 1 => m.append r.act.nA r.act.data | 2 => m.sync r.act.nA | 3 => m.rename r.act.nA r.act.nB | 4 => m.remove r.act.nA | 5 => m.syncDir | 6 => (m.arm r.act.num, 0) | _ => m.start r.act.num r.act.keep := by
    intro q hq
    unfold M.act
    rw [hq]
    rfl
  obtain ⟨q, hq⟩ : ∃ q, r.act.kind % 8 = q := ⟨_, rfl⟩
  have hq8 : q < 8 := by rw [← hq]; exact Nat.mod_lt _ (by decide)
  have hqi := mod_eq hq
  have hA := hact q hq
  clear hact hq hD hRW hR hf h la lb hdl hW hc
  generalize r.act.kind = k at *
  generalize str r.act.nA = S at *
  generalize str r.act.nB = S' at *
  rcases (by omega : q = 0 ∨ q = 1 ∨ q = 2 ∨ q = 3 ∨ q = 4 ∨ q = 5 ∨ q = 6 ∨ q = 7) with rfl | rfl | rfl | rfl | rfl | rfl | rfl | rfl
  · rw [hA]
    clear h1 h2 h3 h4 h5 h6 h7 hA
    go_enter Try.func10, Try.ntmps10
    go_wp2_with (go_at_call 28; refine h0.mono ?_; rintro e w' ⟨rfl, hp⟩)
    go_ret
    exact ⟨rfl, RPost.after HH.out HB.out hp⟩
  · rw [hA]
    clear h0 h2 h3 h4 h5 h6 h7 hA
    go_enter Try.func10, Try.ntmps10
    go_wp2_with (go_at_call 29; refine h1.mono ?_; rintro e w' ⟨rfl, hp⟩)
    go_ret
    exact ⟨rfl, RPost.after HH.out HB.out hp⟩
  · rw [hA]
    clear h0 h1 h3 h4 h5 h6 h7 hA
    go_enter Try.func10, Try.ntmps10
    go_wp2_with (go_at_call 30; refine h2.mono ?_; rintro e w' ⟨rfl, hp⟩)
    go_ret
    exact ⟨rfl, RPost.after HH.out HB.out hp⟩
  · rw [hA]
    clear h0 h1 h2 h4 h5 h6 h7 hA
    go_enter Try.func10, Try.ntmps10
    go_wp2_with (go_at_call 31; refine h3.mono ?_; rintro e w' ⟨rfl, hp⟩)
    go_ret
    exact ⟨rfl, RPost.after HH.out HB.out hp⟩
  · rw [hA]
    clear h0 h1 h2 h3 h5 h6 h7 hA
    go_enter Try.func10, Try.ntmps10
    go_wp2_with (go_at_call 32; refine h4.mono ?_; rintro e w' ⟨rfl, hp⟩)
    go_ret
    exact ⟨rfl, RPost.after HH.out HB.out hp⟩
  · rw [hA]
    clear h0 h1 h2 h3 h4 h6 h7 hA
    go_enter Try.func10, Try.ntmps10
    go_wp2_with (go_at_call 33; refine h5.mono ?_; rintro e w' ⟨rfl, hp⟩)
    go_ret
    exact ⟨rfl, RPost.after HH.out HB.out hp⟩
  · rw [hA]
    clear h0 h1 h2 h3 h4 h5 h7 hA
    go_enter Try.func10, Try.ntmps10
    go_wp2_with (go_at_call 34; refine h6.mono ?_; rintro e w' ⟨rfl, hp⟩)
    go_ret
    exact ⟨rfl, RPost.after HH.out HB.out hp⟩
  · rw [hA]
    clear h0 h1 h2 h3 h4 h5 h6 hA
    go_enter Try.func10, Try.ntmps10
    go_wp2_with (go_at_call 35; refine h7.mono ?_; rintro e w' ⟨rfl, hp⟩)
    go_ret
    exact ⟨rfl, RPost.after HH.out HB.out hp⟩
end
end Go.Proofs.Ytedpiikdlpehjaa.Dsk
