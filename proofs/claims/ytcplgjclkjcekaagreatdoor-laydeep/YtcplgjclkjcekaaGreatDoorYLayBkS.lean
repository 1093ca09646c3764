/- Several texts as one: LayBkS. -/
import Derived.Test.YtcplgjclkjcekaaGreatDoorY26LayLarge
import Derived.Test.YtcplgjclkjcekaaGreatDoorY25LayWr
import Derived.Test.YtcplgjclkjcekaaGreatDoorY15GraphTop
import Derived.Test.YtcplgjclkjcekaaGreatDoorYFlowRsame
section
/- What the laws of package lay call, at what they hold. -/
namespace Go.Proofs.YtcplgjclkjcekaaGreatDoor.Grp
open Utf Rws Pln Flw
open Go.RowKit
set_option linter.unusedSimpArgs false
set_option linter.unusedVariables false
set_option maxRecDepth 100000
set_option maxHeartbeats 4000000

/-- a tree in its box -/
structure TgS (w W : World) (K : Nat) (k : Int) (x y : ByteArray) (ra : Option Addr) (rl rc : Nat) (D : Nat) (t : Tr) : Prop where
  b : Bx W K #[.int .i64 k, .string x, .string y, .slice ra rl rc] 29
  bl : Below w.heap.size w W
  t : TrV W D (.agg #[.int .i64 k, .string x, .string y, .slice ra rl rc]) t
theorem TgS.later {w W W' : World} {K : Nat} {k : Int} {x y : ByteArray} {ra : Option Addr} {rl rc D : Nat} {t : Tr} (h : TgS w W K k x y ra rl rc D t) (hb : Below W.heap.size W W') : TgS w W' K k x y ra rl rc D t := ⟨h.b.later hb, h.bl.trans (hb.mono h.bl.size), h.t.later hb (Nat.le_refl _)⟩
theorem TgS.new {w W : World} {k : Int} {x y : ByteArray} {ra : Option Addr} {rl rc D : Nat} {t : Tr} (hb : Below w.heap.size w W) (h : TrV W D (.agg #[.int .i64 k, .string x, .string y, .slice ra rl rc]) t) : TgS w (W.alloc (.cells #[.int .i64 k, .string x, .string y, .slice ra rl rc] 29)) W.heap.size k x y ra rl rc D t := by
  have b1 := below_alloc W (.cells #[.int .i64 k, .string x, .string y, .slice ra rl rc] 29)
  exact ⟨Bx.new _ _ _, hb.trans (b1.mono hb.size), h.later b1 (Nat.le_refl _)⟩
theorem trv_none (w : World) (n : Nat) : TrV w (n + 1) (.agg #[.int .i64 0, .string ⟨#[]⟩, .string ⟨#[]⟩, .slice none 0 0]) tr0 := (trp_none 0 n w).v
theorem rsame_is {d d' : Nat} {v v' : Value} {t : Tr} {w : World} (h : TrV w d v t) (h' : TrV w d' v' t) : Calls Tryz.prog 10 #[v, v'] w fun e w' => e = .returned (.bool true) ∧ Below w.heap.size w w' :=
  (rsame_any d d' v v' t t w h h').mono (fun e w' q => by
    obtain ⟨b, rfl, h1, h2⟩ := q
    exact ⟨by rw [h1.2 rfl], h2⟩)
theorem lyG_no {g : Gr} (h : lyE g ≠ 0) : lyG g = tr0 := by unfold lyG; rw [if_neg h]
theorem lyE_ne {g : Gr} (h : lyE g ≠ 0) : (lyE g != 0) = true := by simpa using h
theorem lgB_txt {ns : List Nd} (h : lgB ns = false) (hl : ns.length ≤ 4096) : ∀ n ∈ ns, n.text.length ≤ 65536 := fun n hn => by
  unfold lgB at h
  rw [Bool.or_eq_false_iff, Bool.and_eq_false_iff, decide_eq_false_iff_not, decide_eq_false_iff_not, decide_eq_false_iff_not] at h
  have h3 : ns.length ≤ 200 := by omega
  rw [List.take_of_length_le h3] at h
  have := sm_mem hn
  unfold szN at this
  omega
end Go.Proofs.YtcplgjclkjcekaaGreatDoor.Grp
end
