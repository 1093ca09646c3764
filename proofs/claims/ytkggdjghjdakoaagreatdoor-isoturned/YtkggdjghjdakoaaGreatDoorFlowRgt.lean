/- flow.Right, by its contract. -/
import Derived.Test.YtkggdjghjdakoaaGreatDoorFlowAllow
namespace Go.Proofs.YtkggdjghjdakoaaGreatDoor.Flw
open Utf Rws Pln
open Go.RowKit
set_option linter.unusedSimpArgs false
set_option linter.unusedVariables false
set_option maxRecDepth 100000
set_option maxHeartbeats 4000000

/-- may a tree be? -/
def rgh (d : Nat) (t : Tr) : Bool := (alw d 0 t 0).isSome
theorem TrV.open4 {w : World} {d : Nat} {v : Value} {t : Tr} (h : TrV w d v t) : ∃ (ad : Option Addr) (len cap : Nat), v = tv t.kind t.text t.anc ad len cap := by
  cases d with
  | zero => exact h.elim
  | succ d =>
    obtain ⟨ad, len, cap, e, _⟩ := h
    exact ⟨ad, len, cap, e⟩
theorem right_big {d : Nat} {v : Value} {t : Tr} {w : World} (hb : bri 2147483648 d t) (h : TrV w d v t) (hT : Tb w) : Calls Tryz.prog 32 #[v] w fun e w' => e = .returned (.bool (rgh d t)) ∧ Below w.heap.size w w' := by
  obtain ⟨ad, len, cap, hv⟩ := h.open4
  have HC : Hid (∀ c, Calls Tryz.prog 43 #[.pointer (some ⟨w.heap.size + 1, 0, none⟩), v, .int .i64 0] ((w.alloc (.cells c 63)).alloc (.cells #[.int .i64 0] 83)) fun e w' => e = .returned (.bool (rgh d t)) ∧ Hid (Below w.heap.size w w')) := fun c => by
    have b1 := below_alloc w (.cells c 63)
    have s1 : (w.alloc (.cells c 63)).heap.size = w.heap.size + 1 := World.size_alloc _ _
    have b2 := below_alloc (w.alloc (.cells c 63)) (.cells #[.int .i64 0] 83)
    have b3 := b1.trans (b2.mono (by omega))
    have n1 := Bx.new (w.alloc (.cells c 63)) #[.int .i64 0] 83
    rw [s1] at n1
    exact (allows_any d v t w _ (w.heap.size + 1) 0 0 hb h b3 hT (by omega) (by omega) (by omega) n1).mono (fun e w' ⟨q, h1, h2, h3, h4⟩ => ⟨by rw [h1, h2]; rfl, b3.trans (h3.1.mono (by omega))⟩)
  generalize rgh d t = q at HC ⊢
  clear hb h hT
  subst hv
  generalize t.kind = k at *
  generalize t.text = x at *
  generalize t.anc = a at *
  go_enter Tryz.func32, Tryz.ntmps32
  go_wp2_with (go_at_call 43; refine (HC.out _).mono ?_; rintro e w1 ⟨rfl, H1⟩)
  go_ret
  exact ⟨rfl, H1.out⟩
theorem right_any {d : Nat} {v : Value} {t : Tr} {w : World} (hb : brief d t) (h : TrV w d v t) (hT : Tb w) : Calls Tryz.prog 32 #[v] w fun e w' => e = .returned (.bool (rgh d t)) ∧ Below w.heap.size w w' := right_big (bri.mono (by decide) hb) h hT
end Go.Proofs.YtkggdjghjdakoaaGreatDoor.Flw
