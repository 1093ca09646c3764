/- does, on a disk that nobody made. -/
import Derived.Test.YteencknmfjegiaaDiskDoes
namespace Go.Proofs.Yteencknmfjegiaa.Dsk
open Go Go.RowKit Go.Maps
set_option linter.unusedSimpArgs false
set_option linter.unusedVariables false

theorem Un.at_ {w w' : World} {v : Value} (h : Un w v) (e : ∀ d, v = .pointer (some ⟨d, 0, none⟩) → w'.heap[d]? = w.heap[d]?) : Un w' v := by
  rcases h with q | ⟨d, cs, q, hr⟩
  · exact .inl q
  · exact .inr ⟨d, cs, q, hr.at_ (e d q)⟩
theorem Un.later {w w' : World} {v : Value} (h : Un w v) (hb : Below w.heap.size w w') : Un w' v := by
  rcases h with q | ⟨d, cs, q, hr⟩
  · exact .inl q
  · exact .inr ⟨d, cs, q, hr.at_ (hb.block d hr.lt)⟩
theorem does_un (v : Value) (k : Nat) (hk : k < 256) (A B : ByteArray) (da : Option Addr) (dl dc : Nat) (n : Int) (ka : Option Addr) (kl kc : Nat) (w : World) (h : Un w v) (h6 : k % 8 ≠ 6) :
    Calls Try.prog 14 #[v, .agg #[.int .u8 k, .string A, .string B, .slice da dl dc, .int .i64 n, .slice ka kl kc]] w fun e w' => e = .returned (.int .i64 2) ∧ Below w.heap.size w w' := by
  have HB : Hid (Below w.heap.size w (w.alloc (.cells #[.int .u8 k, .string A, .string B, .slice da dl dc, .int .i64 n, .slice ka kl kc] 40))) := (Below.refl _ w).alloc (Nat.le_refl _) _
  have HU : Hid (Un (w.alloc (.cells #[.int .u8 k, .string A, .string B, .slice da dl dc, .int .i64 n, .slice ka kl kc] 40)) v) := h.later HB.out
  clear h
  go_enter Try.func14, Try.ntmps14
  go_wp2_with (first
    | (go_at_call 29; refine (create_un _ _ _ HU.out).mono ?_; rintro e w' ⟨rfl, rfl⟩)
    | (go_at_call 30; refine (append_un _ _ _ _ HU.out).mono ?_; rintro e w' ⟨rfl, rfl⟩)
    | (go_at_call 26; refine (sync_un _ _ _ HU.out).mono ?_; rintro e w' ⟨rfl, rfl⟩)
    | (go_at_call 31; refine (rename_un _ _ _ _ HU.out).mono ?_; rintro e w' ⟨rfl, rfl⟩)
    | (go_at_call 32; refine (remove_un _ _ _ HU.out).mono ?_; rintro e w' ⟨rfl, rfl⟩)
    | (go_at_call 27; refine (syncDir_un _ _ HU.out).mono ?_; rintro e w' ⟨rfl, rfl⟩)
    | (go_at_call 28; refine (start_un _ _ _ _ HU.out).mono ?_; rintro e w' ⟨rfl, rfl⟩))
  all_goals go_ret
  all_goals exact ⟨rfl, HB.out⟩
end Go.Proofs.Yteencknmfjegiaa.Dsk
