/- grommetref01.Ints at equal rows: it answers true. -/
import Derived.Test.YtkhaecinjllgiaaUtfDec
import Derived.Test.YtkhaecinjllgiaaUtfPlain3
import Derived.BigQuiet
import Derived.Deep.QuietTactic
namespace Go.Proofs.Ytkhaecinjllgiaa.Utf
open Go.RowKit
set_option linter.unusedSimpArgs false
set_option linter.unusedVariables false


theorem own_later {w w' : World} {B : Nat} {e : TypeId} {k n : Nat} {v : Value} {xs : List Value} (h : w.ownsRow B e k v n xs) (hb : Below w.heap.size w w') : w'.ownsRow B e k v n xs := by
  obtain ⟨h1, h2⟩ := h
  refine ⟨h1, ?_⟩
  rcases h2 with h2 | ⟨g, cap, cur, hv, hg, hh, rest⟩
  · exact .inl h2
  · refine .inr ⟨g, cap, cur, hv, hg, ?_, rest⟩
    rw [hb.block g (Array.getElem?_eq_some_iff.1 hh).1]
    exact hh

theorem ints_same (a a' : Option Addr) (len cap cap' : Nat) (zs : List Int) (w : World) (hz : Ints w a len zs) (hz' : Ints w a' len zs) (hl : len ≤ 17592186044416) :
    Calls Try.prog 16 #[.slice a len cap, .slice a' len cap'] w fun e w' => e = .returned (.bool true) ∧ Below w.heap.size w w' := by
  have HZ : Hid (Ints w a len zs) := hz
  have HZ' : Hid (Ints w a' len zs) := hz'
  clear hz hz'
  go_enter Try.func16, Try.ntmps16
  go_wp2
  go_loopw [5] (fun i wr => ∃ k : Nat, k ≤ len ∧ i = .int .i64 k ∧ Below w.heap.size w wr) (fun i _ => len - (intOf i).toNat)
  case atStart => exact ⟨0, Nat.zero_le _, rfl, Below.refl _ _⟩
  case round =>
    obtain ⟨k, hk, rfl, hbe⟩ := hrel
    by_cases hlt : k < len
    · obtain ⟨b, off, rfl, hb, hc⟩ := HZ.out.2 (by omega)
      obtain ⟨b', off', rfl, hb', hc'⟩ := HZ'.out.2 (by omega)
      have hck := (hbe.cell (p := ⟨b, off + k, none⟩) hb).trans (hc k hlt)
      have hck' := (hbe.cell (p := ⟨b', off' + k, none⟩) hb').trans (hc' k hlt)
      generalize zs.getD k 0 = n at *
      clear hc hc' HZ HZ'
      have hne : (n != n) = false := by simp
      go_wp2
      go_quiet (fail)
      go_wp2
      go_roundw
      case rel => exact ⟨k + 1, by omega, by go_num, below_drewN hbe _⟩
      case measure => simp [intOf]; omega
    · go_wp2
      go_ret
      exact ⟨rfl, hbe⟩

end Go.Proofs.Ytkhaecinjllgiaa.Utf
