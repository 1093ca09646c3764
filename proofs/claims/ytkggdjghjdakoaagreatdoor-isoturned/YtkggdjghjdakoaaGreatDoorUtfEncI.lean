/- utf.areSigns, utf.appendSigns, utf.Encode, by their contracts: over a row of numbers that lies anywhere in memory. -/
import Derived.Test.YtkggdjghjdakoaaGreatDoorUtfFirstI
import Derived.Test.YtkggdjghjdakoaaGreatDoorUtfConv
import Derived.Test.YtkggdjghjdakoaaGreatDoorUtfPlain2
import Derived.Laws.BytesArg
namespace Go.Proofs.YtkggdjghjdakoaaGreatDoor.Utf
open Go.RowKit
set_option linter.unusedSimpArgs false
set_option linter.unusedVariables false

/-- a slice of ints that holds the numbers zs -/
def Ints (w : World) (a : Option Addr) (len : Nat) (zs : List Int) : Prop :=
  len = zs.length ∧ (0 < len → ∃ b off, a = some ⟨b, off, none⟩ ∧ b < w.heap.size ∧ ∀ i, i < len → w.cell? ⟨b, off + i, none⟩ = some (.int .i64 (zs.getD i 0)))

theorem add_plain (b off i : Nat) : (⟨b, off, none⟩ : Addr).add i = ⟨b, off + i, none⟩ := by unfold Addr.add; split <;> simp_all

end Go.Proofs.YtkggdjghjdakoaaGreatDoor.Utf
