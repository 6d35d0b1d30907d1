/- Whether a text is a name: name.Check goes by runes, the reference by bytes. -/
import Derived.Test.YtkkeemhbokpngaaDoorRNumW
set_option linter.unusedVariables false
namespace Go.Proofs.YtkkeemhbokpngaaDoor
open Go.RowKit

def badN (c : Nat) : Bool := decide (c = 47 ∨ c = 0)
/-- A bad byte at some place from a place on. -/
def BadFrom (s : ByteArray) (p : Nat) : Prop := ∃ j, p ≤ j ∧ j < s.size ∧ badN (s.get! j).toNat = true

end Go.Proofs.YtkkeemhbokpngaaDoor
