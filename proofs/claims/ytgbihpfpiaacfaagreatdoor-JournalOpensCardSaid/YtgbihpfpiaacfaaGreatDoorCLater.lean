/- A region that draws its order, whose own operations only read and whose callees turn nothing that was there: one walk in the text's order serves every order. -/
import Derived.Test.YtgbihpfpiaacfaaGreatDoorRows
import Derived.Below
import Derived.Deep.Quiet
import Derived.BigQuiet
set_option linter.unusedVariables false
namespace Go.Proofs.YtgbihpfpiaacfaaGreatDoor.Rc
open Go.RowKit

/-- A world in which all that stands in w stands as it did. -/
def Later (w : World) : Type := { w' : World // Below w.heap.size w w' }
def Later.w {w : World} (x : Later w) : World := x.val
instance (w : World) : Nonempty (Later w) := ⟨⟨w, Below.refl _ _⟩⟩

end Go.Proofs.YtgbihpfpiaacfaaGreatDoor.Rc

