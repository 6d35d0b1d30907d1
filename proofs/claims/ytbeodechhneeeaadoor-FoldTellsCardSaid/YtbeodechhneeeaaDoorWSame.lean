/- A world that only drew. -/
import Derived.Test.YtbeodechhneeeaaDoorWWBase
import Derived.Deep.QuietTactic
import Derived.BigQuiet
set_option linter.unusedVariables false
namespace Go.Proofs.YtbeodechhneeeaaDoor.Wi
open Go.RowKit

theorem below_drewN (w : World) : ∀ n, Below w.heap.size w (w.drewN n) := fun n => ⟨rfl, rfl, rfl, Nat.le_refl _, fun _ _ => rfl⟩
end Go.Proofs.YtbeodechhneeeaaDoor.Wi



