/- A world that only drew. -/
import Derived.Test.YtbeodechhneeeaaGreatDoorWWBase
import Derived.Deep.QuietTactic
import Derived.BigQuiet
set_option linter.unusedVariables false
namespace Go.Proofs.YtbeodechhneeeaaGreatDoor.Wi
open Go.RowKit

theorem below_drewN (w : World) : ∀ n, Below w.heap.size w (w.drewN n) := fun n => ⟨rfl, rfl, rfl, Nat.le_refl _, fun _ _ => rfl⟩
end Go.Proofs.YtbeodechhneeeaaGreatDoor.Wi




