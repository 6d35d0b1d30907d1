/- A tree in the heap; have, New, Load. -/
import Derived.Test.YtbeodechhneeeaaGreatDoorDO
import Derived.Test.YtbeodechhneeeaaGreatDoorVE
import Derived.Deep.MidRow
import Derived.Deep.CutRange
import Derived.StillTailTactics
set_option linter.unusedVariables false
set_option linter.unusedSimpArgs false
set_option maxRecDepth 100000
namespace Go.Proofs.YtbeodechhneeeaaGreatDoor
open Go.RowKit
open Tb (Rw setF dropF getF aboveF Rise TabI TM)

noncomputable def rO (o : O) : Bool := rB o.t o.r o.q o.nt o.nr o.pt o.pr o.nm
theorem box4 {w : World} {p : Nat} {a b c d : Value} {t : TypeId} (h : w.heap[p]? = some (.cells #[a, b, c, d] t (0, 0))) : w.cell? ⟨p, 0, none⟩ = some a ∧ w.cell? ⟨p, 1, none⟩ = some b ∧ w.cell? ⟨p, 2, none⟩ = some c ∧ w.cell? ⟨p, 3, none⟩ = some d :=
  ⟨by rw [cell_of_row _ _ _ _ _ _ h]; rfl, by rw [cell_of_row _ _ _ _ _ _ h]; rfl, by rw [cell_of_row _ _ _ _ _ _ h]; rfl, by rw [cell_of_row _ _ _ _ _ _ h]; rfl⟩
end Go.Proofs.YtbeodechhneeeaaGreatDoor


