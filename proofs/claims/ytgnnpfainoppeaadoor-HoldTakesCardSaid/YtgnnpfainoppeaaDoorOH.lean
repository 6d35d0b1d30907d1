/- op.Parse. Made by genoh7.py. -/
import Derived.Test.YtgnnpfainoppeaaDoorOG
set_option linter.unusedVariables false
namespace Go.Proofs.YtgnnpfainoppeaaDoor
open Go.RowKit

theorem vstep (W : World) (o : Obj) : Below W.heap.size W (W.alloc o) := (Below.refl _ _).alloc (Nat.le_refl _) _
end Go.Proofs.YtgnnpfainoppeaaDoor

