/- Whole. -/
import Derived.Test.YtgbihpfpiaacfaaGreatDoorCReE
import Derived.RegionIn
set_option linter.unusedVariables false
set_option maxRecDepth 100000
namespace Go.Proofs.YtgbihpfpiaacfaaGreatDoor.Rc
open Go.RowKit Go.Shelf
attribute [local go_sem] Oper.semAt_some

theorem KeepRow.refl {lo hi : Nat} (W : World) : KeepRow lo hi W W := fun _ _ _ _ h _ => h

end Go.Proofs.YtgbihpfpiaacfaaGreatDoor.Rc

