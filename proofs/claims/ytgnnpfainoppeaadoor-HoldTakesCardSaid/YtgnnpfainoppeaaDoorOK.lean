/- The chapter's example holds. -/
import Derived.Test.YtgnnpfainoppeaaDoorOH
set_option linter.unusedVariables false
namespace Go.Proofs.YtgnnpfainoppeaaDoor
open Go.RowKit

def o5 : O := ⟨5, 1, 2, 3, 0, 0, 0, ⟨#[97]⟩, true⟩
end Go.Proofs.YtgnnpfainoppeaaDoor

