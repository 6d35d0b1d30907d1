/- Digits, and the number of them; a stamp's text, cut at its point. -/
import Derived.Test.YtgiiddcjepjgcaaDoorNum
import Derived.Test.YtgiiddcjepjgcaaDoorRows
import Derived.Below
import Derived.Deep.Quiet
import Derived.BigQuiet
import Derived.Lib.AppendIntMem
import Derived.Lib.IndexLaws
import Derived.Lib.LaidTab
import Derived.Lib.ItoaLen
import Derived.Deep.QuietTactic
set_option linter.unusedVariables false
namespace Go.Proofs.YtgiiddcjepjgcaaDoor
open Go.RowKit

theorem ba_ext {a b : ByteArray} (h : a.data.toList = b.data.toList) : a = b := by
  cases a with | mk x => cases b with | mk y => exact congrArg ByteArray.mk (Array.ext' h)

end Go.Proofs.YtgiiddcjepjgcaaDoor
