/- Add of a tree, walked. Made by geneh14.py. -/
import Derived.Test.YtbeodechhneeeaaGreatDoorEG
import Derived.Test.YtbeodechhneeeaaGreatDoorRL
set_option linter.unusedVariables false
set_option linter.unusedSimpArgs false
set_option maxRecDepth 100000
namespace Go.Proofs.YtbeodechhneeeaaGreatDoor
open Go.RowKit Go.Shelf Go.Lib
open Tb (Rw setF dropF getF aboveF Rise TabI TM LiesK TOut Sprung)

theorem wrap_nat {j n : Nat} (h : j < n) (hn : n ≤ 100000) : wrap64 ((j : Int) + 1) = (j : Int) + 1 := by unfold wrap64; omega
theorem meas_nat {j m : Nat} (h : j < m) : m - (intOf (.int .i64 ((j : Int) + 1))).toNat < m - (intOf (.int .i64 (j : Int))).toNat := by simp [intOf]; omega
end Go.Proofs.YtbeodechhneeeaaGreatDoor


