/- name.Number at every text: its number, or none. -/
import Derived.Test.YtkkeemhbokpngaaDoorBase
import Derived.Laws.RangeAny
import Derived.Lib.OthersKept
import Derived.Lib.DecodeN
set_option linter.unusedVariables false
namespace Go.Proofs.YtkkeemhbokpngaaDoor
open Go.RowKit

/-- A byte as a digit's worth. -/
def isD (c : UInt8) : Bool := 48 ≤ c.toNat && c.toNat ≤ 57
def val (l : List UInt8) : Nat := l.foldl (fun n c => 10 * n + (c.toNat - 48)) 0
theorem val_snoc (l : List UInt8) (c : UInt8) : val (l ++ [c]) = 10 * val l + (c.toNat - 48) := by unfold val; rw [List.foldl_append]; rfl
theorem neb_ (a b : Int) (h : a ≠ b) : (a != b) = true := by simpa using h
theorem eqb_ (a b : Int) (h : a = b) : (a != b) = false := by simpa using h
theorem beqb_ (a b : Int) (h : a = b) : (a == b) = true := by simpa using h
theorem bneb_ (a b : Int) (h : a ≠ b) : (a == b) = false := by simpa using h

end Go.Proofs.YtkkeemhbokpngaaDoor
