/- The reference's number of digits: the same as the program's. -/
import Derived.Test.YtgnnpfainoppeaaDoorCut
set_option linter.unusedVariables false
namespace Go.Proofs.YtgnnpfainoppeaaDoor.Ve
open Go.RowKit

/-- What holds of the bytes that the reference has gone by. -/
structure NumJ (s : ByteArray) (k : Nat) (V : Nat) : Prop where
  le : k ≤ s.size
  dig : (s.data.toList.take k).all isD = true
  v : V = val (s.data.toList.take k)
theorem NumJ.lt {s : ByteArray} {k V : Nat} (h : NumJ s k V) (hk : k ≤ 18) : V ≤ 999999999999999999 := by
  have h1 := val_lt _ h.dig
  have h2 : (s.data.toList.take k).length ≤ 18 := by rw [List.length_take]; omega
  have h3 : 10 ^ (s.data.toList.take k).length ≤ 10 ^ 18 := Nat.pow_le_pow_right (by omega) h2
  have e : (10 : Nat) ^ 18 = 1000000000000000000 := by decide
  have := h.v
  omega
end Go.Proofs.YtgnnpfainoppeaaDoor.Ve

