/- The reference's Open, with where what it hands back lies; its Same on any two. -/
import Derived.Test.YtgbihpfpiaacfaaGreatDoorCSumD
set_option linter.unusedVariables false
namespace Go.Proofs.YtgbihpfpiaacfaaGreatDoor.Rc
open Go.RowKit

theorem lies_shape {w : World} {v : Value} {bs : List Nat} (h : Lies w v bs) : ∃ ao cap, v = .slice ao bs.length cap := by
  obtain ⟨ao, cap, e, _⟩ := h
  exact ⟨ao, cap, e⟩
/-- Where a slice that is not empty lies in old memory. -/
def Far (w : World) (r : Value) (bs : List Nat) : Prop := ∀ ad n c, r = .slice (some ad) n c → bs ≠ [] → ad.block < w.heap.size
theorem Far.nil (w : World) (bs : List Nat) : Far w (.slice none 0 0) bs := fun ad n c e => by injection e with e _ _; cases e

end Go.Proofs.YtgbihpfpiaacfaaGreatDoor.Rc

