/- The chapter's example of fates; FateNobody's law. Made by genfc13.py. -/
import Derived.Test.YthbmbpnpigpgpaaFB
set_option linter.unusedVariables false
set_option maxRecDepth 100000
namespace Go.Proofs.Ythbmbpnpigpgpaa
open Go.RowKit Go.WideMaps Go.Maps

def TwoS (W : World) (n1 n2 : Nat) : Prop := StAt W n1 1 0 ∧ StAt W n2 2 1
theorem TwoS.step {W W' : World} {n1 n2 : Nat} (h : TwoS W n1 n2) (hb : Below W.heap.size W W') : TwoS W' n1 n2 := ⟨h.1.step hb, h.2.step hb⟩
end Go.Proofs.Ythbmbpnpigpgpaa

