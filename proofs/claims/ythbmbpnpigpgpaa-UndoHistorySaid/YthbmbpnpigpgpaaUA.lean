/- The ways of a table that New did not make: nil, or zero. -/
import Derived.Test.YthbmbpnpigpgpaaRH
set_option linter.unusedVariables false
set_option maxRecDepth 100000
namespace Go.Proofs.Ythbmbpnpigpgpaa
open Go.RowKit Go.WideMaps Go.Maps

def Dead (w : World) (u : Value) : Prop := u = .pointer none ∨ ∃ z, u = .pointer (some ⟨z, 0, none⟩) ∧ w.heap[z]? = some (.cells #[.map none] 101 (0, 0))
theorem Dead.step {w w' : World} {u : Value} (h : Dead w u) (hb : Below w.heap.size w w') : Dead w' u := by
  rcases h with h | ⟨z, h1, h2⟩
  · exact .inl h
  · exact .inr ⟨z, h1, (hb.block z (lt_of_block h2)).trans h2⟩
end Go.Proofs.Ythbmbpnpigpgpaa

