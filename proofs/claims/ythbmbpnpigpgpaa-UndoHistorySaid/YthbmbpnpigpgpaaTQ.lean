/- The reference's Above. -/
import Derived.Test.YthbmbpnpigpgpaaTP
set_option linter.unusedVariables false
set_option maxRecDepth 100000
namespace Go.Proofs.Ythbmbpnpigpgpaa
open Go.RowKit Go.WideMaps Go.Maps

structure UpR (w W : World) (nt nr t r : Int) : Prop where
  bel : Below w.heap.size w W
  one : StAt W w.heap.size nt nr
  two : StAt W (w.heap.size + 2) t r
theorem UpR.step {w W W' : World} {nt nr t r : Int} (h : UpR w W nt nr t r) (hb : Below W.heap.size W W') : UpR w W' nt nr t r := ⟨h.bel.trans (hb.mono h.bel.size), h.one.step hb, h.two.step hb⟩
end Go.Proofs.Ythbmbpnpigpgpaa

