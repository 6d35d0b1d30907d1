/- An op done upon a table: do. -/
import Derived.Test.YtbeodechhneeeaaGreatDoorBA
import Derived.Test.YtbeodechhneeeaaGreatDoorOZ
import Derived.Deep.CutRange
import Derived.LoopTactic
import Derived.RegionTactic
import Derived.StillTailTactics
set_option linter.unusedVariables false
set_option linter.unusedSimpArgs false
set_option maxRecDepth 100000
namespace Go.Proofs.YtbeodechhneeeaaGreatDoor
open Go.RowKit Go.Shelf
open Tb (Rw setF dropF getF aboveF Rise TabI TM LiesK TOut)

/-- do's three boxes, the table. -/
structure DoI (w W : World) (p b : Nat) (T : List Rw) (o : O) (s4 s5 : Stp) : Prop where
  grow : w.grownBy W (some b)
  tab : TabI W p b T
  b3 : W.heap[w.heap.size]? = some (.cells (oCells o) 33 (0, 0))
  b4 : W.heap[w.heap.size + 1]? = some (.cells (stCells s4) 105 (0, 0))
  b5 : W.heap[w.heap.size + 1 + 1]? = some (.cells (stCells s5) 105 (0, 0))
  lt : b < w.heap.size ∧ p < w.heap.size
theorem DoI.step {w W W' : World} {p b : Nat} {T : List Rw} {o : O} {s4 s5 : Stp} (h : DoI w W p b T o s4 s5) (hb : Below W.heap.size W W') : DoI w W' p b T o s4 s5 :=
  ⟨h.grow.andThen (Tb.below_grown hb (some b)) (fun j e => Or.inr e), h.tab.step hb, (hb.block _ (pl_lt h.b3)).trans h.b3, (hb.block _ (pl_lt h.b4)).trans h.b4, (hb.block _ (pl_lt h.b5)).trans h.b5, h.lt⟩
/-- The numbers of an op are numbers. -/
structure OkO (o : O) : Prop where
  t : Tb.I64 o.t
  r : Tb.I64 o.r
  q : Tb.I64 o.q
  nt : Tb.I64 o.nt
  nr : Tb.I64 o.nr
  pt : Tb.I64 o.pt
  pr : Tb.I64 o.pr
end Go.Proofs.YtbeodechhneeeaaGreatDoor


