/- Where the op of a stamp stands: place, BinarySearchFunc over steps. Made by genpl14.py. -/
import Derived.Test.YtbeodechhneeeaaGreatDoorES
import Derived.Test.YtbeodechhneeeaaGreatDoorDR
import Derived.Test.YtbeodechhneeeaaGreatDoorSAll
import Derived.Handy
import Derived.Lib.Walk
import Derived.Lib.Hide
import Derived.LoopTactic
import Derived.RegionTactic
import Derived.Deep.Cut
import Derived.Deep.QuietTactic
set_option linter.unusedVariables false
set_option linter.unusedSimpArgs false
set_option maxRecDepth 100000
namespace Go.Proofs.YtbeodechhneeeaaGreatDoor
open Go.RowKit
open Tb (LiesK)
theorem pl_vstep (W : World) (o : Obj) : Below W.heap.size W (W.alloc o) := (Below.refl _ _).alloc (Nat.le_refl _) _
theorem pl_lt {w : World} {b : Nat} {o : Obj} (h : w.heap[b]? = some o) : b < w.heap.size := (Array.getElem?_eq_some_iff.1 h).1
/-- A stamp's box. -/
theorem ldSt {W : World} {g : Nat} {t r : Int} (h : W.heap[g]? = some (.cells #[.int .i64 t, .int .i64 r] 31 (0, 0))) : (Instr.loadAt 31 (.pointer (some ⟨g, 0, none⟩))).run Tryz.prog W = .ok (.agg #[.int .i64 t, .int .i64 r]) W := by
  have c0 : W.cell? ⟨g, 0, none⟩ = some (.int .i64 t) := by rw [cell_of_row _ _ _ _ _ _ h]; rfl
  have c1 : W.cell? ⟨g, 1, none⟩ = some (.int .i64 r) := by rw [cell_of_row _ _ _ _ _ _ h]; rfl
  clear h
  go_simp
end Go.Proofs.YtbeodechhneeeaaGreatDoor


