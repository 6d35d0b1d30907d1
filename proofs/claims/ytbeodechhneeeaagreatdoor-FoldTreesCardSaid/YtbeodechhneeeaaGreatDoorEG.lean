/- Add of a tree. Made by geneg14.py. -/
import Derived.Test.YtbeodechhneeeaaGreatDoorEF
set_option linter.unusedVariables false
set_option linter.unusedSimpArgs false
set_option maxRecDepth 100000
namespace Go.Proofs.YtbeodechhneeeaaGreatDoor
open Go.RowKit Go.Shelf Go.Lib
open Tb (Rw setF dropF getF aboveF Rise TabI TM LiesK TOut Sprung)

theorem cell9 {W : World} {k : Nat} {t r q nt nr pt pr : Int} {nm : ByteArray} {d : Bool} (h : W.heap[k]? = some (.cells (oCells ⟨t, r, q, nt, nr, pt, pr, nm, d⟩) 33 (0, 0))) :
    W.cell? ⟨k, 0, none⟩ = some (.int .i64 t) ∧ W.cell? ⟨k, 1, none⟩ = some (.int .i64 r) ∧ W.cell? ⟨k, 2, none⟩ = some (.int .i64 q) ∧ W.cell? ⟨k, 3, none⟩ = some (.int .i64 nt) ∧ W.cell? ⟨k, 4, none⟩ = some (.int .i64 nr) ∧ W.cell? ⟨k, 5, none⟩ = some (.int .i64 pt) ∧ W.cell? ⟨k, 6, none⟩ = some (.int .i64 pr) ∧ W.cell? ⟨k, 7, none⟩ = some (.string nm) ∧ W.cell? ⟨k, 8, none⟩ = some (.bool d) := by
  refine ⟨?_, ?_, ?_, ?_, ?_, ?_, ?_, ?_, ?_⟩ <;> (rw [cell_of_row _ _ _ _ _ _ h]; rfl)
end Go.Proofs.YtbeodechhneeeaaGreatDoor


