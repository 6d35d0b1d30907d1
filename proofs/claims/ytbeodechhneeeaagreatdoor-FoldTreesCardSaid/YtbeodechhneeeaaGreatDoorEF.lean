/- Add of a tree: the row while it is gone through. -/
import Derived.Test.YtbeodechhneeeaaGreatDoorEC
set_option linter.unusedVariables false
set_option linter.unusedSimpArgs false
set_option maxRecDepth 100000
namespace Go.Proofs.YtbeodechhneeeaaGreatDoor
open Go.RowKit Go.Shelf Go.Lib
open Tb (Rw setF dropF getF aboveF Rise TabI TM LiesK TOut)

/-! ### plain -/
theorem play_snoc (T : List Rw) {M : List O} {i : Nat} {o : O} (h : M[i]? = some o) : playF T (M.take (i + 1)) = doF (playF T (M.take i)) o := by
  rw [Tb.take_snoc h, play_append]; rfl
def OkT (T : List Rw) : Prop := ∀ x ∈ T, x.ok
theorem do_len (T : List Rw) (o : O) : (doF T o).length ≤ T.length + 1 := by
  unfold doF
  split
  · omega
  · exact Tb.setF_len _ _
theorem play_len : ∀ (L : List O) (T : List Rw), (playF T L).length ≤ T.length + L.length
  | [], T => by show T.length ≤ _; omega
  | o :: L, T => by
    have h1 := do_len T o
    have h2 := play_len L (doF T o)
    show (playF (doF T o) L).length ≤ _
    rw [List.length_cons]
    omega
/-! ### the tree while Add goes through its row -/
end Go.Proofs.YtbeodechhneeeaaGreatDoor


