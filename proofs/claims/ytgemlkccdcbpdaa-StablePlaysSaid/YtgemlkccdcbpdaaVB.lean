/- Right, Sum, Covers, Get. -/
import Derived.Test.YtgemlkccdcbpdaaVA
set_option linter.unusedVariables false
namespace Go.Proofs.Ytgemlkccdcbpdaa
open Go.RowKit

def sumW (l : List Int) : Int := l.foldl (fun a x => wrap64 (a + x)) 0
theorem take_snoc' {α : Type} (l : List α) (i : Nat) (p : α) (h : l[i]? = some p) : l.take (i + 1) = l.take i ++ [p] := by
  obtain ⟨hl, he⟩ := List.getElem?_eq_some_iff.1 h
  rw [List.take_succ_eq_append_getElem hl, he]
theorem sumW_snoc (l : List Int) (x : Int) : sumW (l ++ [x]) = wrap64 (sumW l + x) := by unfold sumW; rw [List.foldl_append]; rfl

end Go.Proofs.Ytgemlkccdcbpdaa
