/- awake(), and NameChecks, walked. -/
import Derived.Test.YtgiiddcjepjgcaaDoorRNumW
import Derived.Test.YtgiiddcjepjgcaaDoorCheckB
import Derived.WalkKit
import Derived.Deep.AppendSrc
import Derived.OwnWalk
import Derived.Laws.OwnMore
import Derived.Lib.ConvBytes
import Derived.Deep.RegionLaw
set_option linter.unusedVariables false
namespace Go.Proofs.YtgiiddcjepjgcaaDoor
open Go.RowKit

theorem check_dots : CheckIs ⟨#[46, 46]⟩ 25 := .inl ⟨.inl (.inr (.inr rfl)), rfl⟩
theorem check_a : CheckIs ⟨#[97]⟩ 0 := by
  refine .inr (.inr ⟨?_, ?_, by decide, rfl⟩)
  · rintro (h | h | h) <;> exact absurd (congrArg (fun b : ByteArray => b.data.toList) h) (by decide)
  · rintro ⟨j, _, h2, h3⟩
    have : j = 0 := by
      have h2' : j < 1 := h2
      omega
    subst this
    exact absurd h3 (by decide)

end Go.Proofs.YtgiiddcjepjgcaaDoor
