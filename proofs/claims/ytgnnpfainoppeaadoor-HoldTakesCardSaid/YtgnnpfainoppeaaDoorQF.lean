/- The reference's Sorted is what a stable sort gives; the orders exactly. Made by genqf7.py. -/
import Derived.Test.YtgnnpfainoppeaaDoorOK
import Derived.Test.YtgnnpfainoppeaaDoorOH
import Derived.Test.YtgnnpfainoppeaaDoorOJ
import Derived.Sort.Grow
import Derived.Shelf.SlSortCmp.KitK
import Derived.Deep.RegionHeld3
set_option linter.unusedVariables false
set_option linter.unusedSimpArgs false
set_option maxRecDepth 100000
namespace Go.Proofs.YtgnnpfainoppeaaDoor
open Go.Shelf Go.RowKit Go.Lib Go.Sort

set_option maxHeartbeats 1000000 in
theorem stamp_exact (a1 a2 b1 b2 : Int) (W : World) : Calls Tryd.prog 39 #[.agg #[.int .i64 a1, .int .i64 a2], .agg #[.int .i64 b1, .int .i64 b2]] W fun e w' => e = .returned (.int .i64 (St.cmpS a1 a2 b1 b2)) ∧ ∃ q os', w' = grow (W.drewN q) os' := by
  have hcon := fun a b W' => Tryd.cmp_Compare_int a b W'
  unfold St.cmpS
  by_cases h : a1 = b1
  · rw [if_pos h]
    have t1 : (a1 != b1) = false := by simp [h]
    clear h
    go_enter Tryd.func39, Tryd.ntmps39
    go_wp2_with (go_at_call 54; refine (hcon _ _ _).mono ?_; rintro e w' ⟨rfl, rfl⟩)
    go_returns
    exact ⟨rfl, 0, _, by rw [alloc_eq_grow, alloc_eq_grow, grow_grow]; rfl⟩
  · rw [if_neg h]
    have t1 : (a1 != b1) = true := by simp [h]
    clear h
    go_enter Tryd.func39, Tryd.ntmps39
    go_wp2_with (go_at_call 54; refine (hcon _ _ _).mono ?_; rintro e w' ⟨rfl, rfl⟩)
    go_returns
    exact ⟨rfl, 0, _, by rw [alloc_eq_grow, alloc_eq_grow, grow_grow]; rfl⟩
end Go.Proofs.YtgnnpfainoppeaaDoor

