/- Less, Same of stamps; To; Made. -/
import Derived.Test.YthbmbpnpigpgpaaTK
set_option linter.unusedVariables false
set_option maxRecDepth 100000
namespace Go.Proofs.Ythbmbpnpigpgpaa
open Go.RowKit Go.WideMaps Go.Maps

theorem below_drewN (w : World) : ∀ n, Below w.heap.size w (w.drewN n) := fun n => ⟨rfl, rfl, rfl, Nat.le_refl _, fun _ _ => rfl⟩
set_option maxHeartbeats 800000 in
theorem less_any (w : World) (a b c d : Int) : Calls Try.prog 47 #[.agg #[.int .i64 a, .int .i64 b], .agg #[.int .i64 c, .int .i64 d]] w fun e w' => e = .returned (.bool (ltS a b c d)) ∧ Below w.heap.size w w' := by
  have BB := Lib.hid ((vstep w (.cells #[.int .i64 a, .int .i64 b] 61)).trans ((vstep (w.alloc (.cells #[.int .i64 a, .int .i64 b] 61)) (.cells #[.int .i64 c, .int .i64 d] 61)).mono (vstep w _).size))
  unfold ltS
  by_cases h : a = c
  · rw [if_pos h]
    have t1 : (a != c) = false := by simp [h]
    clear h
    go_enter Try.func47, Try.ntmps47
    go_wp2
    go_returns
    exact ⟨rfl, BB.out⟩
  · rw [if_neg h]
    have t1 : (a != c) = true := by simp [h]
    clear h
    go_enter Try.func47, Try.ntmps47
    go_wp2
    go_returns
    exact ⟨rfl, BB.out⟩
set_option maxHeartbeats 800000 in
theorem to_any (w : World) (pt pr : Int) (nm : ByteArray) (d : Bool) : Calls Try.prog 43 #[.agg #[.int .i64 pt, .int .i64 pr, .string nm, .bool d]] w fun e w' => e = .returned (.agg #[.int .i64 pt, .int .i64 pr, .string nm, .bool d]) ∧ Below w.heap.size w w' := by
  go_enter Try.func43, Try.ntmps43
  go_wp2
  go_returns
  exact ⟨rfl, (vstep w _).trans ((vstep _ _).mono (vstep w _).size)⟩
end Go.Proofs.Ythbmbpnpigpgpaa

