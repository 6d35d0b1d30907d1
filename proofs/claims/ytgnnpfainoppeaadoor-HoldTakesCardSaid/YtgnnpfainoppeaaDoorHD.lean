/- No hold: Take of a nil hold, one range asked for. -/
import Derived.Test.YtgnnpfainoppeaaDoorHC
set_option linter.unusedVariables false
set_option linter.unusedSimpArgs false
set_option maxRecDepth 100000
namespace Go.Proofs.YtgnnpfainoppeaaDoor
open Go.RowKit
open Ve

set_option maxHeartbeats 3200000 in
theorem take_nil (w : World) (g : Nat) (r f t : Int) (hg : g < w.heap.size) (c0 : w.cell? ⟨g, 0, none⟩ = some (.int .i64 r)) (c1 : w.cell? ⟨g, 1, none⟩ = some (.int .i64 f)) (c2 : w.cell? ⟨g, 2, none⟩ = some (.int .i64 t)) :
    Calls Tryd.prog 20 #[.pointer none, .slice (some ⟨g, 0, none⟩) 1 1, .int .i64 9] w fun e w' => e = .returned (.slice none 0 0) ∧ Below w.heap.size w w' := by
  have P := Lib.hid (fun W => part_nil W r f t)
  go_enter Tryd.func20, Tryd.ntmps20
  go_wp2
  refine wp_loop_rounds 2 ?_
  rw [rounds_succ]
  go_wp2_with fail
  refine (P.out _).mono ?_
  rintro e w1 ⟨rfl, h1⟩
  have H1 := Lib.hid h1
  clear h1
  go_wp2
  rw [rounds_succ]
  go_wp2
  go_returns
  exact ⟨rfl, ((Below.refl w.heap.size w).alloc (Nat.le_refl _) _).trans (H1.out.mono (by simp))⟩
end Go.Proofs.YtgnnpfainoppeaaDoor
