/- StampNobody, walked: no clock has a time. -/
import Derived.Test.YtglalmpjopckfabDoorAwake
set_option linter.unusedVariables false
namespace Go.Proofs.YtglalmpjopckfabDoor
open Go.RowKit

set_option maxRecDepth 100000 in
set_option maxHeartbeats 1600000 in
theorem nobody_any (w : World) (n : Int) : Calls Tryd.prog 7 #[.int .i64 n] w fun e w' => e = .returned (.bool true) ∧ Below w.heap.size w w' := by
  have h0 : CkB (w.alloc (.cells #[.bool false, .int .i64 0, .int .i64 0] 51)) w.heap.size false 0 0 := heap_alloc_new w _
  have X0 := (Below.refl w.heap.size w).alloc (Nat.le_refl _) (.cells #[.bool false, .int .i64 0, .int .i64 0] 51)
  have H0 := Lib.hid (And.intro h0 X0)
  clear h0 X0
  go_enter Tryd.func7, Tryd.ntmps7
  go_wp2_with fail
  refine (tick_nil _).mono ?_
  rintro e w1 ⟨rfl, hb1⟩
  have hz1 := hb1.size
  simp only [World.size_alloc] at hz1
  have h1 := H0.out.1.old hb1
  have B1 := H0.out.2.trans (hb1.mono (by simp))
  have X2 := (Below.refl w1.heap.size w1).alloc (Nat.le_refl _) (.cells #[.int .i64 0, .int .i64 0] 23)
  have s2 := heap_alloc_new w1 (.cells #[.int .i64 0, .int .i64 0] 23)
  have H2 := Lib.hid (And.intro (h1.old X2) (And.intro (B1.trans (X2.mono (by omega))) s2))
  clear hb1 h1 B1 X2 s2
  go_wp2_with fail
  refine (tick_zero _ w.heap.size 0 0 H2.out.1).mono ?_
  rintro e w3 ⟨rfl, hb3⟩
  have hz3 := hb3.size
  simp only [World.size_alloc] at hz3
  have h3 := H2.out.1.old hb3
  have B3 := H2.out.2.1.trans (hb3.mono (by simp; omega))
  have s3 := (hb3.block w1.heap.size (by simp)).trans H2.out.2.2
  have X4 := (Below.refl w3.heap.size w3).alloc (Nat.le_refl _) (.cells #[.int .i64 0, .int .i64 0] 23)
  have hlt3 : w1.heap.size < w3.heap.size := by omega
  obtain ⟨p0, p1, pf0, pf1⟩ := two_cells s3
  have H4 := Lib.hid (And.intro (h3.old X4) (B3.trans (X4.mono (by omega))))
  clear hb3 h3 B3 s3 X4
  go_wp2_with fail
  refine (see_nil _ n).mono ?_
  rintro e w5 ⟨rfl, rfl⟩
  go_wp2_with fail
  refine (see_zero _ w.heap.size 0 0 n H4.out.1).mono ?_
  rintro e w5 ⟨rfl, rfl⟩
  go_wp2_with fail
  refine (now_nil _).mono ?_
  rintro e w5 ⟨rfl, rfl⟩
  go_wp2_with fail
  refine (now_any _ w.heap.size false 0 0 H4.out.1).mono ?_
  rintro e w5 ⟨rfl, rfl⟩
  go_wp2_with fail
  refine (awake_any _).mono ?_
  rintro e w6 ⟨rfl, hb6⟩
  go_wp2
  go_returns
  exact ⟨rfl, H4.out.2.trans (hb6.mono (by simp; omega))⟩
end Go.Proofs.YtglalmpjopckfabDoor
