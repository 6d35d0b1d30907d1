/- The chapter's example holds: 'awake' returns true. -/
import Derived.Test.YtkkdecppdbkmjaaWalkF
import Derived.Test.YtkkdecppdbkmjaaLater
import Derived.Deep.RegionWith
import Derived.Deep.RegionHeld3
set_option linter.unusedVariables false
namespace Go.Proofs.Ytkkdecppdbkmjaa
open Go.RowKit

def ea : ByteArray := ⟨#[226, 130, 172, 97]⟩
theorem ea_n : IsN ea 2 := by
  refine ⟨by decide +kernel, ?_⟩
  intro k hk
  match k, hk with
  | 0, _ => decide +kernel
  | 1, _ => decide +kernel
theorem ea_fit3 : IsFit ea 2 3 1 := by refine ⟨by omega, .inr (by decide +kernel), .inr (by decide +kernel)⟩
theorem ea_fit2 : IsFit ea 2 2 0 := by refine ⟨by omega, .inl rfl, .inr (by decide +kernel)⟩
theorem ea_right : IsRight ea 2 true := by
  refine ⟨fun _ => ?_, fun _ => rfl⟩
  intro k hk
  match k, hk with
  | 0, _ => decide +kernel
  | 1, _ => decide +kernel
def eb : ByteArray := ⟨#[130, 172, 97]⟩
theorem eb_n : IsN eb 3 := by
  refine ⟨by decide +kernel, ?_⟩
  intro k hk
  match k, hk with
  | 0, _ => decide +kernel
  | 1, _ => decide +kernel
  | 2, _ => decide +kernel
theorem eb_right : IsRight eb 3 false := by
  refine ⟨fun h => (by cases h), fun h => ?_⟩
  exact absurd (show rn eb (bd eb 0) = 65533 ∧ wid eb (bd eb 0) = 1 by decide +kernel) (h 0 (by omega))

theorem aw13a (w : World) : Calls Try.prog 13 #[.string ⟨#[226, 130, 172, 97]⟩, .int .i64 3] w fun e w' => e = .returned (.string ⟨#[226, 130, 172]⟩) ∧ Below w.heap.size w w' := by
  have h := fit_any ea 2 1 3 w (by decide +kernel) ea_n ea_fit3
  rw [show ea.extract 0 (bd ea 1) = ⟨#[226, 130, 172]⟩ by decide +kernel] at h
  exact h
theorem aw13b (w : World) : Calls Try.prog 13 #[.string ⟨#[226, 130, 172, 97]⟩, .int .i64 2] w fun e w' => e = .returned (.string ⟨#[]⟩) ∧ Below w.heap.size w w' := by
  have h := fit_any ea 2 0 2 w (by decide +kernel) ea_n ea_fit2
  rw [show ea.extract 0 (bd ea 0) = ⟨#[]⟩ by decide +kernel] at h
  exact h
theorem aw9 (w : World) : Calls Try.prog 9 #[.string ⟨#[226, 130, 172, 97]⟩] w fun e w' => e = .returned (.int .i64 2) ∧ Below w.heap.size w w' := count_any ea 2 w (by decide +kernel) ea_n
theorem aw11a (w : World) : Calls Try.prog 11 #[.string ⟨#[226, 130, 172, 97]⟩] w fun e w' => e = .returned (.bool true) ∧ Below w.heap.size w w' := right_any ea 2 true w (by decide +kernel) ea_n ea_right
theorem aw11b (w : World) : Calls Try.prog 11 #[.string ⟨#[130, 172, 97]⟩] w fun e w' => e = .returned (.bool false) ∧ Below w.heap.size w w' := right_any eb 3 false w (by decide +kernel) eb_n eb_right
theorem aw12 (w : World) : Calls Try.prog 12 #[.string ⟨#[226, 130, 172, 97]⟩, .int .i64 0] w fun e w' => e = .returned (.agg #[.int .i64 0, .int .i64 3, .int .i64 8364]) ∧ Below w.heap.size w w' := by
  have h := next_in ea 0 w (by decide +kernel) (by decide +kernel)
  rw [show pcv ea 0 = .agg #[.int .i64 0, .int .i64 3, .int .i64 8364] by unfold pcv; rw [show wid ea 0 = 3 by decide +kernel, show rn ea 0 = 8364 by decide +kernel]; rfl] at h
  exact h

theorem field29c (a b c : Value) (W : World) : (Instr.field 29 (.agg #[a, b, c]) 2).run Try.prog W = .ok c W := by kernel_rfl
attribute [local go_sem ↓] field29c

theorem chain {w a b : World} (h : Below w.heap.size w a) (k : Below a.heap.size a b) : Below w.heap.size w b := h.trans (k.mono h.size)

theorem aw11c (x : ByteArray) (hx : x = eb) (w : World) : Calls Try.prog 11 #[.string x] w fun e w' => e = .returned (.bool false) ∧ Below w.heap.size w w' := by
  subst hx; exact aw11b w

set_option maxRecDepth 100000 in
set_option maxHeartbeats 800000 in
theorem awake_any (w : World) : Calls Try.prog 6 #[] w fun e w' => e = .returned (.bool true) ∧ Below w.heap.size w w' := by
  have q1 : ([226, 130, 172] == ({ data := #[226, 130, 172, 97] : ByteArray }.extract 0 3).toList) = true := by decide +kernel
  go_enter Try.func6, Try.ntmps6
  go_wp2
  refine wp_region_later (by kernel_rfl) (by kernel_rfl) ?_
  repeat (go_big_quiet_step (first
    | (go_at_call_of 13 (Value.int IntKind.i64 3); with_reducible exact later_call (aw13a _))
    | (go_at_call_of 13 (Value.int IntKind.i64 2); with_reducible exact later_call (aw13b _))
    | (go_at_call 9; with_reducible exact later_call (aw9 _))
    | (go_at_call 11; with_reducible exact later_call (aw11a _))
    | (go_at_call 11; with_reducible refine later_call (aw11c _ ?_ _); decide +kernel)
    | (go_at_call 12; with_reducible exact later_call (aw12 _))))
  refine wpQuiet_nil ?_
  intro _ hw'
  obtain ⟨xl, hw''⟩ := hw'
  subst hw''
  go_wp2
  go_ret
  exact ⟨rfl, xl.below⟩
end Go.Proofs.Ytkkdecppdbkmjaa
