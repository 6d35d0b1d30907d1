/- A file's name. -/
import Derived.Test.YtoddofcmdbifpaaRA
set_option linter.unusedVariables false
set_option linter.unusedSimpArgs false
set_option maxRecDepth 100000
namespace Go.Proofs.Ytoddofcmdbifpaa
open Go.RowKit

def fileN (n : Int) : ByteArray := if n % 3 = 0 then ⟨#[97]⟩ else if n % 3 = 1 then ⟨#[98]⟩ else ⟨#[99]⟩
set_option maxHeartbeats 1600000 in
theorem file_any (w : World) (n : Int) (hn : 0 ≤ n ∧ n ≤ 255) : Calls Try.prog 26 #[.int .u8 n] w fun e w' => e = .returned (.string (fileN n)) ∧ w = w' := by
  unfold fileN
  rcases (show n % 3 = 0 ∨ n % 3 = 1 ∨ n % 3 = 2 by omega) with h | h | h
  · rw [h]
    simp only [if_true]
    go_enter Try.func26, Try.ntmps26
    go_wp2
    go_returns
    exact ⟨rfl, rfl⟩
  · rw [h]
    simp only [show ¬ ((1 : Int) = 0) by decide, if_true, if_false]
    go_enter Try.func26, Try.ntmps26
    go_wp2
    go_returns
    exact ⟨rfl, rfl⟩
  · rw [h]
    simp only [show ¬ ((2 : Int) = 0) by decide, show ¬ ((2 : Int) = 1) by decide, if_false]
    go_enter Try.func26, Try.ntmps26
    go_wp2
    go_returns
    exact ⟨rfl, rfl⟩
end Go.Proofs.Ytoddofcmdbifpaa
