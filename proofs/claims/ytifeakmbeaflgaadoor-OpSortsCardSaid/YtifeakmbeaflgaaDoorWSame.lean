/- 'writes' on no writer; the reference's 'Same' on two slices that hold the same bytes. -/
import Derived.Test.YtifeakmbeaflgaaDoorWRText
import Derived.Test.YtifeakmbeaflgaaDoorWRMath
import Derived.Deep.QuietTactic
import Derived.BigQuiet
set_option linter.unusedVariables false
namespace Go.Proofs.YtifeakmbeaflgaaDoor.Wi
open Go.RowKit

theorem below_drewN (w : World) : ∀ n, Below w.heap.size w (w.drewN n) := fun n => ⟨rfl, rfl, rfl, Nat.le_refl _, fun _ _ => rfl⟩

set_option maxRecDepth 100000 in
set_option maxHeartbeats 1000000 in
theorem same_any (w : World) (v1 v2 : Value) (l : List Int) (h1 : Lies w v1 l) (h2 : Lies w v2 l) (hl : l.length ≤ 10000000) :
    Calls Tryd.prog 21 #[v1, v2] w fun e w' => e = .returned (.bool true) ∧ Below w.heap.size w w' := by
  obtain ⟨a1, p1, rfl, hp1, n1, hc1⟩ := h1
  obtain ⟨a2, p2, rfl, hp2, n2, hc2⟩ := h2
  go_enter Tryd.func21, Tryd.ntmps21
  go_wp2
  go_loopw [5] (fun kv wr => ∃ k : Nat, kv = .int .i64 k ∧ k ≤ l.length ∧ ∃ n, wr = w.drewN n) (fun kv _ => l.length - (intOf kv).toNat)
  case atStart => exact ⟨0, rfl, Nat.zero_le _, 0, rfl⟩
  case round =>
    obtain ⟨k, rfl, hk, n, rfl⟩ := hrel
    by_cases hlt : k < l.length
    · obtain ⟨x, hx⟩ : ∃ x, l[k]? = some x := ⟨_, List.getElem?_eq_getElem hlt⟩
      have hx' : (u8s l)[k]? = some (.int .u8 x) := by simp [u8s, hx]
      cases a1 with
      | none => have := (n1 rfl).1; rw [this] at hlt; simp at hlt
      | some b1 =>
        cases a2 with
        | none => have := (n2 rfl).1; rw [this] at hlt; simp at hlt
        | some b2 =>
          have d1 := hc1 b1 rfl k _ hx'
          have d2 := hc2 b2 rfl k _ hx'
          clear hc1 hc2 n1 n2 hx hx'
          go_wp2
          go_quiet (fail)
          go_wp2
          go_roundw
          case rel => exact ⟨k + 1, by go_num, by omega, _, rfl⟩
          case measure => simp [intOf]; omega
    · clear hc1 hc2 n1 n2
      go_wp2
      go_returns
      exact ⟨rfl, below_drewN w n⟩
end Go.Proofs.YtifeakmbeaflgaaDoor.Wi
