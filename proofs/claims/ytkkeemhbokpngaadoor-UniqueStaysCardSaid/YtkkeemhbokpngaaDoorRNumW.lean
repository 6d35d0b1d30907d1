/- The reference's number of digits: the same as the program's. -/
import Derived.Test.YtkkeemhbokpngaaDoorDigW
set_option linter.unusedVariables false
namespace Go.Proofs.YtkkeemhbokpngaaDoor
open Go.RowKit

theorem tl_eq {a b : ByteArray} (h : a = b) : (a.toList == b.toList) = true := by rw [h]; simp
theorem tl_ne {a b : ByteArray} (h : a ≠ b) : (a.toList == b.toList) = false := by
  rw [beq_eq_false_iff_ne, ByteArray.toList_eq, ByteArray.toList_eq]
  exact fun e => h (ba_ext e)
set_option maxRecDepth 100000 in
set_option maxHeartbeats 400000 in
theorem rdig_any (w : World) (n : Int) (h1 : n ≤ 9223372036854775807) : Calls Tryd.prog 22 #[.int .i64 n] w fun e w' => e = .returned (.string (decS n)) ∧ Below w.heap.size w w' := by
  by_cases h : n < 0
  · have E := Lib.hid (show decS n = ⟨#[48]⟩ by unfold decS; rw [Int.toNat_of_nonpos (by omega), dd_small (by omega)]; rfl)
    go_enter Tryd.func22, Tryd.ntmps22
    go_wp2
    go_returns
    exact ⟨by rw [E.out]; rfl, Below.refl _ _⟩
  · obtain ⟨u, rfl⟩ : ∃ u : Nat, n = u := ⟨n.toNat, by omega⟩
    exact rdig_nat u (by omega) w

end Go.Proofs.YtkkeemhbokpngaaDoor
