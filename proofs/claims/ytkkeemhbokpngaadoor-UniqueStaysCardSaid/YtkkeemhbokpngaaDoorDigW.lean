/- The reference's digits, by calls of itself. -/
import Derived.Test.YtkkeemhbokpngaaDoorDecMath
set_option linter.unusedVariables false
namespace Go.Proofs.YtkkeemhbokpngaaDoor
open Go.RowKit

theorem dig_str (k : Nat) (h : k < 10) : (ByteArray.mk #[48, 49, 50, 51, 52, 53, 54, 55, 56, 57]).extract k (k + 1) = ⟨#[UInt8.ofNat (48 + k)]⟩ := by
  have : ∀ k : Fin 10, (ByteArray.mk #[48, 49, 50, 51, 52, 53, 54, 55, 56, 57]).extract k.1 (k.1 + 1) = ⟨#[UInt8.ofNat (48 + k.1)]⟩ := by decide +kernel
  exact this ⟨k, h⟩
theorem decS_small (u : Nat) (h : u < 10) : decS (u : Int) = (ByteArray.mk #[48, 49, 50, 51, 52, 53, 54, 55, 56, 57]).extract u (u + 1) := by
  rw [dig_str u h]
  unfold decS
  rw [Int.toNat_natCast, dd_small h]
theorem decS_big (u : Nat) (h : ¬ u < 10) : decS (u : Int) = decS ((u / 10 : Nat) : Int) ++ (ByteArray.mk #[48, 49, 50, 51, 52, 53, 54, 55, 56, 57]).extract (u % 10) (u % 10 + 1) := by
  rw [dig_str (u % 10) (by omega)]
  refine ba_ext ?_
  unfold decS
  simp only [Int.toNat_natCast]
  rw [dd_big h]
  simp [ByteArray.data_append]

set_option maxRecDepth 100000 in
set_option maxHeartbeats 1600000 in
theorem rdig_nat : ∀ (u : Nat) (hu : u ≤ 9223372036854775807) (w : World), Calls Tryd.prog 22 #[.int .i64 (u : Int)] w fun e w' => e = .returned (.string (decS u)) ∧ Below w.heap.size w w' := by
  intro u
  induction u using Nat.strongRecOn with
  | ind u ih =>
    intro hu w
    by_cases h : u < 10
    · have E := Lib.hid (decS_small u h)
      go_enter Tryd.func22, Tryd.ntmps22
      go_wp2
      go_returns
      exact ⟨by rw [E.out]; rfl, Below.refl _ _⟩
    · have E := Lib.hid (decS_big u h)
      have C := Lib.hid (fun x : Later w => ih (u / 10) (by omega) (by omega) x.w)
      have hq : ((u / 10 : Nat) : Int) = (u : Int) / 10 := by omega
      rw [hq] at C E
      have hsz := decS_size ((u : Int) / 10) (by omega)
      clear ih hq
      go_enter Tryd.func22, Tryd.ntmps22
      go_wp2
      refine wp_region_later (by kernel_rfl) (by kernel_rfl) ?_
      repeat (go_big_quiet_step (first
        | (go_at_call 22; with_reducible exact later_call (C.out _))))
      refine wpQuiet_nil ?_
      intro _ hw'
      obtain ⟨xl, hw''⟩ := hw'
      subst hw''
      go_wp2
      go_returns
      exact ⟨by rw [E.out]; rfl, xl.below⟩
end Go.Proofs.YtkkeemhbokpngaaDoor
