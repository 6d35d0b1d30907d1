/- Same of changes, of one list. Made by genhk38.py. -/
import Derived.Test.YthbmbpnpigpgpaaHD
set_option linter.unusedVariables false
set_option linter.unusedSimpArgs false
set_option maxRecDepth 100000
namespace Go.Proofs.Ythbmbpnpigpgpaa
open Go.RowKit

theorem below_drewH (w : World) : ∀ n, Below w.heap.size w (w.drewN n) := fun n => ⟨rfl, rfl, rfl, Nat.le_refl _, fun _ _ => rfl⟩
set_option maxHeartbeats 6400000 in
theorem csame_any (w : World) (v1 v2 : Value) (l : List Ch) (h1 : LiesK encH 7 w v1 l) (h2 : LiesK encH 7 w v2 l) :
    Calls Try.prog 12 #[v1, v2] w fun e w' => e = .returned (.bool true) ∧ Below w.heap.size w w' := by
  have hl1 := h1.len
  have H1 := Lib.hid h1
  have H2 := Lib.hid h2
  obtain ⟨a1, c1, rfl⟩ := h1.shape
  obtain ⟨a2, c2, rfl⟩ := h2.shape
  clear h1 h2
  have t0 : ((l.length : Int) != (l.length : Int)) = false := by simp
  go_enter Try.func12, Try.ntmps12
  go_wp2
  clear t0
  go_loopw [5] (fun kv wr => ∃ i : Nat, kv = .int .i64 i ∧ i ≤ l.length ∧ ∃ n, wr = w.drewN n) (fun kv _ => l.length - (intOf kv).toNat)
  case atStart => exact ⟨0, rfl, Nat.zero_le _, 0, rfl⟩
  case round =>
    obtain ⟨i, rfl, hi, n, rfl⟩ := hrel
    by_cases hlt : i < l.length
    · obtain ⟨g, o, x, rfl, hx, hg, d⟩ := H1.out.at' hlt
      obtain ⟨g', o', y, rfl, hy, hg', e⟩ := H2.out.at' hlt
      obtain rfl : x = y := by rw [hx] at hy; injection hy
      have d0 := d 0 _ rfl
      rw [Nat.add_zero] at d0
      have d1 := d 1 _ rfl
      have d2 := d 2 _ rfl
      have d3 := d 3 _ rfl
      have d4 := d 4 _ rfl
      have d5 := d 5 _ rfl
      have d6 := d 6 _ rfl
      have e0 := e 0 _ rfl
      rw [Nat.add_zero] at e0
      have e1 := e 1 _ rfl
      have e2 := e 2 _ rfl
      have e3 := e 3 _ rfl
      have e4 := e 4 _ rfl
      have e5 := e 5 _ rfl
      have e6 := e 6 _ rfl
      clear hg hg' hx hy d e
      go_wp2
      go_quiet (fail)
      go_wp2
      go_roundw
      case rel => exact ⟨i + 1, by go_num, by omega, _, rfl⟩
      case measure => simp [intOf]; omega
    · go_wp2
      go_returns
      exact ⟨rfl, by first | exact below_drewH _ _ | exact (below_drewH w n).trans ((below_drewH _ _).mono (below_drewH w n).size)⟩
end Go.Proofs.Ythbmbpnpigpgpaa
