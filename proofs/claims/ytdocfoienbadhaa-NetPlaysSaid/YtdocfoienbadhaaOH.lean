/- Two flights alike. -/
import Derived.Test.YtdocfoienbadhaaOG
import Derived.Deep.CutBlock
set_option linter.unusedVariables false
namespace Go.Proofs.Ytdocfoienbadhaa
open Go.RowKit

set_option maxRecDepth 100000 in
set_option maxHeartbeats 1000000 in
theorem same_any (w : World) (v1 v2 : Value) (l : List Nat) (h1 : Lies w v1 l) (h2 : Lies w v2 l) :
    Calls Try.prog 27 #[v1, v2] w fun e w' => e = .returned (.bool true) ∧ Below w.heap.size w w' := by
  have hlm : l.length ≤ maxLen := by obtain ⟨_, _, _, g1, g2, _⟩ := h1; omega
  unfold maxLen at hlm
  obtain ⟨a1, p1, rfl, _, _, n1, hc1⟩ := h1
  obtain ⟨a2, p2, rfl, _, _, n2, hc2⟩ := h2
  go_enter Try.func27, Try.ntmps27
  go_wp2
  go_loopw [5] (fun kv wr => ∃ k : Nat, kv = .int .i64 k ∧ k ≤ l.length ∧ ∃ n, wr = w.drewN n) (fun kv _ => l.length - (intOf kv).toNat)
  case atStart => exact ⟨0, rfl, Nat.zero_le _, 0, rfl⟩
  case round =>
    obtain ⟨k, rfl, hk, n, rfl⟩ := hrel
    by_cases hlt : k < l.length
    · obtain ⟨x, hx⟩ : ∃ x, l[k]? = some x := ⟨_, List.getElem?_eq_getElem hlt⟩
      cases a1 with
      | none => have := (n1 rfl).1; rw [this] at hlt; simp at hlt
      | some b1 =>
        cases a2 with
        | none => have := (n2 rfl).1; rw [this] at hlt; simp at hlt
        | some b2 =>
          obtain ⟨k1, o1, rfl, _, hc1⟩ := hc1 b1 rfl (ne_of_lt hlt)
          obtain ⟨k2, o2, rfl, _, hc2⟩ := hc2 b2 rfl (ne_of_lt hlt)
          have d1 := hc1 k x hx
          have d2 := hc2 k x hx
          clear hc1 hc2 n1 n2 hx
          go_wp2
          go_quiet (fail)
          go_wp2
          go_roundw
          case rel => exact ⟨k + 1, by go_num, by omega, _, rfl⟩
          case measure => simp [intOf]; omega
    · clear hc1 hc2 n1 n2
      go_wp2
      go_returns
      exact ⟨rfl, below_drewN w n⟩

set_option maxRecDepth 100000 in
set_option maxHeartbeats 1600000 in
theorem are_any (w : World) (d : Int) (v1 v2 : Value) (hu : Bool) (l : List Nat) (h1 : Lies w v1 l) (h2 : Lies w v2 l) :
    Calls Try.prog 11 #[.agg #[.int .i64 d, v1, .bool hu], .agg #[.int .i64 d, v2, .bool hu]] w fun e w' => e = .returned (.bool true) ∧ Below w.heap.size w w' := by
  have H1 := Lib.hid h1
  have H2 := Lib.hid h2
  obtain ⟨a1, p1, rfl, _⟩ := h1
  obtain ⟨a2, p2, rfl, _⟩ := h2
  obtain ⟨W1, e1, B1, R1, s1⟩ := boxed w #[.int .i64 d, .slice a1 l.length p1, .bool hu] 39
  have E1 := Lib.hid e1
  obtain ⟨W2, e2, B2, R2, s2⟩ := boxed W1 #[.int .i64 d, .slice a2 l.length p2, .bool hu] 32
  have E2 := Lib.hid e2
  obtain ⟨z, hz⟩ : ∃ z, w.heap.size = z := ⟨_, rfl⟩
  have L1 := (B2.block _ (lt_of_block R1)).trans R1
  have s12 : W1.heap.size = z + 1 := by omega
  rw [hz] at L1
  rw [s12] at R2
  have BW := Lib.hid (B1.trans (B2.mono B1.size))
  have SM := Lib.hid (same_any W2 _ _ l (H1.out.later BW.out) (H2.out.later BW.out))
  have k0 := cell_of_row _ z 0 _ _ _ L1
  have k1 := cell_of_row _ z 1 _ _ _ L1
  have k2 := cell_of_row _ z 2 _ _ _ L1
  have d0 := cell_of_row _ (z + 1) 0 _ _ _ R2
  have d1 := cell_of_row _ (z + 1) 1 _ _ _ R2
  have d2 := cell_of_row _ (z + 1) 2 _ _ _ R2
  simp at k0 k1 k2 d0 d1 d2
  have HZ := Lib.hid hz
  clear e1 e2 B1 B2 R1 R2 s1 s2 s12 L1
  go_enter Try.func11, Try.ntmps11
  go_upto_region 1 with (fail)
  rw [E1.out, E2.out]
  go_wp2_with fail
  refine SM.out.mono ?_
  rintro e w3 ⟨rfl, b3⟩
  have BB := Lib.hid (BW.out.trans (b3.mono BW.out.size))
  clear b3 k0 k1 k2 d0 d1 d2
  go_wp2
  go_returns
  have q := BB.out
  have hz' := HZ.out
  first
  | exact ⟨rfl, q⟩
  | exact q
  | (rw [hz'] at q; exact ⟨rfl, q⟩)
end Go.Proofs.Ytdocfoienbadhaa
