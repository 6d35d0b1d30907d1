/- An act of no kind; facts for the acts' cases. -/
import Derived.Test.YtdocfoienbadhaaOI
set_option linter.unusedVariables false
namespace Go.Proofs.Ytdocfoienbadhaa
open Go.RowKit

theorem leftN_all (goes : Nat → Fl → Bool) (fl : List Fl) (h : ∀ i f, i < fl.length → goes i f = false) : ∀ i, i ≤ fl.length → leftN goes fl i = fl.take i
  | 0, _ => rfl
  | i + 1, hi => by
    unfold leftN
    rw [leftN_all goes fl h i (by omega), List.getElem?_eq_getElem (show i < fl.length by omega)]
    simp only [h i _ (show i < fl.length by omega)]
    exact (take_snoc' fl i _ (List.getElem?_eq_getElem (show i < fl.length by omega))).symm
theorem takeL_out {fl : List Fl} {k : Int} (hk : ¬ (0 ≤ k ∧ k < (fl.length : Int))) : takeL fl k = fl := by
  unfold takeL
  rw [leftN_all (goesK k) fl (fun i f hi => by unfold goesK; simp; omega) _ (Nat.le_refl _), List.take_length]
set_option maxRecDepth 100000 in
set_option maxHeartbeats 1600000 in
theorem does_other {w0 : World} (w : World) (p q : Nat) (fv rv : Value) (fl rl : List Fl) (lost : Int) (h : DS w0 w p q fv rv fl rl lost) (kd k m b d : Int) (ab : Option Addr) (n c : Nat) (hu : Bool)
    (n0 : kd ≠ 0) (n1 : kd ≠ 1) (n2 : kd ≠ 2) (n3 : kd ≠ 3) (n4 : kd ≠ 4) (n5 : kd ≠ 5) (n6 : kd ≠ 6) (n7 : kd ≠ 7) :
    Calls Try.prog 7 #[.pointer (some ⟨p, 0, none⟩), .pointer (some ⟨q, 0, none⟩), .agg #[.int .i64 kd, .int .i64 k, .int .i64 m, .int .i64 b, .int .i64 d, .slice ab n c, .bool hu]] w fun e w' => e = .returned (.bool true) ∧ DS w0 w' p q fv rv fl rl lost := by
  obtain ⟨W1, e1, B1, R1, s1⟩ := boxed w #[.int .i64 kd, .int .i64 k, .int .i64 m, .int .i64 b, .int .i64 d, .slice ab n c, .bool hu] 34
  have E1 := Lib.hid e1
  have D1 := Lib.hid (h.step B1)
  obtain ⟨z, hz⟩ : ∃ z, w.heap.size = z := ⟨_, rfl⟩
  rw [hz] at R1
  have k0 := cell_of_row _ z 0 _ _ _ R1
  simp at k0
  clear h e1 B1 R1 s1
  go_enter Try.func7, Try.ntmps7
  go_upto_region 1 with (fail)
  rw [E1.out]
  go_wp2
  go_returns
  exact ⟨rfl, D1.out⟩
end Go.Proofs.Ytdocfoienbadhaa
