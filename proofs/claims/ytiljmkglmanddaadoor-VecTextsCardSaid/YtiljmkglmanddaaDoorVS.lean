/- known: a replica and its number out of a text. -/
import Derived.Test.YtiljmkglmanddaaDoorRNumW
set_option linter.unusedVariables false
namespace Go.Proofs.YtiljmkglmanddaaDoor
open Go.RowKit

/-- What stands between two blanks. -/
def knownP (s : ByteArray) : Option (Nat × Nat) := match numOf (cutAt s 58).1.data.toList, numOf (cutAt s 58).2.1.data.toList with | some a, some b => some (a, b) | _, _ => none
def knownV (s : ByteArray) : Value := match knownP s with | some p => .tuple #[.int .i64 (p.1 : Int), .int .i64 (p.2 : Int), .bool true] | none => .tuple #[.int .i64 0, .int .i64 0, .bool false]
theorem cut_size (s : ByteArray) (c : UInt8) : (cutAt s c).1.size ≤ s.size ∧ (cutAt s c).2.1.size ≤ s.size := by
  unfold cutAt
  split
  · refine ⟨?_, ?_⟩ <;> simp only [ByteArray.size_extract] <;> omega
  · exact ⟨Nat.le_refl _, Nat.zero_le _⟩
set_option maxRecDepth 100000 in
set_option maxHeartbeats 1600000 in
theorem known_any (w : World) (s : ByteArray) (hs : s.size ≤ 9223372036854775806) :
    Calls Tryd.prog 33 #[.string s] w fun e w' => e = .returned (knownV s) ∧ Below w.heap.size w w' := by
  have C := Lib.hid (cut_any w s 58 (by omega))
  have hcs := cut_size s 58
  unfold knownV knownP cutV at *
  generalize cutAt s 58 = q at *
  obtain ⟨ah, be, fd⟩ := q
  simp only at hcs
  have N1 := Lib.hid (fun W => number_any W ah (by omega))
  have N2 := Lib.hid (fun W => number_any W be (by omega))
  unfold numV at N1 N2
  simp only
  clear hcs
  cases hn1 : numOf ah.data.toList with
  | none =>
    rw [hn1] at N1
    clear hn1
    go_enter Tryd.func33, Tryd.ntmps33
    go_wp2_with fail
    refine C.out.mono ?_
    rintro e w1 ⟨rfl, hb1⟩
    have B1 := Lib.hid hb1
    clear hb1
    go_wp2_with fail
    refine (N1.out _).mono ?_
    rintro e w2 ⟨rfl, hb2⟩
    have B2 := Lib.hid (B1.out.trans (hb2.mono B1.out.size))
    clear hb2
    go_wp2
    go_returns
    exact ⟨rfl, B2.out⟩
  | some a =>
    rw [hn1] at N1
    clear hn1
    cases hn2 : numOf be.data.toList with
    | none =>
      rw [hn2] at N2
      clear hn2
      go_enter Tryd.func33, Tryd.ntmps33
      go_wp2_with fail
      refine C.out.mono ?_
      rintro e w1 ⟨rfl, hb1⟩
      have B1 := Lib.hid hb1
      clear hb1
      go_wp2_with fail
      refine (N1.out _).mono ?_
      rintro e w2 ⟨rfl, hb2⟩
      have B2 := Lib.hid (B1.out.trans (hb2.mono B1.out.size))
      clear hb2
      go_wp2_with fail
      refine (N2.out _).mono ?_
      rintro e w3 ⟨rfl, hb3⟩
      have B3 := Lib.hid (B2.out.trans (hb3.mono B2.out.size))
      clear hb3
      go_wp2
      go_returns
      exact ⟨rfl, B3.out⟩
    | some b =>
      rw [hn2] at N2
      clear hn2
      go_enter Tryd.func33, Tryd.ntmps33
      go_wp2_with fail
      refine C.out.mono ?_
      rintro e w1 ⟨rfl, hb1⟩
      have B1 := Lib.hid hb1
      clear hb1
      go_wp2_with fail
      refine (N1.out _).mono ?_
      rintro e w2 ⟨rfl, hb2⟩
      have B2 := Lib.hid (B1.out.trans (hb2.mono B1.out.size))
      clear hb2
      go_wp2_with fail
      refine (N2.out _).mono ?_
      rintro e w3 ⟨rfl, hb3⟩
      have B3 := Lib.hid (B2.out.trans (hb3.mono B2.out.size))
      clear hb3
      go_wp2
      go_returns
      exact ⟨rfl, B3.out⟩
end Go.Proofs.YtiljmkglmanddaaDoor
