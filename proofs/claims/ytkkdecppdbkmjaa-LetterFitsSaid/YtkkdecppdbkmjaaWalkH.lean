/- LetterFits returns true at every text and number: Fit and Tail are the reference's. -/
import Derived.Test.YtkkdecppdbkmjaaWalkG
set_option linter.unusedVariables false
namespace Go.Proofs.Ytkkdecppdbkmjaa
open Go.RowKit

set_option maxRecDepth 100000 in
set_option maxHeartbeats 400000 in
theorem fits_far (s : ByteArray) (m : Int) (w : World) (hs : 400 < s.size) (hm : s.size ≤ 9223372036854775807) :
    Calls Try.prog 4 #[.string s, .int .i64 m] w fun e w' => e = .returned (.bool true) ∧ Below w.heap.size w w' := by
  go_enter Try.func4, Try.ntmps4
  go_wp2_with fail
  refine (awake_any _).mono ?_
  rintro e w' ⟨rfl, hb⟩
  go_wp2_with fail
  go_ret
  exact ⟨rfl, hb⟩

set_option maxRecDepth 100000 in
set_option maxHeartbeats 400000 in
theorem fits_near (s : ByteArray) (m : Int) (w : World) (hs : s.size ≤ 400) :
    Calls Try.prog 4 #[.string s, .int .i64 m] w fun e w' => e = .returned (.bool true) ∧ Below w.heap.size w w' := by
  obtain ⟨N, hN⟩ := isN_exists s
  obtain ⟨j, hj⟩ := isFit_exists (s := s) (N := N) m
  obtain ⟨t, ht⟩ := isTail_exists (s := s) (N := N) m
  have C1 := Lib.hid (fun w => fit_any s N j m w (by omega) hN hj)
  have C2 := Lib.hid (fun w => rfit_any s N j m w (by omega) hN hj)
  have C3 := Lib.hid (fun w => ltail_any s N t m w (by omega) hN ht)
  have C4 := Lib.hid (fun w => rtail_any s N t m w (by omega) hN ht)
  clear hN hj ht
  generalize s.extract 0 (bd s j) = x at *
  generalize s.extract (bd s t) s.size = y at *
  go_enter Try.func4, Try.ntmps4
  go_wp2_with fail
  refine (C1.out _).mono ?_
  rintro e w1 ⟨rfl, h1⟩
  go_wp2_with fail
  refine (C2.out _).mono ?_
  rintro e w2 ⟨rfl, h2⟩
  go_wp2_with fail
  refine (C3.out _).mono ?_
  rintro e w3 ⟨rfl, h3⟩
  go_wp2_with fail
  refine (C4.out _).mono ?_
  rintro e w4 ⟨rfl, h4⟩
  go_wp2_with fail
  refine (awake_any _).mono ?_
  rintro e w5 ⟨rfl, h5⟩
  go_wp2_with fail
  go_ret
  exact ⟨rfl, chain (chain (chain (chain h1 h2) h3) h4) h5⟩
end Go.Proofs.Ytkkdecppdbkmjaa
