/- awake(), and NameChecks, walked. -/
import Derived.Test.YtiolkopmoailmaaDoorQuoteA
import Derived.Test.YtiolkopmoailmaaDoorCleanA
import Derived.Test.YtiolkopmoailmaaDoorCheckB
set_option linter.unusedVariables false
namespace Go.Proofs.YtiolkopmoailmaaDoor
open Go.RowKit

theorem check_dots : CheckIs ⟨#[46, 46]⟩ 25 := .inl ⟨.inl (.inr (.inr rfl)), rfl⟩
theorem check_a : CheckIs ⟨#[97]⟩ 0 := by
  refine .inr (.inr ⟨?_, ?_, by decide, rfl⟩)
  · rintro (h | h | h) <;> exact absurd (congrArg (fun b : ByteArray => b.data.toList) h) (by decide)
  · rintro ⟨j, _, h2, h3⟩
    have : j = 0 := by
      have h2' : j < 1 := h2
      omega
    subst this
    exact absurd h3 (by decide)

set_option maxRecDepth 100000 in
set_option maxHeartbeats 1600000 in
theorem awake_any (w : World) : Calls Tryd.prog 8 #[] w fun e w' => e = .returned (.bool true) ∧ Below w.heap.size w w' := by
  have C1 := Lib.hid (fun W => check_any W ⟨#[46, 46]⟩ (by decide) 25 check_dots)
  have C2 := Lib.hid (fun W => check_any W ⟨#[97]⟩ (by decide) 0 check_a)
  go_enter Tryd.func8, Tryd.ntmps8
  go_wp2_with fail
  refine (base_awake _).mono ?_
  rintro e w1 ⟨rfl, hb1⟩
  have B1 := Lib.hid hb1
  clear hb1
  go_wp2_with fail
  refine (unquote_awake _).mono ?_
  rintro e w2 ⟨rfl, hb2⟩
  have B2 := Lib.hid (B1.out.trans (hb2.mono B1.out.size))
  clear hb2
  go_wp2_with fail
  refine (suffixed_awake _).mono ?_
  rintro e w3 ⟨rfl, hb3⟩
  have B3 := Lib.hid (B2.out.trans (hb3.mono B2.out.size))
  clear hb3
  go_wp2_with fail
  refine (quote_awake _).mono ?_
  rintro e w4 ⟨rfl, hb4⟩
  have B4 := Lib.hid (B3.out.trans (hb4.mono B3.out.size))
  clear hb4
  go_wp2_with fail
  refine (C1.out _).mono ?_
  rintro e w5 ⟨rfl, hb5⟩
  have B5 := Lib.hid (B4.out.trans (hb5.mono B4.out.size))
  clear hb5
  go_wp2_with fail
  refine (C2.out _).mono ?_
  rintro e w6 ⟨rfl, hb6⟩
  have B6 := Lib.hid (B5.out.trans (hb6.mono B5.out.size))
  clear hb6
  go_wp2_with fail
  refine (clean_awake _).mono ?_
  rintro e w7 ⟨rfl, hb7⟩
  have B7 := Lib.hid (B6.out.trans (hb7.mono B6.out.size))
  clear hb7
  go_wp2
  go_returns
  exact ⟨rfl, B7.out⟩

theorem beq_self_b (x : Bool) : (x == x) = true := by cases x <;> rfl

set_option maxRecDepth 100000 in
set_option maxHeartbeats 1600000 in
theorem checks_all (w : World) (s : ByteArray) (n : Int) (hs : s.size ≤ 9223372036854775807) (hn : n ≤ 9223372036854775807) (ht : Tab w) :
    Calls Tryd.prog 3 #[.string s, .int .i64 n] w fun e w' => e = .returned (.bool true) ∧ Below w.heap.size w w' := by
  by_cases h : 600 < s.size
  · go_enter Tryd.func3, Tryd.ntmps3
    go_wp2_with fail
    refine (awake_any _).mono ?_
    rintro e w1 ⟨rfl, hb1⟩
    have B1 := Lib.hid hb1
    clear hb1
    go_wp2
    go_returns
    exact ⟨rfl, B1.out⟩
  · obtain ⟨c, hc⟩ := check_is s
    obtain ⟨x, ok, hv⟩ : ∃ (x : Int) (ok : Bool), numV s.data.toList = .tuple #[.int .i64 x, .bool ok] := by
      unfold numV
      cases numOf s.data.toList <;> exact ⟨_, _, rfl⟩
    have N := Lib.hid (fun W => number_any W s hs)
    have R := Lib.hid (fun W => rnumber_any W s hs)
    rw [hv] at N R
    have C := Lib.hid (fun W => check_any W s (by omega) c hc)
    have D := Lib.hid (fun W => rcheck_any W s (by omega) c hc)
    have G := Lib.hid (fun W (hb : Below w.heap.size w W) => digits_any W n hn (tab_later ht hb))
    have H := Lib.hid (fun W => rdig_any W n hn)
    have t1 := beqb_ c c rfl
    have t2 := beqb_ x x rfl
    have t3 := beq_self_b ok
    have t4 := tl_eq (a := decS n) rfl
    generalize decS n = dn at *
    clear hc hv ht hn
    go_enter Tryd.func3, Tryd.ntmps3
    go_wp2_with fail
    refine (N.out _).mono ?_
    rintro e w1 ⟨rfl, hb1⟩
    have B1 := Lib.hid hb1
    clear hb1
    go_wp2_with fail
    refine (R.out _).mono ?_
    rintro e w2 ⟨rfl, hb2⟩
    have B2 := Lib.hid (B1.out.trans (hb2.mono B1.out.size))
    clear hb2
    go_wp2_with fail
    refine (C.out _).mono ?_
    rintro e w3 ⟨rfl, hb3⟩
    have B3 := Lib.hid (B2.out.trans (hb3.mono B2.out.size))
    clear hb3
    go_wp2_with fail
    refine (D.out _).mono ?_
    rintro e w4 ⟨rfl, rfl⟩
    go_wp2_with fail
    refine (G.out _ B3.out).mono ?_
    rintro e w5 ⟨rfl, hb5⟩
    have B5 := Lib.hid (B3.out.trans (hb5.mono B3.out.size))
    clear hb5
    go_wp2_with fail
    refine (H.out _).mono ?_
    rintro e w6 ⟨rfl, hb6⟩
    have B6 := Lib.hid (B5.out.trans (hb6.mono B5.out.size))
    clear hb6
    go_wp2_with fail
    refine (awake_any _).mono ?_
    rintro e w7 ⟨rfl, hb7⟩
    have B7 := Lib.hid (B6.out.trans (hb7.mono B6.out.size))
    clear hb7
    go_wp2
    go_returns
    exact ⟨rfl, B7.out⟩
end Go.Proofs.YtiolkopmoailmaaDoor
