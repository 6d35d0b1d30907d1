/- NameSuffixes, walked. -/
import Derived.Test.YtglalmpjopckfaaDoorSuff
set_option linter.unusedVariables false
namespace Go.Proofs.YtglalmpjopckfaaDoor
open Go.RowKit

set_option maxRecDepth 100000 in
set_option maxHeartbeats 1600000 in
theorem suffixes_all (w : World) (s : ByteArray) (k : Int) (hs : s.size ≤ 9223372036854775807) (hk : k ≤ 9223372036854775807) (ht : Tab w) :
    Calls Tryd.prog 4 #[.string s, .int .i64 k] w fun e w' => e = .returned (.bool true) ∧ Below w.heap.size w w' := by
  by_cases h : 600 < s.size
  · go_enter Tryd.func4, Tryd.ntmps4
    go_wp2_with fail
    refine (awake_any _).mono ?_
    rintro e w1 ⟨rfl, hb1⟩
    have B1 := Lib.hid hb1
    clear hb1
    go_wp2
    go_returns
    exact ⟨rfl, B1.out⟩
  · obtain ⟨b, x, hb⟩ := base_is s
    obtain ⟨t, hT⟩ := suff_is s k
    have P := Lib.hid (fun W => base_any W s b x (by omega) hb)
    have Q := Lib.hid (fun W => rbase_any W s b x (by omega) hb)
    have S := Lib.hid (fun W (hb : Below w.heap.size w W) => suffixed_any W s t k (by omega) hk (tab_later ht hb) hT)
    have R := Lib.hid (fun W => rsuffixed_any W s t k (by omega) hk hT)
    have t1 := tl_eq (a := t) rfl
    have t2 := tl_eq (a := b) rfl
    have t3 := beqb_ x x rfl
    clear hb hT ht hk
    go_enter Tryd.func4, Tryd.ntmps4
    go_wp2_with fail
    refine (P.out _).mono ?_
    rintro e w1 ⟨rfl, hb1⟩
    have B1 := Lib.hid hb1
    clear hb1
    go_wp2_with fail
    refine (Q.out _).mono ?_
    rintro e w2 ⟨rfl, hb2⟩
    have B2 := Lib.hid (B1.out.trans (hb2.mono B1.out.size))
    clear hb2
    go_wp2_with fail
    refine (S.out _ B2.out).mono ?_
    rintro e w3 ⟨rfl, hb3⟩
    have B3 := Lib.hid (B2.out.trans (hb3.mono B2.out.size))
    clear hb3
    go_wp2_with fail
    refine (R.out _).mono ?_
    rintro e w4 ⟨rfl, hb4⟩
    have B4 := Lib.hid (B3.out.trans (hb4.mono B3.out.size))
    clear hb4
    go_wp2_with fail
    refine (awake_any _).mono ?_
    rintro e w5 ⟨rfl, hb5⟩
    have B5 := Lib.hid (B4.out.trans (hb5.mono B4.out.size))
    clear hb5
    go_wp2
    go_returns
    exact ⟨rfl, B5.out⟩
end Go.Proofs.YtglalmpjopckfaaDoor
