/- NameApart, walked. -/
import Derived.Test.YtiolkopmoailmaaDoorApartM
set_option linter.unusedVariables false
namespace Go.Proofs.YtiolkopmoailmaaDoor
open Go.RowKit

set_option maxRecDepth 100000 in
set_option maxHeartbeats 3200000 in
theorem apart_no (w : World) (s : ByteArray) (k n : Int) (c : Int) (hs : s.size ≤ 9223372036854775807) (hc : CheckIs s c) (h : c ≠ 0 ∨ k < 2 ∨ n < 2) :
    Calls Tryd.prog 7 #[.string s, .int .i64 k, .int .i64 n] w fun e w' => e = .returned (.bool true) ∧ Below w.heap.size w w' := by
  have C := Lib.hid (fun W => rcheck_any W s hs c hc)
  by_cases h0 : c = 0
  · subst h0
    clear hc
    by_cases h1 : k < 2
    · go_enter Tryd.func7, Tryd.ntmps7
      go_wp2_with fail
      refine (C.out _).mono ?_
      rintro e w1 ⟨rfl, rfl⟩
      go_wp2_with fail
      refine (awake_any _).mono ?_
      rintro e w2 ⟨rfl, hb2⟩
      have B2 := Lib.hid hb2
      clear hb2
      go_wp2
      go_returns
      exact ⟨rfl, B2.out⟩
    · have h2 : n < 2 := by omega
      clear h
      go_enter Tryd.func7, Tryd.ntmps7
      go_wp2_with fail
      refine (C.out _).mono ?_
      rintro e w1 ⟨rfl, rfl⟩
      go_wp2_with fail
      refine (awake_any _).mono ?_
      rintro e w2 ⟨rfl, hb2⟩
      have B2 := Lib.hid hb2
      clear hb2
      go_wp2
      go_returns
      exact ⟨rfl, B2.out⟩
  · have t1 := bneb_ c 0 h0
    have t2 := neb_ c 0 h0
    clear h h0 hc
    go_enter Tryd.func7, Tryd.ntmps7
    go_wp2_with fail
    refine (C.out _).mono ?_
    rintro e w1 ⟨rfl, rfl⟩
    go_wp2_with fail
    refine (awake_any _).mono ?_
    rintro e w2 ⟨rfl, hb2⟩
    have B2 := Lib.hid hb2
    clear hb2
    go_wp2
    go_returns
    exact ⟨rfl, B2.out⟩

/-- What the two texts, and the two numbers, are to each other. -/
theorem apart_eq {s t t' : ByteArray} {k n : Int} (hk : k ≤ 9223372036854775807) (hn : n ≤ 9223372036854775807) (hk2 : 2 ≤ k) (hn2 : 2 ≤ n) (h : SuffIs s k t) (h' : SuffIs s n t') :
    k = n ∨ (t ≠ t' ∧ k ≠ n) := by
  by_cases e : k = n
  · exact .inl e
  · refine .inr ⟨?_, e⟩
    rintro rfl
    exact e (suff_inj hk hn hk2 hn2 h h')

set_option maxRecDepth 100000 in
set_option maxHeartbeats 6400000 in
theorem apart_yes (w : World) (s : ByteArray) (k n : Int) (hc : CheckIs s 0) (hk : k ≤ 9223372036854775807) (hn : n ≤ 9223372036854775807) (hk2 : 2 ≤ k) (hn2 : 2 ≤ n) (ht : Tab w) :
    Calls Tryd.prog 7 #[.string s, .int .i64 k, .int .i64 n] w fun e w' => e = .returned (.bool true) ∧ Below w.heap.size w w' := by
  obtain ⟨g1, g2, g3⟩ := check_good hc
  clear g1 g2
  obtain ⟨t, hT⟩ := suff_is s k
  have C := Lib.hid (fun W => rcheck_any W s (by omega) 0 hc)
  have S := Lib.hid (fun W (hb : Below w.heap.size w W) => suffixed_any W s t k (by omega) hk (tab_later ht hb) hT)
  have htz : t.size ≤ 255 := (check_good (suff_check hk hc hT)).2.2
  have D := Lib.hid (fun W => rcheck_any W t (by omega) 0 (suff_check hk hc hT))
  have BI := Lib.hid (fun (h2 : s.size ≤ 200) (h3 : k ≤ 1000000000) W => base_any W t s k (by omega) (suff_base hc h2 hk2 h3 hT))
  have t5 := tl_eq (a := s) rfl
  have t6 := beqb_ k k rfl
  obtain ⟨t', x, y, hT', hxy, hx, hy⟩ : ∃ (t' : ByteArray) (x y : Bool), SuffIs s n t' ∧ x = y ∧ (t.toList == t'.toList) = x ∧ (k == n) = y := by
    by_cases e : k = n
    · subst e
      exact ⟨t, true, true, hT, rfl, tl_eq rfl, beqb_ _ _ rfl⟩
    · obtain ⟨t', hT'⟩ := suff_is s n
      refine ⟨t', false, false, hT', rfl, tl_ne ?_, bneb_ _ _ e⟩
      rintro rfl
      exact e (suff_inj hk hn hk2 hn2 hT hT')
  subst hxy
  have S' := Lib.hid (fun W (hb : Below w.heap.size w W) => suffixed_any W s t' n (by omega) hn (tab_later ht hb) hT')
  have t7 : (x != x) = false := by cases x <;> rfl
  have t8 : (x == x) = true := by cases x <;> rfl
  clear hT hT' hc ht
  by_cases h2 : s.size ≤ 200
  · by_cases h3 : k ≤ 1000000000
    · have BI2 := Lib.hid (BI.out h2 h3)
      clear BI
      go_enter Tryd.func7, Tryd.ntmps7
      go_wp2_with fail
      refine (C.out _).mono ?_
      rintro e w1 ⟨rfl, rfl⟩
      go_wp2_with fail
      refine (S.out _ (Below.refl _ _)).mono ?_
      rintro e w2 ⟨rfl, hb2⟩
      have B2 := Lib.hid hb2
      clear hb2
      go_wp2_with fail
      refine (D.out _).mono ?_
      rintro e w3 ⟨rfl, rfl⟩
      go_wp2_with fail
      refine (S'.out _ B2.out).mono ?_
      rintro e w4 ⟨rfl, hb4⟩
      have B4 := Lib.hid (B2.out.trans (hb4.mono B2.out.size))
      clear hb4
      go_wp2_with fail
      refine (BI2.out _).mono ?_
      rintro e w5 ⟨rfl, hb5⟩
      have B5 := Lib.hid (B4.out.trans (hb5.mono B4.out.size))
      clear hb5
      go_wp2_with fail
      refine (awake_any _).mono ?_
      rintro e w6 ⟨rfl, hb6⟩
      have B6 := Lib.hid (B5.out.trans (hb6.mono B5.out.size))
      clear hb6
      go_wp2
      go_returns
      exact ⟨rfl, B6.out⟩
    · clear BI
      go_enter Tryd.func7, Tryd.ntmps7
      go_wp2_with fail
      refine (C.out _).mono ?_
      rintro e w1 ⟨rfl, rfl⟩
      go_wp2_with fail
      refine (S.out _ (Below.refl _ _)).mono ?_
      rintro e w2 ⟨rfl, hb2⟩
      have B2 := Lib.hid hb2
      clear hb2
      go_wp2_with fail
      refine (D.out _).mono ?_
      rintro e w3 ⟨rfl, rfl⟩
      go_wp2_with fail
      refine (S'.out _ B2.out).mono ?_
      rintro e w4 ⟨rfl, hb4⟩
      have B4 := Lib.hid (B2.out.trans (hb4.mono B2.out.size))
      clear hb4
      go_wp2_with fail
      refine (awake_any _).mono ?_
      rintro e w6 ⟨rfl, hb6⟩
      have B6 := Lib.hid (B4.out.trans (hb6.mono B4.out.size))
      clear hb6
      go_wp2
      go_returns
      exact ⟨rfl, B6.out⟩
  · clear BI
    go_enter Tryd.func7, Tryd.ntmps7
    go_wp2_with fail
    refine (C.out _).mono ?_
    rintro e w1 ⟨rfl, rfl⟩
    go_wp2_with fail
    refine (S.out _ (Below.refl _ _)).mono ?_
    rintro e w2 ⟨rfl, hb2⟩
    have B2 := Lib.hid hb2
    clear hb2
    go_wp2_with fail
    refine (D.out _).mono ?_
    rintro e w3 ⟨rfl, rfl⟩
    go_wp2_with fail
    refine (S'.out _ B2.out).mono ?_
    rintro e w4 ⟨rfl, hb4⟩
    have B4 := Lib.hid (B2.out.trans (hb4.mono B2.out.size))
    clear hb4
    go_wp2_with fail
    refine (awake_any _).mono ?_
    rintro e w6 ⟨rfl, hb6⟩
    have B6 := Lib.hid (B4.out.trans (hb6.mono B4.out.size))
    clear hb6
    go_wp2
    go_returns
    exact ⟨rfl, B6.out⟩

theorem apart_all (w : World) (s : ByteArray) (k n : Int) (hs : s.size ≤ 9223372036854775807) (hk : k ≤ 9223372036854775807) (hn : n ≤ 9223372036854775807) (ht : Tab w) :
    Calls Tryd.prog 7 #[.string s, .int .i64 k, .int .i64 n] w fun e w' => e = .returned (.bool true) ∧ Below w.heap.size w w' := by
  obtain ⟨c, hc⟩ := check_is s
  by_cases h : c ≠ 0 ∨ k < 2 ∨ n < 2
  · exact apart_no w s k n c hs hc h
  · obtain rfl : c = 0 := by omega
    exact apart_yes w s k n hc hk hn (by omega) (by omega) ht
end Go.Proofs.YtiolkopmoailmaaDoor
