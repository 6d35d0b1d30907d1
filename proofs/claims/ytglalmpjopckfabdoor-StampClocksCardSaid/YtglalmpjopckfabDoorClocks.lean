/- StampClocks, walked: what a clock answers, whatever it sees, and ticks. -/
import Derived.Test.YtglalmpjopckfabDoorAwake
set_option linter.unusedVariables false
namespace Go.Proofs.YtglalmpjopckfabDoor
open Go.RowKit

set_option maxRecDepth 100000 in
set_option maxHeartbeats 800000 in
theorem clocks_no (w : World) (rep : Int) (v1 v2 : Value) (h : rR rep = false) : Calls Tryd.prog 6 #[.int .i64 rep, v1, v2] w fun e w' => e = .returned (.bool true) ∧ Below w.heap.size w w' := by
  have hr : rep < 0 ∨ (0 ≤ rep ∧ 63 < rep) := by unfold rR at h; simp at h; omega
  have N := Lib.hid (new_no w rep h)
  clear h
  rcases hr with hr | ⟨hr, hr2⟩
  all_goals
    go_enter Tryd.func6, Tryd.ntmps6
    go_wp2_with fail
    refine N.out.mono ?_
    rintro e w1 ⟨rfl, rfl⟩
    go_wp2_with fail
    refine (awake_any w).mono ?_
    rintro e w6 ⟨rfl, hb6⟩
    go_wp2
    go_returns
    exact ⟨rfl, hb6⟩

/-- Numbers, or truths, behind an address. -/
def At (w : World) (ao : Option Addr) (vs : List Value) : Prop := ∀ j u, vs[j]? = some u → ∃ b, ao = some b ∧ w.cell? (b.add j) = some u

set_option maxRecDepth 100000 in
set_option maxHeartbeats 4000000 in
theorem clocks_yes (w : World) (rep : Int) (a1 a2 : Option Addr) (c1 c2 : Nat) (l : List Int) (ts : List Bool) (h : rR rep = true) (hl : l.length ≤ 9223372036854775807) (ht : ts.length ≤ 9223372036854775807)
    (h1 : At w a1 (l.map (Value.int .i64))) (h2 : At w a2 (ts.map Value.bool)) :
    Calls Tryd.prog 6 #[.int .i64 rep, .slice a1 l.length c1, .slice a2 ts.length c2] w fun e w' => e = .returned (.bool true) ∧ Below w.heap.size w w' := by
  have hr : 0 ≤ rep ∧ rep ≤ 63 := by unfold rR at h; simp at h; omega
  obtain ⟨hr0, hr1⟩ := hr
  have N := Lib.hid (new_yes w rep h)
  have H1 := Lib.hid h1
  have H2 := Lib.hid h2
  have h0 : CkB (w.alloc (.cells #[.bool true, .int .i64 rep, .int .i64 0] 51)) w.heap.size true rep 0 := heap_alloc_new w _
  have X0 := (Below.refl w.heap.size w).alloc (Nat.le_refl _) (.cells #[.bool true, .int .i64 rep, .int .i64 0] 51)
  have H0 := Lib.hid (And.intro h0 X0)
  clear h h1 h2 h0 X0
  go_enter Tryd.func6, Tryd.ntmps6
  go_wp2_with fail
  refine N.out.mono ?_
  rintro e w1 ⟨rfl, rfl⟩
  go_wp2
  go_loopw [9, 10] (fun nv iv wr => ∃ (i : Nat) (t : Int), iv = .int .i64 i ∧ i ≤ l.length ∧ i ≤ 60 ∧ nv = .int .i64 t ∧ 0 ≤ t ∧ t ≤ 281474976710656 ∧ Hid (CkB wr w.heap.size true rep t ∧ Below w.heap.size w wr)) (fun _ iv _ => 60 - (intOf iv).toNat)
  case atStart => exact ⟨0, 0, rfl, by omega, by omega, rfl, by omega, by omega, H0.out.1, H0.out.2⟩
  case round =>
    obtain ⟨i, t, rfl, hil, hi60, rfl, ht0, ht1, hI⟩ := hrel
    have hz := hI.out.2.size
    by_cases hlt : i < l.length
    · by_cases hlt6 : i < 60
      · obtain ⟨x, hx⟩ : ∃ x, l[i]? = some x := ⟨_, List.getElem?_eq_getElem hlt⟩
        obtain ⟨b1, rfl, hc1⟩ := H1.out i (.int .i64 x) (by simp [hx])
        have hcl1 := World.block_lt_of_cell? w _ hc1
        have d1 := (hI.out.2.cell hcl1).trans hc1
        clear hx
        by_cases htick : ts[i]? = some true
        · have hltt : i < ts.length := (List.getElem?_eq_some_iff.1 htick).1
          obtain ⟨b2, rfl, hc2⟩ := H2.out i (.bool true) (by simp [htick])
          have hcl2 := World.block_lt_of_cell? w _ hc2
          have d2 := (hI.out.2.cell hcl2).trans hc2
          clear htick
          by_cases hfull : t = 281474976710656
          · subst hfull
            have C := Lib.hid (tick_full wr w.heap.size rep 281474976710656 hI.out.1 (by omega))
            go_wp2_with fail
            refine C.out.mono ?_
            rintro e w2 ⟨rfl, hb2⟩
            have X3 := (Below.refl w2.heap.size w2).alloc (Nat.le_refl _) (.cells #[.int .i64 0, .int .i64 0] 23)
            have H2 := Lib.hid (And.intro ((hI.out.1.old hb2).old X3) ((hI.out.2.trans (hb2.mono hz)).trans (X3.mono (Nat.le_trans hz hb2.size))))
            clear hb2 X3
            go_wp2
            go_roundw
            case rel => exact ⟨i + 1, 281474976710656, by go_num, by omega, by omega, rfl, by omega, by omega, H2.out⟩
            case measure => simp [intOf]; omega
          · have tf := bneb_ t 281474976710656 hfull
            have C := Lib.hid (tick_yes wr w.heap.size rep t hI.out.1 (by omega) ht0)
            have tr := eqb_ rep rep rfl
            have tt := eqb_ (t + 1) (t + 1) rfl
            go_wp2_with fail
            refine C.out.mono ?_
            rintro e w2 ⟨rfl, h2, k2⟩
            have X3 := (Below.refl w2.heap.size w2).alloc (Nat.le_refl _) (.cells #[.int .i64 (t + 1), .int .i64 rep] 23)
            have H2 := Lib.hid (And.intro (h2.old X3) ((hI.out.2.trans (k2.below (Nat.le_refl _) hz)).trans (X3.mono (Nat.le_trans hz k2.size))))
            clear h2 k2 X3
            go_wp2
            go_roundw
            case rel => exact ⟨i + 1, t + 1, by go_num, by omega, by omega, rfl, by omega, by omega, H2.out⟩
            case measure => simp [intOf]; omega
        · by_cases hltt : i < ts.length
          · have hf : ts[i]? = some false := by
              rw [List.getElem?_eq_getElem hltt] at htick ⊢
              cases hb : ts[i]
              · rfl
              · rw [hb] at htick; exact absurd rfl htick
            obtain ⟨b2, rfl, hc2⟩ := H2.out i (.bool false) (by simp [hf])
            have hcl2 := World.block_lt_of_cell? w _ hc2
            have d2 := (hI.out.2.cell hcl2).trans hc2
            clear htick hf
            by_cases hah : t < x ∧ x ≤ 281474976710656
            · obtain ⟨ha1, ha2⟩ := hah
              have C := Lib.hid (see_yes wr w.heap.size rep t x hI.out.1 (by unfold rT; simp; omega) ha1)
              go_wp2_with fail
              refine C.out.mono ?_
              rintro e w2 ⟨rfl, hw2⟩
              have h2 : CkB w2 w.heap.size true rep x := by rw [← hw2]; exact row_setC hI.out.1
              have b2 : Below w.heap.size w w2 := by rw [← hw2]; exact hI.out.2.setCell (Nat.le_refl _) _
              have H2 := Lib.hid (And.intro h2 b2)
              have d12 := (b2.cell hcl1).trans hc1
              clear hw2 h2 b2
              go_wp2_with fail
              refine (now_any w2 w.heap.size true rep x H2.out.1).mono ?_
              rintro e w3 ⟨rfl, rfl⟩
              have tx := eqb_ x x rfl
              go_wp2
              go_roundw
              case rel => exact ⟨i + 1, x, by go_num, by omega, by omega, rfl, by omega, by omega, H2.out⟩
              case measure => simp [intOf]; omega
            · have hn : rT x = false ∨ x ≤ t := by
                by_cases h : x ≤ t
                · exact .inr h
                · left; unfold rT; simp; omega
              have hah2 : x ≤ t ∨ (t < x ∧ 281474976710656 < x) := by omega
              have C := Lib.hid (see_no wr w.heap.size rep t x hI.out.1 hn)
              have D := Lib.hid (now_any wr w.heap.size true rep t hI.out.1)
              have tx := eqb_ t t rfl
              clear hah hn
              rcases hah2 with h3 | ⟨h3, h4⟩
              all_goals
                go_wp2_with fail
                refine C.out.mono ?_
                rintro e w2 ⟨rfl, rfl⟩
                go_wp2_with fail
                refine D.out.mono ?_
                rintro e w3 ⟨rfl, rfl⟩
                go_wp2
                go_roundw
                case rel => exact ⟨i + 1, t, by go_num, by omega, by omega, rfl, by omega, by omega, hI.out⟩
                case measure => simp [intOf]; omega
          · clear htick
            by_cases hah : t < x ∧ x ≤ 281474976710656
            · obtain ⟨ha1, ha2⟩ := hah
              have C := Lib.hid (see_yes wr w.heap.size rep t x hI.out.1 (by unfold rT; simp; omega) ha1)
              go_wp2_with fail
              refine C.out.mono ?_
              rintro e w2 ⟨rfl, hw2⟩
              have h2 : CkB w2 w.heap.size true rep x := by rw [← hw2]; exact row_setC hI.out.1
              have b2 : Below w.heap.size w w2 := by rw [← hw2]; exact hI.out.2.setCell (Nat.le_refl _) _
              have H2 := Lib.hid (And.intro h2 b2)
              have d12 := (b2.cell hcl1).trans hc1
              clear hw2 h2 b2
              go_wp2_with fail
              refine (now_any w2 w.heap.size true rep x H2.out.1).mono ?_
              rintro e w3 ⟨rfl, rfl⟩
              have tx := eqb_ x x rfl
              go_wp2
              go_roundw
              case rel => exact ⟨i + 1, x, by go_num, by omega, by omega, rfl, by omega, by omega, H2.out⟩
              case measure => simp [intOf]; omega
            · have hn : rT x = false ∨ x ≤ t := by
                by_cases h : x ≤ t
                · exact .inr h
                · left; unfold rT; simp; omega
              have hah2 : x ≤ t ∨ (t < x ∧ 281474976710656 < x) := by omega
              have C := Lib.hid (see_no wr w.heap.size rep t x hI.out.1 hn)
              have D := Lib.hid (now_any wr w.heap.size true rep t hI.out.1)
              have tx := eqb_ t t rfl
              clear hah hn
              rcases hah2 with h3 | ⟨h3, h4⟩
              all_goals
                go_wp2_with fail
                refine C.out.mono ?_
                rintro e w2 ⟨rfl, rfl⟩
                go_wp2_with fail
                refine D.out.mono ?_
                rintro e w3 ⟨rfl, rfl⟩
                go_wp2
                go_roundw
                case rel => exact ⟨i + 1, t, by go_num, by omega, by omega, rfl, by omega, by omega, hI.out⟩
                case measure => simp [intOf]; omega
      · obtain rfl : i = 60 := by omega
        go_wp2_with fail
        refine (awake_any wr).mono ?_
        rintro e w6 ⟨rfl, hb6⟩
        go_wp2
        go_returns
        exact ⟨rfl, hI.out.2.trans (hb6.mono hz)⟩
    · obtain rfl : i = l.length := by omega
      go_wp2_with fail
      refine (awake_any wr).mono ?_
      rintro e w6 ⟨rfl, hb6⟩
      go_wp2
      go_returns
      exact ⟨rfl, hI.out.2.trans (hb6.mono hz)⟩
end Go.Proofs.YtglalmpjopckfabDoor
