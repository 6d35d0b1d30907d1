/- The chapter's example holds: 'awake' returns true. -/
import Derived.Test.YthpolhlhpdhomaaDoorParseW
set_option linter.unusedVariables false
namespace Go.Proofs.YthpolhlhpdhomaaDoor
open Go.RowKit

theorem pw83 : parseV ⟨#[56, 46, 51]⟩ = .tuple #[.agg #[.int .i64 8, .int .i64 3], .int .i64 0] := by kernel_rfl
theorem dec8 : decS 8 = ⟨#[56]⟩ := by unfold decS; rw [Lib.decDigits_one (by decide)]; rfl
theorem dec3 : decS 3 = ⟨#[51]⟩ := by unfold decS; rw [Lib.decDigits_one (by decide)]; rfl
theorem tx83 : textS 8 3 = ⟨#[56, 46, 51]⟩ := by unfold textS; rw [dec8, dec3]; rfl

set_option maxRecDepth 100000 in
set_option maxHeartbeats 1600000 in
theorem awake_any (w : World) : Calls Tryd.prog 8 #[] w fun e w' => e = .returned (.bool true) ∧ Below w.heap.size w w' := by
  have P := Lib.hid (fun W => parse_any W ⟨#[56, 46, 51]⟩ (by decide))
  rw [pw83] at P
  have T := Lib.hid (fun W => text_of W 8 3 (by omega) (by omega) (fun x => digits_small x.w 8 (by omega) (by omega)) (fun x => digits_small x.w 3 (by omega) (by omega)))
  rw [tx83] at T
  have h0 : CkB (w.alloc (.cells #[.bool true, .int .i64 3, .int .i64 0] 51)) w.heap.size true 3 0 := heap_alloc_new w _
  have H0 := Lib.hid h0
  have X0 := Lib.hid ((Below.refl w.heap.size w).alloc (Nat.le_refl _) (.cells #[.bool true, .int .i64 3, .int .i64 0] 51))
  clear h0
  go_enter Tryd.func8, Tryd.ntmps8
  go_wp2_with fail
  refine (new_yes w 3 rfl).mono ?_
  rintro e w1 ⟨rfl, rfl⟩
  go_wp2_with fail
  refine (see_yes _ w.heap.size 3 0 7 H0.out rfl (by omega)).mono ?_
  rintro e w2 ⟨rfl, hw2⟩
  have h2 : CkB w2 w.heap.size true 3 7 := by rw [← hw2]; exact row_setC H0.out
  have B2 : Below w.heap.size w w2 := by rw [← hw2]; exact X0.out.setCell (Nat.le_refl _) _
  have hz2 : w.heap.size + 1 = w2.heap.size := by rw [← hw2]; simp [World.setCell]
  have H2 := Lib.hid (And.intro h2 B2)
  have hz2' : w.heap.size + 1 ≤ w2.heap.size := by omega
  clear hw2 h2 B2 hz2
  go_wp2_with fail
  refine (tick_yes w2 w.heap.size 3 7 H2.out.1 (by omega) (by omega)).mono ?_
  rintro e w3 ⟨rfl, h3, k3⟩
  have hz3 := k3.size
  have H3 := Lib.hid (And.intro h3 (H2.out.2.trans (k3.below (Nat.le_refl _) (by omega))))
  clear h3 k3
  go_wp2_with fail
  refine (P.out _).mono ?_
  rintro e w4 ⟨rfl, hb4⟩
  have hz4 := hb4.size
  simp only [World.size_alloc] at hz4
  have X3 := (Below.refl w3.heap.size w3).alloc (Nat.le_refl _) (.cells #[.int .i64 8, .int .i64 3] 23)
  have s4 := (hb4.block w3.heap.size (by simp)).trans (heap_alloc_new w3 (.cells #[.int .i64 8, .int .i64 3] 23))
  have h4 := (H3.out.1.old X3).old hb4
  have B4 := H3.out.2.trans ((X3.trans (hb4.mono (by simp))).mono (by omega))
  have X5 := (Below.refl w4.heap.size w4).alloc (Nat.le_refl _) (.cells #[.int .i64 8, .int .i64 3] 23)
  have H5 := Lib.hid (And.intro (h4.old X5) (B4.trans (X5.mono (by omega))))
  have hlt4 : w3.heap.size < w4.heap.size := by omega
  obtain ⟨p0, p1, pf0, pf1⟩ := two_cells s4
  clear hb4 X3 s4 h4 B4 X5
  go_wp2_with fail
  refine (T.out _).mono ?_
  rintro e w6 ⟨rfl, hb6⟩
  have hz6 := hb6.size
  simp only [World.size_alloc] at hz6
  have H6 := Lib.hid (And.intro (H5.out.1.old hb6) (H5.out.2.trans (hb6.mono (by simp; omega))))
  clear hb6
  go_wp2_with fail
  refine (now_any w6 w.heap.size true 3 8 H6.out.1).mono ?_
  rintro e w7 ⟨rfl, rfl⟩
  go_wp2_with fail
  refine (trash_any w6).mono ?_
  rintro e w7 ⟨rfl, hb7⟩
  have B7 := Lib.hid (H6.out.2.trans (hb7.mono (by omega)))
  have hz7 := hb7.size
  clear hb7
  go_wp2_with fail
  refine (lost_any w7).mono ?_
  rintro e w8 ⟨rfl, hb8⟩
  have B8 := Lib.hid (B7.out.trans (hb8.mono (by omega)))
  clear hb8
  go_wp2
  go_returns
  exact ⟨rfl, B8.out⟩
end Go.Proofs.YthpolhlhpdhomaaDoor
