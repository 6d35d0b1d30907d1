/- stamp.Right, Reserved, Root, Trash, Lost, Parse; and the chapter's example: 'awake' returns true. -/
import Derived.Test.YthpolhlhpdhomaaDoorCut
set_option linter.unusedVariables false
namespace Go.Proofs.YthpolhlhpdhomaaDoor
open Go.RowKit

def stV (a b : Int) : Value := .agg #[.int .i64 a, .int .i64 b]

set_option maxRecDepth 100000 in
set_option maxHeartbeats 400000 in
theorem root_any (w : World) : Calls Tryd.prog 19 #[] w fun e w' => e = .returned (.agg #[.int .i64 0, .int .i64 0]) ∧ Below w.heap.size w w' := by
  go_enter Tryd.func19, Tryd.ntmps19
  go_wp2
  refine bodyPost_ret (v := .agg #[.int .i64 0, .int .i64 0]) (by simp [results, Tryd.results19, go_sem]) rfl ⟨rfl, ?_⟩
  exact (Below.refl _ _).alloc (Nat.le_refl _) _
set_option maxRecDepth 100000 in
set_option maxHeartbeats 400000 in
theorem trash_any (w : World) : Calls Tryd.prog 20 #[] w fun e w' => e = .returned (.agg #[.int .i64 0, .int .i64 1]) ∧ Below w.heap.size w w' := by
  go_enter Tryd.func20, Tryd.ntmps20
  go_wp2
  refine bodyPost_ret (v := .agg #[.int .i64 0, .int .i64 1]) (by simp [results, Tryd.results20, go_sem]) rfl ⟨rfl, ?_⟩
  exact (Below.refl _ _).alloc (Nat.le_refl _) _
set_option maxRecDepth 100000 in
set_option maxHeartbeats 400000 in
theorem lost_any (w : World) : Calls Tryd.prog 21 #[] w fun e w' => e = .returned (.agg #[.int .i64 0, .int .i64 2]) ∧ Below w.heap.size w w' := by
  go_enter Tryd.func21, Tryd.ntmps21
  go_wp2
  refine bodyPost_ret (v := .agg #[.int .i64 0, .int .i64 2]) (by simp [results, Tryd.results21, go_sem]) rfl ⟨rfl, ?_⟩
  exact (Below.refl _ _).alloc (Nat.le_refl _) _

def rightB (a b : Int) : Bool := rT a && rR b
def resB (a b : Int) : Bool := decide (a = 0 ∧ 0 ≤ b ∧ b ≤ 2)

set_option maxRecDepth 100000 in
set_option maxHeartbeats 400000 in
theorem right_any (w : World) (a b : Int) : Calls Tryd.prog 13 #[.agg #[.int .i64 a, .int .i64 b]] w fun e w' => e = .returned (.bool (rightB a b)) ∧ Below w.heap.size w w' := by
  have C := Lib.hid (fun W => rtime_any W a)
  have D := Lib.hid (fun W => rrep_any W b)
  unfold rightB
  generalize rT a = x at *
  generalize rR b = y at *
  cases x
  · go_enter Tryd.func13, Tryd.ntmps13
    go_wp2_with fail
    refine (C.out _).mono ?_
    rintro e w1 ⟨rfl, rfl⟩
    go_wp2
    go_returns
    exact ⟨rfl, (Below.refl _ _).alloc (Nat.le_refl _) _⟩
  · go_enter Tryd.func13, Tryd.ntmps13
    go_wp2_with fail
    refine (C.out _).mono ?_
    rintro e w1 ⟨rfl, rfl⟩
    go_wp2_with fail
    refine (D.out _).mono ?_
    rintro e w1 ⟨rfl, rfl⟩
    go_wp2
    go_returns
    exact ⟨rfl, (Below.refl _ _).alloc (Nat.le_refl _) _⟩

set_option maxRecDepth 100000 in
set_option maxHeartbeats 800000 in
theorem reserved_any (w : World) (a b : Int) : Calls Tryd.prog 11 #[.agg #[.int .i64 a, .int .i64 b]] w fun e w' => e = .returned (.bool (resB a b)) ∧ Below w.heap.size w w' := by
  have hX := (Below.refl w.heap.size w).alloc (Nat.le_refl _) (.cells #[.int .i64 a, .int .i64 b] 23)
  have hbox := heap_alloc_new w (.cells #[.int .i64 a, .int .i64 b] 23)
  have k0 := later_cell hbox (j := 0) rfl
  have k1 := later_cell hbox (j := 1) rfl
  have HX := Lib.hid hX
  clear hX hbox
  have hcase : (a = 0 ∧ b = 0) ∨ (a = 0 ∧ b = 1) ∨ (a = 0 ∧ b = 2) ∨ (a = 0 ∧ b ≠ 0 ∧ b ≠ 1 ∧ b ≠ 2) ∨ a ≠ 0 := by omega
  rcases hcase with ⟨rfl, rfl⟩ | ⟨rfl, rfl⟩ | ⟨rfl, rfl⟩ | ⟨rfl, h0, h1, h2⟩ | h0
  · have E := Lib.hid (show resB 0 0 = true from rfl)
    go_enter Tryd.func11, Tryd.ntmps11
    go_wp2
    refine wp_region_later (by kernel_rfl) (by kernel_rfl) ?_
    repeat (go_big_quiet_step (first
      | (go_at_call 19; with_reducible exact later_call (root_any _))
      | (go_at_call 20; with_reducible exact later_call (trash_any _))
      | (go_at_call 21; with_reducible exact later_call (lost_any _))))
    refine wpQuiet_nil ?_
    intro _ hw'
    obtain ⟨xl, hw''⟩ := hw'
    subst hw''
    go_wp2
    go_returns
    exact ⟨ret_b E.out.symm, HX.out.trans (xl.below.mono (by simp))⟩
  · have E := Lib.hid (show resB 0 1 = true from rfl)
    go_enter Tryd.func11, Tryd.ntmps11
    go_wp2
    refine wp_region_later (by kernel_rfl) (by kernel_rfl) ?_
    repeat (go_big_quiet_step (first
      | (go_at_call 19; with_reducible exact later_call (root_any _))
      | (go_at_call 20; with_reducible exact later_call (trash_any _))
      | (go_at_call 21; with_reducible exact later_call (lost_any _))))
    refine wpQuiet_nil ?_
    intro _ hw'
    obtain ⟨xl, hw''⟩ := hw'
    subst hw''
    go_wp2
    go_returns
    exact ⟨ret_b E.out.symm, HX.out.trans (xl.below.mono (by simp))⟩
  · have E := Lib.hid (show resB 0 2 = true from rfl)
    go_enter Tryd.func11, Tryd.ntmps11
    go_wp2
    refine wp_region_later (by kernel_rfl) (by kernel_rfl) ?_
    repeat (go_big_quiet_step (first
      | (go_at_call 19; with_reducible exact later_call (root_any _))
      | (go_at_call 20; with_reducible exact later_call (trash_any _))
      | (go_at_call 21; with_reducible exact later_call (lost_any _))))
    refine wpQuiet_nil ?_
    intro _ hw'
    obtain ⟨xl, hw''⟩ := hw'
    subst hw''
    go_wp2
    go_returns
    exact ⟨ret_b E.out.symm, HX.out.trans (xl.below.mono (by simp))⟩
  · have E := Lib.hid (show resB 0 b = false by unfold resB; simp; omega)
    have t0 := bneb_ b 0 h0
    have t1 := bneb_ b 1 h1
    have t2 := bneb_ b 2 h2
    clear h0 h1 h2
    go_enter Tryd.func11, Tryd.ntmps11
    go_wp2
    refine wp_region_later (by kernel_rfl) (by kernel_rfl) ?_
    repeat (go_big_quiet_step (first
      | (go_at_call 19; with_reducible exact later_call (root_any _))
      | (go_at_call 20; with_reducible exact later_call (trash_any _))
      | (go_at_call 21; with_reducible exact later_call (lost_any _))))
    refine wpQuiet_nil ?_
    intro _ hw'
    obtain ⟨xl, hw''⟩ := hw'
    subst hw''
    go_wp2
    go_returns
    exact ⟨ret_b E.out.symm, HX.out.trans (xl.below.mono (by simp))⟩
  · have E := Lib.hid (show resB a b = false by unfold resB; simp; omega)
    have t0 := bneb_ a 0 h0
    clear h0
    go_enter Tryd.func11, Tryd.ntmps11
    go_wp2
    refine wp_region_later (by kernel_rfl) (by kernel_rfl) ?_
    repeat (go_big_quiet_step (first
      | (go_at_call 19; with_reducible exact later_call (root_any _))
      | (go_at_call 20; with_reducible exact later_call (trash_any _))
      | (go_at_call 21; with_reducible exact later_call (lost_any _))))
    refine wpQuiet_nil ?_
    intro _ hw'
    obtain ⟨xl, hw''⟩ := hw'
    subst hw''
    go_wp2
    go_returns
    exact ⟨ret_b E.out.symm, HX.out.trans (xl.below.mono (by simp))⟩

theorem two_cells {w : World} {r : Nat} {v u : Value} {t : TypeId} (h : w.heap[r]? = some (.cells #[v, u] t (0, 0))) :
    w.cell? ⟨r, 0, none⟩ = some v ∧ w.cell? ⟨r, 1, none⟩ = some u ∧ w.frozen? ⟨r, 0, none⟩ = false ∧ w.frozen? ⟨r, 1, none⟩ = false := by
  refine ⟨?_, ?_, ?_, ?_⟩
  · rw [cell_of_row _ _ _ _ _ _ h]; rfl
  · rw [cell_of_row _ _ _ _ _ _ h]; rfl
  · exact frozen_of_row _ _ _ _ _ h
  · exact frozen_of_row _ _ _ _ _ h

/-- What Parse tells. -/
def parseP (s : ByteArray) : (Int × Int) × Int :=
  match numOf (cutAt s 46).1.data.toList, numOf (cutAt s 46).2.1.data.toList with
  | some t, some r => if rightB t r || resB t r then ((t, r), 0) else ((0, 0), 4)
  | _, _ => ((0, 0), 4)
def parseV (s : ByteArray) : Value := .tuple #[.agg #[.int .i64 (parseP s).1.1, .int .i64 (parseP s).1.2], .int .i64 (parseP s).2]

theorem cut_size (s : ByteArray) : (cutAt s 46).1.size ≤ s.size ∧ (cutAt s 46).2.1.size ≤ s.size := by
  unfold cutAt
  split
  · simp only [ByteArray.size_extract]; omega
  · exact ⟨Nat.le_refl _, Nat.zero_le _⟩

set_option maxRecDepth 100000 in
set_option maxHeartbeats 1600000 in
theorem parse_any (w : World) (s : ByteArray) (hs : s.size ≤ 1000000) :
    Calls Tryd.prog 9 #[.string s] w fun e w' => e = .returned (parseV s) ∧ Below w.heap.size w w' := by
  have hX := (Below.refl w.heap.size w).alloc (Nat.le_refl _) (.cells #[.int .i64 0, .int .i64 0] 23)
  have hbox := heap_alloc_new w (.cells #[.int .i64 0, .int .i64 0] 23)
  have C := Lib.hid (fun W => cut_any W s 46 (by omega))
  have hcs := cut_size s
  have HX := Lib.hid (And.intro hX hbox)
  clear hX hbox
  unfold parseV parseP cutV at *
  generalize cutAt s 46 = q at *
  obtain ⟨ah, be, fd⟩ := q
  simp only at hcs
  have N1 := Lib.hid (fun W => number_any W ah (by omega))
  have N2 := Lib.hid (fun W => number_any W be (by omega))
  unfold numV at N1 N2
  simp only
  clear hcs
  cases hn1 : numOf ah.data.toList with
  | none =>
    rw [hn1] at N1
    clear hn1
    go_enter Tryd.func9, Tryd.ntmps9
    go_wp2_with fail
    refine (C.out _).mono ?_
    rintro e w1 ⟨rfl, hb1⟩
    have hz := hb1.size
    simp only [World.size_alloc] at hz
    have hq := (hb1.block w.heap.size (by simp)).trans HX.out.2
    have B1 := Lib.hid (HX.out.1.trans (hb1.mono (by simp)))
    clear hb1
    go_wp2_with fail
    refine (N1.out _).mono ?_
    rintro e w2 ⟨rfl, hb2⟩
    have hq2 := (hb2.block w.heap.size (by omega)).trans hq
    have B2 := Lib.hid (B1.out.trans (hb2.mono (by omega)))
    have q0 : w2.cell? ⟨w.heap.size, 0, none⟩ = some (.int .i64 0) := by rw [cell_of_row _ _ _ _ _ _ hq2]; rfl
    have q1 : w2.cell? ⟨w.heap.size, 1, none⟩ = some (.int .i64 0) := by rw [cell_of_row _ _ _ _ _ _ hq2]; rfl
    have g0 : w2.frozen? ⟨w.heap.size, 0, none⟩ = false := frozen_of_row _ _ _ _ _ hq2
    have g1 : w2.frozen? ⟨w.heap.size, 1, none⟩ = false := frozen_of_row _ _ _ _ _ hq2
    clear hb2 hq hq2
    go_wp2
    refine bodyPost_ret (v := .tuple #[.agg #[.int .i64 0, .int .i64 0], .int .i64 4]) (by simp [results, Tryd.results9, go_sem, q0, q1]) rfl ⟨rfl, ?_⟩
    exact (B2.out.setCell (Nat.le_refl _) _).setCell (Nat.le_refl _) _
  | some t =>
    rw [hn1] at N1
    clear hn1
    simp only at N1
    cases hn2 : numOf be.data.toList with
    | none =>
      rw [hn2] at N2
      clear hn2
      simp only at N2
      go_enter Tryd.func9, Tryd.ntmps9
      go_wp2_with fail
      refine (C.out _).mono ?_
      rintro e w1 ⟨rfl, hb1⟩
      have hz := hb1.size
      simp only [World.size_alloc] at hz
      have hq := (hb1.block w.heap.size (by simp)).trans HX.out.2
      have B1 := Lib.hid (HX.out.1.trans (hb1.mono (by simp)))
      clear hb1
      go_wp2_with fail
      refine (N1.out _).mono ?_
      rintro e w2 ⟨rfl, hb2⟩
      have hz2 := hb2.size
      have hq2 := (hb2.block w.heap.size (by omega)).trans hq
      have B2 := Lib.hid (B1.out.trans (hb2.mono (by omega)))
      clear hb2 hq
      go_wp2_with fail
      refine (N2.out _).mono ?_
      rintro e w3 ⟨rfl, hb3⟩
      have hq3 := (hb3.block w.heap.size (by omega)).trans hq2
      have B3 := Lib.hid (B2.out.trans (hb3.mono (by omega)))
      have q0 : w3.cell? ⟨w.heap.size, 0, none⟩ = some (.int .i64 0) := by rw [cell_of_row _ _ _ _ _ _ hq3]; rfl
      have q1 : w3.cell? ⟨w.heap.size, 1, none⟩ = some (.int .i64 0) := by rw [cell_of_row _ _ _ _ _ _ hq3]; rfl
      have g0 : w3.frozen? ⟨w.heap.size, 0, none⟩ = false := frozen_of_row _ _ _ _ _ hq3
      have g1 : w3.frozen? ⟨w.heap.size, 1, none⟩ = false := frozen_of_row _ _ _ _ _ hq3
      clear hb3 hq2 hq3
      go_wp2
      refine bodyPost_ret (v := .tuple #[.agg #[.int .i64 0, .int .i64 0], .int .i64 4]) (by simp [results, Tryd.results9, go_sem, q0, q1]) rfl ⟨rfl, ?_⟩
      exact (B3.out.setCell (Nat.le_refl _) _).setCell (Nat.le_refl _) _
    | some r =>
      rw [hn2] at N2
      clear hn2
      simp only at N2
      simp only
      have RI := Lib.hid (fun W => right_any W t r)
      have RE := Lib.hid (fun W => reserved_any W t r)
      generalize rightB t r = x1 at *
      generalize resB t r = x2 at *
      cases x1
      · cases x2
        · simp only [Bool.or_false, Bool.false_eq_true, if_false]
          go_enter Tryd.func9, Tryd.ntmps9
          go_wp2_with fail
          refine (C.out _).mono ?_
          rintro e w1 ⟨rfl, hb1⟩
          have hz := hb1.size
          simp only [World.size_alloc] at hz
          have hq := (hb1.block w.heap.size (by simp)).trans HX.out.2
          have B1 := Lib.hid (HX.out.1.trans (hb1.mono (by simp)))
          clear hb1
          go_wp2_with fail
          refine (N1.out _).mono ?_
          rintro e w2 ⟨rfl, hb2⟩
          have hz2 := hb2.size
          have hq2 := (hb2.block w.heap.size (by omega)).trans hq
          have B2 := Lib.hid (B1.out.trans (hb2.mono (by omega)))
          clear hb2 hq
          go_wp2_with fail
          refine (N2.out _).mono ?_
          rintro e w3 ⟨rfl, hb3⟩
          have hz3 := hb3.size
          have hq3 := (hb3.block w.heap.size (by omega)).trans hq2
          have B3 := Lib.hid (B2.out.trans (hb3.mono (by omega)))
          have hlt3 : w.heap.size < w3.heap.size := by omega
          have hX4 := (Below.refl w3.heap.size w3).alloc (Nat.le_refl _) (.cells #[.int .i64 t, .int .i64 r] 23)
          have hn4 := heap_alloc_new w3 (.cells #[.int .i64 t, .int .i64 r] 23)
          have hq4 := (hX4.block w.heap.size hlt3).trans hq3
          have B4 := Lib.hid (And.intro (B3.out.trans (hX4.mono (by omega))) (And.intro hn4 hq4))
          clear hb3 hq2 hq3 hX4 hn4 hq4
          go_wp2_with fail
          refine (RI.out _).mono ?_
          rintro e w5 ⟨rfl, hb5⟩
          have hz5 := hb5.size
          simp only [World.size_alloc] at hz5
          have p5 := (hb5.block w3.heap.size (by simp)).trans B4.out.2.1
          have s5 := (hb5.block w.heap.size (by simp; omega)).trans B4.out.2.2
          have B5 := Lib.hid (B4.out.1.trans (hb5.mono (by simp; omega)))
          obtain ⟨p0, p1, pf0, pf1⟩ := two_cells p5
          obtain ⟨q0, q1, g0, g1⟩ := two_cells s5
          have P5 := Lib.hid (And.intro p5 s5)
          clear hb5 p5 s5
          go_wp2_with fail
          refine (RE.out _).mono ?_
          rintro e w6 ⟨rfl, hb6⟩
          have p6 := (hb6.block w3.heap.size (by omega)).trans P5.out.1
          have s6 := (hb6.block w.heap.size (by omega)).trans P5.out.2
          have B6 := Lib.hid (B5.out.trans (hb6.mono (by omega)))
          clear p0 p1 pf0 pf1 q0 q1 g0 g1
          obtain ⟨p0, p1, pf0, pf1⟩ := two_cells p6
          obtain ⟨q0, q1, g0, g1⟩ := two_cells s6
          clear hb6 p6 s6
          go_wp2
          refine bodyPost_ret (v := .tuple #[.agg #[.int .i64 0, .int .i64 0], .int .i64 4]) (by simp [results, Tryd.results9, go_sem, q0, q1]) rfl ⟨rfl, ?_⟩
          exact (B6.out.setCell (Nat.le_refl _) _).setCell (Nat.le_refl _) _
        · simp only [Bool.or_true, if_true]
          go_enter Tryd.func9, Tryd.ntmps9
          go_wp2_with fail
          refine (C.out _).mono ?_
          rintro e w1 ⟨rfl, hb1⟩
          have hz := hb1.size
          simp only [World.size_alloc] at hz
          have hq := (hb1.block w.heap.size (by simp)).trans HX.out.2
          have B1 := Lib.hid (HX.out.1.trans (hb1.mono (by simp)))
          clear hb1
          go_wp2_with fail
          refine (N1.out _).mono ?_
          rintro e w2 ⟨rfl, hb2⟩
          have hz2 := hb2.size
          have hq2 := (hb2.block w.heap.size (by omega)).trans hq
          have B2 := Lib.hid (B1.out.trans (hb2.mono (by omega)))
          clear hb2 hq
          go_wp2_with fail
          refine (N2.out _).mono ?_
          rintro e w3 ⟨rfl, hb3⟩
          have hz3 := hb3.size
          have hq3 := (hb3.block w.heap.size (by omega)).trans hq2
          have B3 := Lib.hid (B2.out.trans (hb3.mono (by omega)))
          have hlt3 : w.heap.size < w3.heap.size := by omega
          have hX4 := (Below.refl w3.heap.size w3).alloc (Nat.le_refl _) (.cells #[.int .i64 t, .int .i64 r] 23)
          have hn4 := heap_alloc_new w3 (.cells #[.int .i64 t, .int .i64 r] 23)
          have hq4 := (hX4.block w.heap.size hlt3).trans hq3
          have B4 := Lib.hid (And.intro (B3.out.trans (hX4.mono (by omega))) (And.intro hn4 hq4))
          clear hb3 hq2 hq3 hX4 hn4 hq4
          go_wp2_with fail
          refine (RI.out _).mono ?_
          rintro e w5 ⟨rfl, hb5⟩
          have hz5 := hb5.size
          simp only [World.size_alloc] at hz5
          have p5 := (hb5.block w3.heap.size (by simp)).trans B4.out.2.1
          have s5 := (hb5.block w.heap.size (by simp; omega)).trans B4.out.2.2
          have B5 := Lib.hid (B4.out.1.trans (hb5.mono (by simp; omega)))
          obtain ⟨p0, p1, pf0, pf1⟩ := two_cells p5
          obtain ⟨q0, q1, g0, g1⟩ := two_cells s5
          have P5 := Lib.hid (And.intro p5 s5)
          clear hb5 p5 s5
          go_wp2_with fail
          refine (RE.out _).mono ?_
          rintro e w6 ⟨rfl, hb6⟩
          have p6 := (hb6.block w3.heap.size (by omega)).trans P5.out.1
          have s6 := (hb6.block w.heap.size (by omega)).trans P5.out.2
          have B6 := Lib.hid (B5.out.trans (hb6.mono (by omega)))
          clear p0 p1 pf0 pf1 q0 q1 g0 g1
          obtain ⟨p0, p1, pf0, pf1⟩ := two_cells p6
          obtain ⟨q0, q1, g0, g1⟩ := two_cells s6
          clear hb6 p6 s6
          go_wp2
          refine bodyPost_ret (v := .tuple #[.agg #[.int .i64 t, .int .i64 r], .int .i64 0]) (by simp [results, Tryd.results9, go_sem, q0, q1]) rfl ⟨rfl, ?_⟩
          exact (B6.out.setCell (Nat.le_refl _) _).setCell (Nat.le_refl _) _
      · simp only [Bool.true_or, if_true]
        go_enter Tryd.func9, Tryd.ntmps9
        go_wp2_with fail
        refine (C.out _).mono ?_
        rintro e w1 ⟨rfl, hb1⟩
        have hz := hb1.size
        simp only [World.size_alloc] at hz
        have hq := (hb1.block w.heap.size (by simp)).trans HX.out.2
        have B1 := Lib.hid (HX.out.1.trans (hb1.mono (by simp)))
        clear hb1
        go_wp2_with fail
        refine (N1.out _).mono ?_
        rintro e w2 ⟨rfl, hb2⟩
        have hz2 := hb2.size
        have hq2 := (hb2.block w.heap.size (by omega)).trans hq
        have B2 := Lib.hid (B1.out.trans (hb2.mono (by omega)))
        clear hb2 hq
        go_wp2_with fail
        refine (N2.out _).mono ?_
        rintro e w3 ⟨rfl, hb3⟩
        have hz3 := hb3.size
        have hq3 := (hb3.block w.heap.size (by omega)).trans hq2
        have B3 := Lib.hid (B2.out.trans (hb3.mono (by omega)))
        have hlt3 : w.heap.size < w3.heap.size := by omega
        have hX4 := (Below.refl w3.heap.size w3).alloc (Nat.le_refl _) (.cells #[.int .i64 t, .int .i64 r] 23)
        have hn4 := heap_alloc_new w3 (.cells #[.int .i64 t, .int .i64 r] 23)
        have hq4 := (hX4.block w.heap.size hlt3).trans hq3
        have B4 := Lib.hid (And.intro (B3.out.trans (hX4.mono (by omega))) (And.intro hn4 hq4))
        clear hb3 hq2 hq3 hX4 hn4 hq4
        go_wp2_with fail
        refine (RI.out _).mono ?_
        rintro e w5 ⟨rfl, hb5⟩
        have hz5 := hb5.size
        simp only [World.size_alloc] at hz5
        have p5 := (hb5.block w3.heap.size (by simp)).trans B4.out.2.1
        have s5 := (hb5.block w.heap.size (by simp; omega)).trans B4.out.2.2
        have B5 := Lib.hid (B4.out.1.trans (hb5.mono (by simp; omega)))
        obtain ⟨p0, p1, pf0, pf1⟩ := two_cells p5
        obtain ⟨q0, q1, g0, g1⟩ := two_cells s5
        have P5 := Lib.hid (And.intro p5 s5)
        clear hb5 p5 s5
        go_wp2
        refine bodyPost_ret (v := .tuple #[.agg #[.int .i64 t, .int .i64 r], .int .i64 0]) (by simp [results, Tryd.results9, go_sem, q0, q1]) rfl ⟨rfl, ?_⟩
        exact (B5.out.setCell (Nat.le_refl _) _).setCell (Nat.le_refl _) _

end Go.Proofs.YthpolhlhpdhomaaDoor
