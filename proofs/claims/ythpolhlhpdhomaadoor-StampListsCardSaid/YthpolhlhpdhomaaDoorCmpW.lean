/- Which of two stamps is ahead: the program's Compare and the reference's. -/
import Derived.Test.YthpolhlhpdhomaaDoorParseW
set_option linter.unusedVariables false
namespace Go.Proofs.YthpolhlhpdhomaaDoor
open Go.RowKit

def lessB (a1 a2 b1 b2 : Int) : Bool := if a1 = b1 then decide (a2 < b2) else decide (a1 < b1)
def cmpS (a1 a2 b1 b2 : Int) : Int := if a1 = b1 then Lib.compareInt a2 b2 else Lib.compareInt a1 b1
theorem cmp_less (a1 a2 b1 b2 : Int) : (lessB a1 a2 b1 b2 = true ∧ cmpS a1 a2 b1 b2 = -1) ∨ (lessB a1 a2 b1 b2 = false ∧ lessB b1 b2 a1 a2 = true ∧ cmpS a1 a2 b1 b2 = 1) ∨ (lessB a1 a2 b1 b2 = false ∧ lessB b1 b2 a1 a2 = false ∧ cmpS a1 a2 b1 b2 = 0) := by
  unfold lessB cmpS Lib.compareInt
  by_cases h : a1 = b1
  · subst h
    simp only [if_true, decide_eq_true_eq, decide_eq_false_iff_not]
    by_cases h1 : a2 < b2
    · simp [h1]
    · by_cases h2 : b2 < a2
      · first | (simp [h1, h2]; done) | (simp [h1, h2]; omega)
      · first | (simp [h1, h2]; done) | (simp [h1, h2]; omega)
  · have h' : ¬ b1 = a1 := fun e => h e.symm
    simp only [h, h', if_false, decide_eq_true_eq, decide_eq_false_iff_not]
    by_cases h1 : a1 < b1
    · simp [h1]
    · by_cases h2 : b1 < a1
      · first | (simp [h1, h2]; done) | (simp [h1, h2]; omega)
      · omega

set_option maxRecDepth 100000 in
set_option maxHeartbeats 800000 in
theorem less_any (w : World) (a1 a2 b1 b2 : Int) : Calls Tryd.prog 41 #[.agg #[.int .i64 a1, .int .i64 a2], .agg #[.int .i64 b1, .int .i64 b2]] w fun e w' => e = .returned (.bool (lessB a1 a2 b1 b2)) ∧ Below w.heap.size w w' := by
  have E := Lib.hid (show lessB a1 a2 b1 b2 = if a1 = b1 then decide (a2 < b2) else decide (a1 < b1) from rfl)
  have X := Lib.hid (((Below.refl w.heap.size w).alloc (Nat.le_refl _) (.cells #[.int .i64 a1, .int .i64 a2] 23)).alloc (by simp) (.cells #[.int .i64 b1, .int .i64 b2] 23))
  by_cases h : a1 = b1
  · have t1 := eqb_ a1 b1 h
    have H := Lib.hid h
    clear h
    go_enter Tryd.func41, Tryd.ntmps41
    go_wp2
    go_returns
    exact ⟨ret_b (by rw [E.out, if_pos H.out]), X.out⟩
  · have t1 := neb_ a1 b1 h
    have H := Lib.hid h
    clear h
    go_enter Tryd.func41, Tryd.ntmps41
    go_wp2
    go_returns
    exact ⟨ret_b (by rw [E.out, if_neg H.out]), X.out⟩

set_option maxRecDepth 100000 in
set_option maxHeartbeats 800000 in
theorem compare_any (w : World) (a1 a2 b1 b2 : Int) : Calls Tryd.prog 15 #[.agg #[.int .i64 a1, .int .i64 a2], .agg #[.int .i64 b1, .int .i64 b2]] w fun e w' => e = .returned (.int .i64 (cmpS a1 a2 b1 b2)) ∧ Below w.heap.size w w' := by
  have E := Lib.hid (show cmpS a1 a2 b1 b2 = if a1 = b1 then Lib.compareInt a2 b2 else Lib.compareInt a1 b1 from rfl)
  have X := Lib.hid (((Below.refl w.heap.size w).alloc (Nat.le_refl _) (.cells #[.int .i64 a1, .int .i64 a2] 23)).alloc (by simp) (.cells #[.int .i64 b1, .int .i64 b2] 23))
  have C1 := Lib.hid (fun W => Tryd.cmp_Compare_int a1 b1 W)
  have C2 := Lib.hid (fun W => Tryd.cmp_Compare_int a2 b2 W)
  by_cases h : a1 = b1
  · have t1 := eqb_ a1 b1 h
    rw [if_pos h] at E
    clear h
    go_enter Tryd.func15, Tryd.ntmps15
    go_wp2_with fail
    refine (C2.out _).mono ?_
    rintro e w1 ⟨rfl, rfl⟩
    go_wp2
    go_returns
    exact ⟨by rw [E.out]; rfl, X.out⟩
  · have t1 := neb_ a1 b1 h
    rw [if_neg h] at E
    clear h
    go_enter Tryd.func15, Tryd.ntmps15
    go_wp2_with fail
    refine (C1.out _).mono ?_
    rintro e w1 ⟨rfl, rfl⟩
    go_wp2
    go_returns
    exact ⟨by rw [E.out]; rfl, X.out⟩

set_option maxRecDepth 100000 in
set_option maxHeartbeats 1600000 in
theorem rcompare_any (w : World) (a1 a2 b1 b2 : Int) : Calls Tryd.prog 16 #[.agg #[.int .i64 a1, .int .i64 a2], .agg #[.int .i64 b1, .int .i64 b2]] w fun e w' => e = .returned (.int .i64 (cmpS a1 a2 b1 b2)) ∧ Below w.heap.size w w' := by
  have hc := cmp_less a1 a2 b1 b2
  have C1 := Lib.hid (fun W => less_any W a1 a2 b1 b2)
  have C2 := Lib.hid (fun W => less_any W b1 b2 a1 a2)
  generalize lessB a1 a2 b1 b2 = x at *
  generalize lessB b1 b2 a1 a2 = y at *
  generalize cmpS a1 a2 b1 b2 = z at *
  have X := Lib.hid (((Below.refl w.heap.size w).alloc (Nat.le_refl _) (.cells #[.int .i64 a1, .int .i64 a2] 23)).alloc (by simp) (.cells #[.int .i64 b1, .int .i64 b2] 23))
  have N := Lib.hid (heap_alloc_new w (.cells #[.int .i64 a1, .int .i64 a2] 23))
  have M := Lib.hid (heap_alloc_new (w.alloc (.cells #[.int .i64 a1, .int .i64 a2] 23)) (.cells #[.int .i64 b1, .int .i64 b2] 23))
  have L := Lib.hid ((Below.refl (w.alloc (.cells #[.int .i64 a1, .int .i64 a2] 23)).heap.size (w.alloc (.cells #[.int .i64 a1, .int .i64 a2] 23))).alloc (Nat.le_refl _) (.cells #[.int .i64 b1, .int .i64 b2] 23))
  rcases hc with ⟨rfl, rfl⟩ | ⟨rfl, rfl, rfl⟩ | ⟨rfl, rfl, rfl⟩
  · go_enter Tryd.func16, Tryd.ntmps16
    go_wp2_with fail
    refine (C1.out _).mono ?_
    rintro e w1 ⟨rfl, hb1⟩
    have B1 := Lib.hid (X.out.trans (hb1.mono (by simp; omega)))
    clear hb1
    go_wp2
    go_returns
    exact ⟨rfl, B1.out⟩
  all_goals
    go_enter Tryd.func16, Tryd.ntmps16
    go_wp2_with fail
    refine (C1.out _).mono ?_
    rintro e w1 ⟨rfl, hb1⟩
    have hz1 := hb1.size
    simp only [World.size_alloc] at hz1
    have s0 := (hb1.block w.heap.size (by simp; omega)).trans ((L.out.block w.heap.size (by simp)).trans N.out)
    have s1 := (hb1.block (w.heap.size + 1) (by simp)).trans (show _ = some (Obj.cells #[.int .i64 b1, .int .i64 b2] 23) by have := M.out; rw [World.size_alloc] at this; exact this)
    have B1 := Lib.hid (X.out.trans (hb1.mono (by simp; omega)))
    obtain ⟨q0, q1, g0, g1⟩ := two_cells s0
    obtain ⟨q2, q3, g2, g3⟩ := two_cells s1
    clear hb1 s0 s1
    go_wp2_with fail
    refine (C2.out _).mono ?_
    rintro e w2 ⟨rfl, hb2⟩
    have B2 := Lib.hid (B1.out.trans (hb2.mono (by omega)))
    clear hb2
    go_wp2
    go_returns
    exact ⟨rfl, B2.out⟩
end Go.Proofs.YthpolhlhpdhomaaDoor
