/- StampBack, walked: stamps that may be are parsed as they were told. -/
import Derived.Test.YthpolhlhpdhomaaDoorAwake
import Derived.Test.YthpolhlhpdhomaaDoorDecMath
set_option linter.unusedVariables false
namespace Go.Proofs.YthpolhlhpdhomaaDoor
open Go.RowKit

set_option maxRecDepth 100000 in
set_option maxHeartbeats 800000 in
theorem rright_any (w : World) (a b : Int) : Calls Tryd.prog 14 #[.agg #[.int .i64 a, .int .i64 b]] w fun e w' => e = .returned (.bool (rightB a b)) ∧ Below w.heap.size w w' := by
  have hcase : (a < 1 ∧ rightB a b = false) ∨ (1 ≤ a ∧ 281474976710656 < a ∧ rightB a b = false) ∨ (1 ≤ a ∧ a ≤ 281474976710656 ∧ b < 0 ∧ rightB a b = false) ∨ (1 ≤ a ∧ a ≤ 281474976710656 ∧ 0 ≤ b ∧ 63 < b ∧ rightB a b = false) ∨ (1 ≤ a ∧ a ≤ 281474976710656 ∧ 0 ≤ b ∧ b ≤ 63 ∧ rightB a b = true) := by
    unfold rightB rT rR
    by_cases h1 : 1 ≤ a <;> by_cases h2 : a ≤ 281474976710656 <;> by_cases h3 : 0 ≤ b <;> by_cases h4 : b ≤ 63 <;> simp <;> omega
  rcases hcase with ⟨h1, h⟩ | ⟨h1, h2, h⟩ | ⟨h1, h2, h3, h⟩ | ⟨h1, h2, h3, h4, h⟩ | ⟨h1, h2, h3, h4, h⟩
  all_goals
    have E := Lib.hid h
    clear h
    go_enter Tryd.func14, Tryd.ntmps14
    go_wp2
    go_returns
    exact ⟨ret_b (by first | exact E.out.symm | (rw [E.out]; done) | (rw [E.out]; simp; done) | (rw [E.out]; simp; omega)), (Below.refl _ _).alloc (Nat.le_refl _) _⟩
set_option maxRecDepth 100000 in
set_option maxHeartbeats 800000 in
theorem rres_any (w : World) (a b : Int) : Calls Tryd.prog 12 #[.agg #[.int .i64 a, .int .i64 b]] w fun e w' => e = .returned (.bool (resB a b)) ∧ Below w.heap.size w w' := by
  by_cases h0 : a = 0
  · subst h0
    have hcase : (b < 0 ∧ resB 0 b = false) ∨ (0 ≤ b ∧ 2 < b ∧ resB 0 b = false) ∨ (0 ≤ b ∧ b ≤ 2 ∧ resB 0 b = true) := by
      unfold resB
      by_cases h3 : 0 ≤ b <;> by_cases h4 : b ≤ 2 <;> simp <;> omega
    rcases hcase with ⟨h1, h⟩ | ⟨h1, h2, h⟩ | ⟨h1, h2, h⟩
    all_goals
      have E := Lib.hid h
      clear h
      go_enter Tryd.func12, Tryd.ntmps12
      go_wp2
      go_returns
      exact ⟨ret_b (by first | exact E.out.symm | (rw [E.out]; done) | (rw [E.out]; simp; done) | (rw [E.out]; simp; omega)), (Below.refl _ _).alloc (Nat.le_refl _) _⟩
  · have E := Lib.hid (show resB a b = false by unfold resB; simp; omega)
    have t0 := bneb_ a 0 h0
    clear h0
    go_enter Tryd.func12, Tryd.ntmps12
    go_wp2
    go_returns
    exact ⟨ret_b (by first | exact E.out.symm | (rw [E.out]; done) | (rw [E.out]; simp; done) | (rw [E.out]; simp; omega)), (Below.refl _ _).alloc (Nat.le_refl _) _⟩

theorem textS_size (a b : Int) (ha : a ≤ 9223372036854775807) (hb : b ≤ 9223372036854775807) : (textS a b).size ≤ 43 := by
  have h1 := decS_size a ha
  have h2 := decS_size b hb
  unfold textS
  simp only [ByteArray.size_append]
  have : (⟨#[46]⟩ : ByteArray).size = 1 := rfl
  omega

theorem text_any (w : World) (a b : Int) (ha : a ≤ 9223372036854775807) (hb : b ≤ 9223372036854775807) (ht : Tab w) :
    Calls Tryd.prog 17 #[.agg #[.int .i64 a, .int .i64 b]] w fun e w' => e = .returned (.string (textS a b)) ∧ Below w.heap.size w w' :=
  text_of w a b ha hb (fun x => digits_any x.w a ha (tab_later ht x.below)) (fun x => digits_any x.w b hb (tab_later ht x.below))

set_option maxRecDepth 100000 in
set_option maxHeartbeats 1600000 in
theorem back_no (w : World) (a b : Int) (h1 : rightB a b = false) (h2 : resB a b = false) : Calls Tryd.prog 4 #[.agg #[.int .i64 a, .int .i64 b]] w fun e w' => e = .returned (.bool true) ∧ Below w.heap.size w w' := by
  have R1 := Lib.hid (fun W => rright_any W a b)
  have R2 := Lib.hid (fun W => rres_any W a b)
  rw [h1] at R1
  rw [h2] at R2
  have X := Lib.hid ((Below.refl w.heap.size w).alloc (Nat.le_refl _) (.cells #[.int .i64 a, .int .i64 b] 23))
  have N := Lib.hid (heap_alloc_new w (.cells #[.int .i64 a, .int .i64 b] 23))
  clear h1 h2
  go_enter Tryd.func4, Tryd.ntmps4
  go_wp2_with fail
  refine (R1.out _).mono ?_
  rintro e w1 ⟨rfl, hb1⟩
  have hz1 := hb1.size
  simp only [World.size_alloc] at hz1
  have s1 := (hb1.block w.heap.size (by simp)).trans N.out
  obtain ⟨q0, q1, g0, g1⟩ := two_cells s1
  have B1 := Lib.hid (X.out.trans (hb1.mono (by simp)))
  clear hb1 s1
  go_wp2_with fail
  refine (R2.out _).mono ?_
  rintro e w2 ⟨rfl, hb2⟩
  have B2 := Lib.hid (B1.out.trans (hb2.mono (by omega)))
  have hz2 := hb2.size
  clear hb2
  go_wp2_with fail
  refine (awake_any w2).mono ?_
  rintro e w3 ⟨rfl, hb3⟩
  go_wp2
  go_returns
  exact ⟨rfl, B2.out.trans (hb3.mono (by omega))⟩

set_option maxRecDepth 100000 in
set_option maxHeartbeats 3200000 in
theorem back_yes (w : World) (a b : Int) (h : rightB a b = true ∨ (rightB a b = false ∧ resB a b = true)) (ht : Tab w) : Calls Tryd.prog 4 #[.agg #[.int .i64 a, .int .i64 b]] w fun e w' => e = .returned (.bool true) ∧ Below w.heap.size w w' := by
  have hb : (a ≤ 281474976710656) ∧ b ≤ 63 := by
    rcases h with h | ⟨_, h⟩
    · unfold rightB rT rR at h; simp at h; omega
    · unfold resB at h; simp at h; omega
  have R1 := Lib.hid (fun W => rright_any W a b)
  have R2 := Lib.hid (fun W => rres_any W a b)
  have T := Lib.hid (fun W (h : Tab W) => text_any W a b (by omega) (by omega) h)
  have P := Lib.hid (fun W => parse_any W (textS a b) (by have := textS_size a b (by omega) (by omega); omega))
  have hp := parse_text a b (h.imp id (fun x => x.2))
  unfold parseV at P
  rw [hp] at P
  simp only at P
  generalize textS a b = tx at *
  have X := Lib.hid ((Below.refl w.heap.size w).alloc (Nat.le_refl _) (.cells #[.int .i64 a, .int .i64 b] 23))
  have N := Lib.hid (heap_alloc_new w (.cells #[.int .i64 a, .int .i64 b] 23))
  have HT := Lib.hid ht
  clear hp ht hb
  have tail : ∀ w1 : World, Below w.heap.size w w1 → w1.heap[w.heap.size]? = some (.cells #[.int .i64 a, .int .i64 b] 23 (0, 0)) → True := fun _ _ _ => trivial
  rcases h with h | ⟨h1, h2⟩
  · rw [h] at R1
    clear h
    go_enter Tryd.func4, Tryd.ntmps4
    go_wp2_with fail
    refine (R1.out _).mono ?_
    rintro e w1 ⟨rfl, hb1⟩
    have hz1 := hb1.size
    simp only [World.size_alloc] at hz1
    have s1 := (hb1.block w.heap.size (by simp)).trans N.out
    obtain ⟨q0, q1, g0, g1⟩ := two_cells s1
    have B1 := Lib.hid (And.intro (X.out.trans (hb1.mono (by simp))) s1)
    clear hb1 s1
    go_wp2_with fail
    refine (T.out _ (tab_later HT.out B1.out.1)).mono ?_
    rintro e w3 ⟨rfl, hb3⟩
    have hz3 := hb3.size
    have s3 := (hb3.block w.heap.size (by omega)).trans B1.out.2
    have B3 := Lib.hid (And.intro (B1.out.1.trans (hb3.mono (by omega))) s3)
    clear hb3 s3 q0 q1 g0 g1
    go_wp2_with fail
    refine (P.out _).mono ?_
    rintro e w4 ⟨rfl, hb4⟩
    have hz4 := hb4.size
    have s4 := (hb4.block w.heap.size (by omega)).trans B3.out.2
    have B4 := Lib.hid (B3.out.1.trans (hb4.mono (by omega)))
    have hlt4 : w.heap.size < w4.heap.size := by omega
    obtain ⟨q0, q1, g0, g1⟩ := two_cells s4
    clear hb4 s4
    go_wp2_with fail
    refine (awake_any _).mono ?_
    rintro e w5 ⟨rfl, hb5⟩
    go_wp2
    go_returns
    exact ⟨rfl, (B4.out.alloc (by omega) _).trans (hb5.mono (by simp; omega))⟩
  · rw [h1] at R1
    rw [h2] at R2
    clear h1 h2
    go_enter Tryd.func4, Tryd.ntmps4
    go_wp2_with fail
    refine (R1.out _).mono ?_
    rintro e w1 ⟨rfl, hb1⟩
    have hz1 := hb1.size
    simp only [World.size_alloc] at hz1
    have s1 := (hb1.block w.heap.size (by simp)).trans N.out
    obtain ⟨q0, q1, g0, g1⟩ := two_cells s1
    have B1 := Lib.hid (And.intro (X.out.trans (hb1.mono (by simp))) s1)
    clear hb1 s1
    go_wp2_with fail
    refine (R2.out _).mono ?_
    rintro e w2 ⟨rfl, hb2⟩
    have hz2 := hb2.size
    have s2 := (hb2.block w.heap.size (by omega)).trans B1.out.2
    have B2 := Lib.hid (And.intro (B1.out.1.trans (hb2.mono (by omega))) s2)
    clear q0 q1 g0 g1
    obtain ⟨q0, q1, g0, g1⟩ := two_cells s2
    clear hb2 s2
    go_wp2_with fail
    refine (T.out _ (tab_later HT.out B2.out.1)).mono ?_
    rintro e w3 ⟨rfl, hb3⟩
    have hz3 := hb3.size
    have s3 := (hb3.block w.heap.size (by omega)).trans B2.out.2
    have B3 := Lib.hid (And.intro (B2.out.1.trans (hb3.mono (by omega))) s3)
    clear hb3 s3 q0 q1 g0 g1
    go_wp2_with fail
    refine (P.out _).mono ?_
    rintro e w4 ⟨rfl, hb4⟩
    have hz4 := hb4.size
    have s4 := (hb4.block w.heap.size (by omega)).trans B3.out.2
    have B4 := Lib.hid (B3.out.1.trans (hb4.mono (by omega)))
    have hlt4 : w.heap.size < w4.heap.size := by omega
    obtain ⟨q0, q1, g0, g1⟩ := two_cells s4
    clear hb4 s4
    go_wp2_with fail
    refine (awake_any _).mono ?_
    rintro e w5 ⟨rfl, hb5⟩
    go_wp2
    go_returns
    exact ⟨rfl, (B4.out.alloc (by omega) _).trans (hb5.mono (by simp; omega))⟩

theorem back_all (w : World) (a b : Int) (ht : Tab w) : Calls Tryd.prog 4 #[.agg #[.int .i64 a, .int .i64 b]] w fun e w' => e = .returned (.bool true) ∧ Below w.heap.size w w' := by
  cases h1 : rightB a b
  · cases h2 : resB a b
    · exact back_no w a b h1 h2
    · exact back_yes w a b (.inr ⟨h1, h2⟩) ht
  · exact back_yes w a b (.inl h1) ht
end Go.Proofs.YthpolhlhpdhomaaDoor
