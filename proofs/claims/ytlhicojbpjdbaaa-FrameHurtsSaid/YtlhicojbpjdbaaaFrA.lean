/- Whether a frame may be, of both; the program's frame of the reference's. -/
import Derived.Test.YtlhicojbpjdbaaaSumD
set_option linter.unusedVariables false
namespace Go.Proofs.Ytlhicojbpjdbaaa
open Go.RowKit

def isRepB (n : Int) : Bool := decide (0 ≤ n ∧ n < 64)
theorem isRep_no {n : Int} (h : n < 0 ∨ 63 < n) : isRepB n = false := by unfold isRepB; exact decide_eq_false (by omega)
theorem isRep_yes {n : Int} (h0 : 0 ≤ n) (h1 : n < 64) : isRepB n = true := by unfold isRepB; exact decide_eq_true ⟨h0, h1⟩
set_option maxRecDepth 100000 in
set_option maxHeartbeats 400000 in
theorem isrep_any (w : World) (n : Int) : Calls Try.prog 20 #[.int .i64 n] w fun e w' => e = .returned (.bool (isRepB n)) ∧ w = w' := by
  by_cases h0 : n < 0
  · have E := Lib.hid (isRep_no (.inl h0))
    go_enter Try.func20, Try.ntmps20
    go_wp2
    go_returns
    exact ⟨ret_b (by first | exact E.out.symm | (rw [E.out]; simp; omega)), rfl⟩
  · by_cases h1 : n < 64
    · have E := Lib.hid (isRep_yes (by omega) h1)
      have h2 : 0 ≤ n := by omega
      clear h0
      go_enter Try.func20, Try.ntmps20
      go_wp2
      go_returns
      exact ⟨ret_b (by first | exact E.out.symm | (rw [E.out]; simp; omega)), rfl⟩
    · have E := Lib.hid (isRep_no (.inr (show 63 < n by omega)))
      have h2 : 0 ≤ n := by omega
      clear h0
      go_enter Try.func20, Try.ntmps20
      go_wp2
      go_returns
      exact ⟨ret_b (by first | exact E.out.symm | (rw [E.out]; simp; omega)), rfl⟩

/-- What is wrong with a frame. -/
def chk (k f t : Int) (n : Nat) : Int := if k < 1 ∨ 3 < k ∨ isRepB f = false ∨ isRepB t = false ∨ f = t then 2 else if 65536 < n then 6 else 0

set_option maxRecDepth 100000 in
set_option maxHeartbeats 1600000 in
theorem check_any (w : World) (k f t : Int) (ao : Option Addr) (len cap : Nat) :
    Calls Try.prog 11 #[.agg #[.int .i64 k, .int .i64 f, .int .i64 t, .slice ao len cap]] w fun e w' => e = .returned (.int .i64 (chk k f t len)) ∧ Below w.heap.size w w' := by
  have B := Lib.hid (show Below w.heap.size w (w.alloc (.cells #[.int .i64 k, .int .i64 f, .int .i64 t, .slice ao len cap] 29)) from (Below.refl _ _).alloc (Nat.le_refl _) _)
  have R1 := Lib.hid (fun W => isrep_any W f)
  have R2 := Lib.hid (fun W => isrep_any W t)
  by_cases k1 : k < 1
  · have E := Lib.hid (show chk k f t len = 2 by unfold chk; rw [if_pos (.inl k1)])
    go_enter Try.func11, Try.ntmps11
    go_wp2
    go_returns
    exact ⟨by rw [E.out]; rfl, B.out⟩
  · by_cases k2 : 3 < k
    · have E := Lib.hid (show chk k f t len = 2 by unfold chk; rw [if_pos (.inr (.inl k2))])
      have k3 : 1 ≤ k := by omega
      clear k1
      go_enter Try.func11, Try.ntmps11
      go_wp2
      go_returns
      exact ⟨by rw [E.out]; rfl, B.out⟩
    · have k3 : 1 ≤ k := by omega
      have k4 : k ≤ 3 := by omega
      cases hf : isRepB f with
      | false =>
        have E := Lib.hid (show chk k f t len = 2 by unfold chk; rw [if_pos (.inr (.inr (.inl hf)))])
        rw [hf] at R1
        clear k1 k2 hf
        go_enter Try.func11, Try.ntmps11
        go_wp2_with fail
        refine (R1.out _).mono ?_
        rintro e w1 ⟨rfl, rfl⟩
        go_wp2
        go_returns
        exact ⟨by rw [E.out]; rfl, B.out⟩
      | true =>
        rw [hf] at R1
        cases ht : isRepB t with
        | false =>
          have E := Lib.hid (show chk k f t len = 2 by unfold chk; rw [if_pos (.inr (.inr (.inr (.inl ht))))])
          rw [ht] at R2
          clear k1 k2 hf ht
          go_enter Try.func11, Try.ntmps11
          go_wp2_with fail
          refine (R1.out _).mono ?_
          rintro e w1 ⟨rfl, rfl⟩
          go_wp2_with fail
          refine (R2.out _).mono ?_
          rintro e w1 ⟨rfl, rfl⟩
          go_wp2
          go_returns
          exact ⟨by rw [E.out]; rfl, B.out⟩
        | true =>
          rw [ht] at R2
          by_cases hft : f = t
          · have E := Lib.hid (show chk k f t len = 2 by unfold chk; rw [if_pos (.inr (.inr (.inr (.inr hft))))])
            have t1 := beqb_ f t hft
            clear k1 k2 hf ht hft
            go_enter Try.func11, Try.ntmps11
            go_wp2_with fail
            refine (R1.out _).mono ?_
            rintro e w1 ⟨rfl, rfl⟩
            go_wp2_with fail
            refine (R2.out _).mono ?_
            rintro e w1 ⟨rfl, rfl⟩
            go_wp2
            go_returns
            exact ⟨by rw [E.out]; rfl, B.out⟩
          · have hno : ¬ (k < 1 ∨ 3 < k ∨ isRepB f = false ∨ isRepB t = false ∨ f = t) := by
              rw [hf, ht]; rintro (h | h | h | h | h)
              · omega
              · omega
              · cases h
              · cases h
              · exact hft h
            have t1 := bneb_ f t hft
            by_cases hl : 65536 < len
            · have E := Lib.hid (show chk k f t len = 6 by unfold chk; rw [if_neg hno, if_pos hl])
              clear k1 k2 hf ht hft hno
              go_enter Try.func11, Try.ntmps11
              go_wp2_with fail
              refine (R1.out _).mono ?_
              rintro e w1 ⟨rfl, rfl⟩
              go_wp2_with fail
              refine (R2.out _).mono ?_
              rintro e w1 ⟨rfl, rfl⟩
              go_wp2
              go_returns
              exact ⟨by rw [E.out]; rfl, B.out⟩
            · have E := Lib.hid (show chk k f t len = 0 by unfold chk; rw [if_neg hno, if_neg hl])
              clear k1 k2 hf ht hft hno
              go_enter Try.func11, Try.ntmps11
              go_wp2_with fail
              refine (R1.out _).mono ?_
              rintro e w1 ⟨rfl, rfl⟩
              go_wp2_with fail
              refine (R2.out _).mono ?_
              rintro e w1 ⟨rfl, rfl⟩
              go_wp2
              go_returns
              exact ⟨by rw [E.out]; rfl, B.out⟩

theorem rep_cases (n : Int) : (n < 0 ∧ isRepB n = false) ∨ (0 ≤ n ∧ 63 < n ∧ isRepB n = false) ∨ (0 ≤ n ∧ n ≤ 63 ∧ isRepB n = true) := by
  by_cases h0 : n < 0
  · exact .inl ⟨h0, isRep_no (.inl h0)⟩
  · by_cases h1 : 63 < n
    · exact .inr (.inl ⟨by omega, h1, isRep_no (.inr h1)⟩)
    · exact .inr (.inr ⟨by omega, by omega, isRep_yes (by omega) (by omega)⟩)

set_option maxRecDepth 100000 in
set_option maxHeartbeats 1600000 in
theorem rcheck_any (w : World) (k f t : Int) (ao : Option Addr) (len cap : Nat) :
    Calls Try.prog 10 #[.agg #[.int .i64 k, .int .i64 f, .int .i64 t, .slice ao len cap]] w fun e w' => e = .returned (.int .i64 (chk k f t len)) ∧ Below w.heap.size w w' := by
  have B := Lib.hid (show Below w.heap.size w (w.alloc (.cells #[.int .i64 k, .int .i64 f, .int .i64 t, .slice ao len cap] 24)) from (Below.refl _ _).alloc (Nat.le_refl _) _)
  by_cases hk : k < 1 ∨ 3 < k
  · have E := Lib.hid (show chk k f t len = 2 by unfold chk; rw [if_pos (by omega)])
    have n1 := neb_ k 1 (by omega)
    have n2 := neb_ k 2 (by omega)
    have n3 := neb_ k 3 (by omega)
    clear hk
    go_enter Try.func10, Try.ntmps10
    go_wp2
    go_returns
    exact ⟨by rw [E.out]; rfl, B.out⟩
  · have hk3 : k = 1 ∨ k = 2 ∨ k = 3 := by omega
    rcases rep_cases f with ⟨f1, f2⟩ | ⟨f1, f2, f3⟩ | ⟨f1, f2, f3⟩
    · have E := Lib.hid (show chk k f t len = 2 by unfold chk; rw [if_pos (.inr (.inr (.inl f2)))])
      clear f2
      rcases hk3 with rfl | rfl | rfl
      all_goals
        clear hk
        go_enter Try.func10, Try.ntmps10
        go_wp2
        go_returns
        exact ⟨by rw [E.out]; rfl, B.out⟩
    · have E := Lib.hid (show chk k f t len = 2 by unfold chk; rw [if_pos (.inr (.inr (.inl f3)))])
      clear f3
      rcases hk3 with rfl | rfl | rfl
      all_goals
        clear hk
        go_enter Try.func10, Try.ntmps10
        go_wp2
        go_returns
        exact ⟨by rw [E.out]; rfl, B.out⟩
    · rcases rep_cases t with ⟨g1, g2⟩ | ⟨g1, g2, g3⟩ | ⟨g1, g2, g3⟩
      · have E := Lib.hid (show chk k f t len = 2 by unfold chk; rw [if_pos (.inr (.inr (.inr (.inl g2))))])
        clear g2 f3
        rcases hk3 with rfl | rfl | rfl
        all_goals
          clear hk
          go_enter Try.func10, Try.ntmps10
          go_wp2
          go_returns
          exact ⟨by rw [E.out]; rfl, B.out⟩
      · have E := Lib.hid (show chk k f t len = 2 by unfold chk; rw [if_pos (.inr (.inr (.inr (.inl g3))))])
        clear g3 f3
        rcases hk3 with rfl | rfl | rfl
        all_goals
          clear hk
          go_enter Try.func10, Try.ntmps10
          go_wp2
          go_returns
          exact ⟨by rw [E.out]; rfl, B.out⟩
      · by_cases hft : f = t
        · have E := Lib.hid (show chk k f t len = 2 by unfold chk; rw [if_pos (.inr (.inr (.inr (.inr hft))))])
          have t1 := beqb_ f t hft
          clear g3 f3 hft
          rcases hk3 with rfl | rfl | rfl
          all_goals
            clear hk
            go_enter Try.func10, Try.ntmps10
            go_wp2
            go_returns
            exact ⟨by rw [E.out]; rfl, B.out⟩
        · have hno : ¬ (k < 1 ∨ 3 < k ∨ isRepB f = false ∨ isRepB t = false ∨ f = t) := by
            rw [f3, g3]; rintro (h | h | h | h | h)
            · omega
            · omega
            · cases h
            · cases h
            · exact hft h
          have t1 := bneb_ f t hft
          by_cases hl : 65536 < len
          · have E := Lib.hid (show chk k f t len = 6 by unfold chk; rw [if_neg hno, if_pos hl])
            clear g3 f3 hft hno
            rcases hk3 with rfl | rfl | rfl
            all_goals
              clear hk
              go_enter Try.func10, Try.ntmps10
              go_wp2
              go_returns
              exact ⟨by rw [E.out]; rfl, B.out⟩
          · have E := Lib.hid (show chk k f t len = 0 by unfold chk; rw [if_neg hno, if_neg hl])
            clear g3 f3 hft hno
            rcases hk3 with rfl | rfl | rfl
            all_goals
              clear hk
              go_enter Try.func10, Try.ntmps10
              go_wp2
              go_returns
              exact ⟨by rw [E.out]; rfl, B.out⟩

set_option maxRecDepth 100000 in
set_option maxHeartbeats 800000 in
theorem to_any (w : World) (k f t : Int) (ao : Option Addr) (len cap : Nat) :
    Calls Try.prog 9 #[.agg #[.int .i64 k, .int .i64 f, .int .i64 t, .slice ao len cap]] w fun e w' => e = .returned (.agg #[.int .i64 k, .int .i64 f, .int .i64 t, .slice ao len cap]) ∧ Below w.heap.size w w' := by
  go_enter Try.func9, Try.ntmps9
  go_wp2
  exact bodyPost_ret (v := .agg #[.int .i64 k, .int .i64 f, .int .i64 t, .slice ao len cap]) (by simp [results, Try.results9, go_sem]) rfl ⟨rfl, ((Below.refl _ _).alloc (Nat.le_refl _) _).alloc (by simp) _⟩
end Go.Proofs.Ytlhicojbpjdbaaa
