/- With, Get, a replica. -/
import Derived.Test.YtgemlkccdcbpdaaVE
set_option linter.unusedVariables false
namespace Go.Proofs.Ytgemlkccdcbpdaa
open Go.RowKit

def isB (rep : Int) : Bool := decide (0 ≤ rep ∧ rep < 64)
set_option maxRecDepth 100000 in
theorem is_any (w : World) (rep : Int) : Calls Try.prog 36 #[.int .i64 rep] w fun e w' => e = .returned (.bool (isB rep)) ∧ w = w' := by
  by_cases h1 : 0 ≤ rep
  · by_cases h2 : rep < 64
    · have HE := Lib.hid (show isB rep = true from decide_eq_true ⟨h1, h2⟩)
      go_enter Try.func36, Try.ntmps36
      go_wp2
      go_returns
      exact ⟨by rw [HE.out]; rfl, rfl⟩
    · have HE := Lib.hid (show isB rep = false from decide_eq_false (fun h => h2 h.2))
      go_enter Try.func36, Try.ntmps36
      go_wp2
      go_returns
      exact ⟨by rw [HE.out]; rfl, rfl⟩
  · have HE := Lib.hid (show isB rep = false from decide_eq_false (fun h => h1 h.1))
    go_enter Try.func36, Try.ntmps36
    go_wp2
    go_returns
    exact ⟨by rw [HE.out]; rfl, rfl⟩

def getF (l : List Int) (rep : Int) : Int := if isB rep then l.getD rep.toNat 0 else 0
set_option maxRecDepth 100000 in
theorem get_any (w : World) (l : List Int) (hl : l.length = 64) (rep : Int) : Calls Try.prog 29 #[vw l, .int .i64 rep] w fun e w' => e = .returned (.int .i64 (getF l rep)) ∧ Below w.heap.size w w' := by
  have X := Lib.hid ((Below.refl w.heap.size w).alloc (Nat.le_refl _) (.cells (va l) 34))
  have I := Lib.hid (fun W => is_any W rep)
  have CV := Lib.hid (fun i x (hx : l[i]? = some x) => cell_va (heap_alloc_new w (.cells (va l) 34)) hx)
  cases hb : isB rep with
  | true =>
    have h : 0 ≤ rep ∧ rep < 64 := by simpa [isB] using hb
    obtain ⟨n, rfl⟩ : ∃ n : Nat, rep = (n : Int) := ⟨rep.toNat, by omega⟩
    obtain ⟨x, hx⟩ := va_len l hl n (by omega)
    have g := CV.out n x hx
    have HE := Lib.hid (show getF l (n : Int) = x by unfold getF; rw [hb, if_pos rfl, Int.toNat_natCast, List.getD_eq_getElem?_getD, hx]; rfl)
    rw [hb] at I
    obtain ⟨h0, h1⟩ := h
    clear hb hx hl CV
    unfold vw
    generalize va l = A at *
    go_enter Try.func29, Try.ntmps29
    go_wp2_with fail
    refine (I.out _).mono ?_
    rintro e w1 ⟨rfl, rfl⟩
    go_wp2
    go_returns
    exact ⟨by rw [HE.out]; rfl, X.out⟩
  | false =>
    have HE := Lib.hid (show getF l rep = 0 by unfold getF; rw [hb]; rfl)
    rw [hb] at I
    clear hb CV hl
    unfold vw
    generalize va l = A at *
    go_enter Try.func29, Try.ntmps29
    go_wp2_with fail
    refine (I.out _).mono ?_
    rintro e w1 ⟨rfl, rfl⟩
    go_wp2
    go_returns
    exact ⟨by rw [HE.out]; rfl, X.out⟩

def withF (l : List Int) (rep n : Int) : List Int := if isB rep then l.set rep.toNat n else l
theorem withF_len (l : List Int) (rep n : Int) : (withF l rep n).length = l.length := by unfold withF; split <;> simp
end Go.Proofs.Ytgemlkccdcbpdaa
