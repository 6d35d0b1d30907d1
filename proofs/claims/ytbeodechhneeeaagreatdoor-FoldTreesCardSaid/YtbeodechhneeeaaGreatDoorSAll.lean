/- Merged by tools/merge.py: SClock, SNum, SLater, SCut, SParseW, SAwake, SDecMath, SBack, SCmpW, SDigW, SRNumW. -/
import Derived.Test.YtbeodechhneeeaaGreatDoorRows
import Derived.Test.YtbeodechhneeeaaGreatDoorShelf
import Derived.WalkKit
import Derived.WalkSpells
import Derived.Lib.Hide
import Derived.Lib.Walk
import Derived.OneCell
import Derived.LoopTactic
import Derived.Deep.Cut
import Derived.Outline
import Derived.Handy
import Derived.RegionTactic
import Derived.ChangeAlike
import Derived.Laws.RangeAny
import Derived.Lib.OthersKept
import Derived.Lib.DecodeN
import Derived.Below
import Derived.Deep.Quiet
import Derived.BigQuiet
import Derived.Lib.AppendIntMem
import Derived.Lib.IndexLaws
import Derived.Lib.LaidTab
import Derived.Lib.ItoaLen
import Derived.Deep.QuietTactic
set_option linter.unusedVariables false
namespace Go.Proofs.YtbeodechhneeeaaGreatDoor.St
open Go.RowKit

def rT (n : Int) : Bool := decide (1 ≤ n ∧ n ≤ 281474976710656)
def rR (n : Int) : Bool := decide (0 ≤ n ∧ n < 64)
theorem ret_b {a b : Bool} (h : a = b) : Ending.returned (.bool a) = .returned (.bool b) := by rw [h]
set_option maxRecDepth 100000 in
set_option maxHeartbeats 400000 in
theorem rtime_any (w : World) (n : Int) : Calls Tryz.prog 86 #[.int .i64 n] w fun e w' => e = .returned (.bool (rT n)) ∧ w = w' := by
  by_cases h : 1 ≤ n
  · go_enter Tryz.func86, Tryz.ntmps86
    go_wp2
    go_returns
    exact ⟨ret_b (by unfold rT; simp [h]), rfl⟩
  · have h' : decide (1 ≤ n) = false := by simpa using h
    have h'' : n < 1 := by omega
    go_enter Tryz.func86, Tryz.ntmps86
    go_wp2
    go_returns
    exact ⟨ret_b (by unfold rT; simp; omega), rfl⟩
set_option maxRecDepth 100000 in
set_option maxHeartbeats 400000 in
theorem rrep_any (w : World) (n : Int) : Calls Tryz.prog 87 #[.int .i64 n] w fun e w' => e = .returned (.bool (rR n)) ∧ w = w' := by
  by_cases h : 0 ≤ n
  · go_enter Tryz.func87, Tryz.ntmps87
    go_wp2
    go_returns
    exact ⟨ret_b (by unfold rR; simp [h]), rfl⟩
  · have h' : decide (0 ≤ n) = false := by simpa using h
    have h'' : n < 0 := by omega
    go_enter Tryz.func87, Tryz.ntmps87
    go_wp2
    go_returns
    exact ⟨ret_b (by unfold rR; simp; omega), rfl⟩

end Go.Proofs.YtbeodechhneeeaaGreatDoor.St

set_option linter.unusedVariables false
namespace Go.Proofs.YtbeodechhneeeaaGreatDoor.St
open Go.RowKit

theorem neb_ (a b : Int) (h : a ≠ b) : (a != b) = true := by simpa using h
theorem eqb_ (a b : Int) (h : a = b) : (a != b) = false := by simpa using h
end Go.Proofs.YtbeodechhneeeaaGreatDoor.St

set_option linter.unusedVariables false
namespace Go.Proofs.YtbeodechhneeeaaGreatDoor.St
open Go.RowKit

/-- A world in which all that stands in w stands as it did. -/
def Later (w : World) : Type := { w' : World // Below w.heap.size w w' }
def Later.w {w : World} (x : Later w) : World := x.val
theorem Later.below {w : World} (x : Later w) : Below w.heap.size w x.w := x.property
instance (w : World) : Nonempty (Later w) := ⟨⟨w, Below.refl _ _⟩⟩

theorem wp_region_later {P : Program} {id : Nat} {Q : Exit → Act → World → Prop} {a : Act} {w : World} {l : List Oper} (hm : P.follows .mixedOrders = true) (hB : Region.lexB .any l.toArray = true)
    (h : wpQuiet P l.toArray (fun w' => ∃ x : Later w, w' = x.w) (fun a' => ∀ w', (∃ x : Later w, w' = x.w) → Q .normal a' w') l a) : (Code.region id l.toArray true).wp P Q a w :=
  wp_region_quiet (C := fun w' => ∃ x : Later w, w' = x.w) hm hB ⟨⟨_, (Below.refl _ _).drew⟩, rfl⟩ (by simpa using h)

/-- A callee's contract there. -/
theorem later_call {P : Program} {f : FuncId} {args : Array Value} {w : World} {x : Later w} {v : Value}
    (h : Calls P f args x.w fun e w' => e = .returned v ∧ Below x.w.heap.size x.w w') : Calls P f args x.w fun e w'' => e = .returned v ∧ ∃ y : Later w, w'' = y.w :=
  h.mono fun _ w' ⟨he, hb⟩ => ⟨he, ⟨⟨w', x.below.trans (hb.mono x.below.size)⟩, rfl⟩⟩
end Go.Proofs.YtbeodechhneeeaaGreatDoor.St

set_option linter.unusedVariables false
namespace Go.Proofs.YtbeodechhneeeaaGreatDoor.St
open Go.RowKit

theorem later_cell {W : World} {g j : Nat} {c : Array Value} {t : TypeId} {v : Value} (h : W.heap[g]? = some (.cells c t (0, 0))) (hv : c[j]? = some v) : ∀ x : Later W, x.w.cell? ⟨g, j, none⟩ = some v := fun x => by
  rw [x.below.cell (p := ⟨g, j, none⟩) (Array.getElem?_eq_some_iff.1 h).1, cell_of_row _ _ _ _ _ _ h, hv]

end Go.Proofs.YtbeodechhneeeaaGreatDoor.St

set_option linter.unusedVariables false
namespace Go.Proofs.YtbeodechhneeeaaGreatDoor.St
open Go.RowKit

set_option maxRecDepth 100000 in
set_option maxHeartbeats 400000 in
theorem root_any (w : World) : Calls Tryz.prog 88 #[] w fun e w' => e = .returned (.agg #[.int .i64 0, .int .i64 0]) ∧ Below w.heap.size w w' := by
  go_enter Tryz.func88, Tryz.ntmps88
  go_wp2
  refine bodyPost_ret (v := .agg #[.int .i64 0, .int .i64 0]) (by simp [results, Tryz.results88, go_sem]) rfl ⟨rfl, ?_⟩
  exact (Below.refl _ _).alloc (Nat.le_refl _) _
set_option maxRecDepth 100000 in
set_option maxHeartbeats 400000 in
theorem trash_any (w : World) : Calls Tryz.prog 89 #[] w fun e w' => e = .returned (.agg #[.int .i64 0, .int .i64 1]) ∧ Below w.heap.size w w' := by
  go_enter Tryz.func89, Tryz.ntmps89
  go_wp2
  refine bodyPost_ret (v := .agg #[.int .i64 0, .int .i64 1]) (by simp [results, Tryz.results89, go_sem]) rfl ⟨rfl, ?_⟩
  exact (Below.refl _ _).alloc (Nat.le_refl _) _
def rightB (a b : Int) : Bool := rT a && rR b
set_option maxRecDepth 100000 in
set_option maxHeartbeats 400000 in
theorem right_any (w : World) (a b : Int) : Calls Tryz.prog 55 #[.agg #[.int .i64 a, .int .i64 b]] w fun e w' => e = .returned (.bool (rightB a b)) ∧ Below w.heap.size w w' := by
  have C := Lib.hid (fun W => rtime_any W a)
  have D := Lib.hid (fun W => rrep_any W b)
  unfold rightB
  generalize rT a = x at *
  generalize rR b = y at *
  cases x
  · go_enter Tryz.func55, Tryz.ntmps55
    go_wp2_with fail
    refine (C.out _).mono ?_
    rintro e w1 ⟨rfl, rfl⟩
    go_wp2
    go_returns
    exact ⟨rfl, (Below.refl _ _).alloc (Nat.le_refl _) _⟩
  · go_enter Tryz.func55, Tryz.ntmps55
    go_wp2_with fail
    refine (C.out _).mono ?_
    rintro e w1 ⟨rfl, rfl⟩
    go_wp2_with fail
    refine (D.out _).mono ?_
    rintro e w1 ⟨rfl, rfl⟩
    go_wp2
    go_returns
    exact ⟨rfl, (Below.refl _ _).alloc (Nat.le_refl _) _⟩

end Go.Proofs.YtbeodechhneeeaaGreatDoor.St

set_option linter.unusedVariables false
namespace Go.Proofs.YtbeodechhneeeaaGreatDoor.St
open Go.RowKit

end Go.Proofs.YtbeodechhneeeaaGreatDoor.St

set_option linter.unusedVariables false
namespace Go.Proofs.YtbeodechhneeeaaGreatDoor.St
open Go.RowKit

end Go.Proofs.YtbeodechhneeeaaGreatDoor.St

set_option linter.unusedVariables false
namespace Go.Proofs.YtbeodechhneeeaaGreatDoor.St
open Go.RowKit

set_option maxRecDepth 100000 in
set_option maxHeartbeats 800000 in
theorem rright_any (w : World) (a b : Int) : Calls Tryz.prog 77 #[.agg #[.int .i64 a, .int .i64 b]] w fun e w' => e = .returned (.bool (rightB a b)) ∧ Below w.heap.size w w' := by
  have hcase : (a < 1 ∧ rightB a b = false) ∨ (1 ≤ a ∧ 281474976710656 < a ∧ rightB a b = false) ∨ (1 ≤ a ∧ a ≤ 281474976710656 ∧ b < 0 ∧ rightB a b = false) ∨ (1 ≤ a ∧ a ≤ 281474976710656 ∧ 0 ≤ b ∧ 63 < b ∧ rightB a b = false) ∨ (1 ≤ a ∧ a ≤ 281474976710656 ∧ 0 ≤ b ∧ b ≤ 63 ∧ rightB a b = true) := by
    unfold rightB rT rR
    by_cases h1 : 1 ≤ a <;> by_cases h2 : a ≤ 281474976710656 <;> by_cases h3 : 0 ≤ b <;> by_cases h4 : b ≤ 63 <;> simp <;> omega
  rcases hcase with ⟨h1, h⟩ | ⟨h1, h2, h⟩ | ⟨h1, h2, h3, h⟩ | ⟨h1, h2, h3, h4, h⟩ | ⟨h1, h2, h3, h4, h⟩
  all_goals
    have E := Lib.hid h
    clear h
    go_enter Tryz.func77, Tryz.ntmps77
    go_wp2
    go_returns
    exact ⟨ret_b (by first | exact E.out.symm | (rw [E.out]; done) | (rw [E.out]; simp; done) | (rw [E.out]; simp; omega)), (Below.refl _ _).alloc (Nat.le_refl _) _⟩
end Go.Proofs.YtbeodechhneeeaaGreatDoor.St

set_option linter.unusedVariables false
namespace Go.Proofs.YtbeodechhneeeaaGreatDoor.St
open Go.RowKit

def lessB (a1 a2 b1 b2 : Int) : Bool := if a1 = b1 then decide (a2 < b2) else decide (a1 < b1)
def cmpS (a1 a2 b1 b2 : Int) : Int := if a1 = b1 then Lib.compareInt a2 b2 else Lib.compareInt a1 b1
theorem cmp_less (a1 a2 b1 b2 : Int) : (lessB a1 a2 b1 b2 = true ∧ cmpS a1 a2 b1 b2 = -1) ∨ (lessB a1 a2 b1 b2 = false ∧ lessB b1 b2 a1 a2 = true ∧ cmpS a1 a2 b1 b2 = 1) ∨ (lessB a1 a2 b1 b2 = false ∧ lessB b1 b2 a1 a2 = false ∧ cmpS a1 a2 b1 b2 = 0) := by
  unfold lessB cmpS Lib.compareInt
  by_cases h : a1 = b1
  · subst h
    simp only [if_true, decide_eq_true_eq, decide_eq_false_iff_not]
    by_cases h1 : a2 < b2
    · simp [h1]
    · by_cases h2 : b2 < a2
      · first | (simp [h1, h2]; done) | (simp [h1, h2]; omega)
      · first | (simp [h1, h2]; done) | (simp [h1, h2]; omega)
  · have h' : ¬ b1 = a1 := fun e => h e.symm
    simp only [h, h', if_false, decide_eq_true_eq, decide_eq_false_iff_not]
    by_cases h1 : a1 < b1
    · simp [h1]
    · by_cases h2 : b1 < a1
      · first | (simp [h1, h2]; done) | (simp [h1, h2]; omega)
      · omega

set_option maxRecDepth 100000 in
set_option maxHeartbeats 800000 in
theorem less_any (w : World) (a1 a2 b1 b2 : Int) : Calls Tryz.prog 78 #[.agg #[.int .i64 a1, .int .i64 a2], .agg #[.int .i64 b1, .int .i64 b2]] w fun e w' => e = .returned (.bool (lessB a1 a2 b1 b2)) ∧ Below w.heap.size w w' := by
  have E := Lib.hid (show lessB a1 a2 b1 b2 = if a1 = b1 then decide (a2 < b2) else decide (a1 < b1) from rfl)
  have X := Lib.hid (((Below.refl w.heap.size w).alloc (Nat.le_refl _) (.cells #[.int .i64 a1, .int .i64 a2] 31)).alloc (by simp) (.cells #[.int .i64 b1, .int .i64 b2] 31))
  by_cases h : a1 = b1
  · have t1 := eqb_ a1 b1 h
    have H := Lib.hid h
    clear h
    go_enter Tryz.func78, Tryz.ntmps78
    go_wp2
    go_returns
    exact ⟨ret_b (by rw [E.out, if_pos H.out]), X.out⟩
  · have t1 := neb_ a1 b1 h
    have H := Lib.hid h
    clear h
    go_enter Tryz.func78, Tryz.ntmps78
    go_wp2
    go_returns
    exact ⟨ret_b (by rw [E.out, if_neg H.out]), X.out⟩

set_option maxRecDepth 100000 in
set_option maxHeartbeats 800000 in
theorem compare_any (w : World) (a1 a2 b1 b2 : Int) : Calls Tryz.prog 32 #[.agg #[.int .i64 a1, .int .i64 a2], .agg #[.int .i64 b1, .int .i64 b2]] w fun e w' => e = .returned (.int .i64 (cmpS a1 a2 b1 b2)) ∧ Below w.heap.size w w' := by
  have E := Lib.hid (show cmpS a1 a2 b1 b2 = if a1 = b1 then Lib.compareInt a2 b2 else Lib.compareInt a1 b1 from rfl)
  have X := Lib.hid (((Below.refl w.heap.size w).alloc (Nat.le_refl _) (.cells #[.int .i64 a1, .int .i64 a2] 31)).alloc (by simp) (.cells #[.int .i64 b1, .int .i64 b2] 31))
  have C1 := Lib.hid (fun W => Tryz.cmp_Compare_int a1 b1 W)
  have C2 := Lib.hid (fun W => Tryz.cmp_Compare_int a2 b2 W)
  by_cases h : a1 = b1
  · have t1 := eqb_ a1 b1 h
    rw [if_pos h] at E
    clear h
    go_enter Tryz.func32, Tryz.ntmps32
    go_wp2_with fail
    refine (C2.out _).mono ?_
    rintro e w1 ⟨rfl, rfl⟩
    go_wp2
    go_returns
    exact ⟨by rw [E.out]; rfl, X.out⟩
  · have t1 := neb_ a1 b1 h
    rw [if_neg h] at E
    clear h
    go_enter Tryz.func32, Tryz.ntmps32
    go_wp2_with fail
    refine (C1.out _).mono ?_
    rintro e w1 ⟨rfl, rfl⟩
    go_wp2
    go_returns
    exact ⟨by rw [E.out]; rfl, X.out⟩

end Go.Proofs.YtbeodechhneeeaaGreatDoor.St

set_option linter.unusedVariables false
namespace Go.Proofs.YtbeodechhneeeaaGreatDoor.St
open Go.RowKit

end Go.Proofs.YtbeodechhneeeaaGreatDoor.St

set_option linter.unusedVariables false
namespace Go.Proofs.YtbeodechhneeeaaGreatDoor.St
open Go.RowKit

end Go.Proofs.YtbeodechhneeeaaGreatDoor.St





