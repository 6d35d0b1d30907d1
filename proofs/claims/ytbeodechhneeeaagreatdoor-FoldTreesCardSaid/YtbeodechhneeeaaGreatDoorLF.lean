/- TreeLoops, plain: no loop; an op that sets its own node stays. -/
import Derived.Test.YtbeodechhneeeaaGreatDoorEG
import Derived.Test.YtbeodechhneeeaaGreatDoorEH
set_option linter.unusedVariables false
set_option linter.unusedSimpArgs false
set_option maxRecDepth 100000
namespace Go.Proofs.YtbeodechhneeeaaGreatDoor
open Go.RowKit
open Tb (Rw setF dropF getF aboveF Rise TabI TM LiesK ltS)

theorem ix30 {g k n c i : Nat} (hi : i < n) (W : World) : (Instr.indexAt 22 (.slice (some ⟨g, k, none⟩) n c) (.int .i64 (i : Int))).run Tryz.prog W = .ok (.pointer (some ⟨g, k + i * 9, none⟩)) W := by
  have h0 : (0 : Int) ≤ (i : Int) := by omega
  have h1 : (i : Int) < (n : Int) := by omega
  go_simp
theorem ix52 {g k n c i : Nat} (hi : i < n) (W : World) : (Instr.indexAt 34 (.slice (some ⟨g, k, none⟩) n c) (.int .i64 (i : Int))).run Tryz.prog W = .ok (.pointer (some ⟨g, k + i * 2, none⟩)) W := by
  have h0 : (0 : Int) ≤ (i : Int) := by omega
  have h1 : (i : Int) < (n : Int) := by omega
  go_simp
theorem ld24 {W : World} {g o : Nat} {a b : Int} (c0 : W.cell? ⟨g, o, none⟩ = some (.int .i64 a)) (c1 : W.cell? ⟨g, o + 1, none⟩ = some (.int .i64 b)) : (Instr.loadAt 31 (.pointer (some ⟨g, o, none⟩))).run Tryz.prog W = .ok (.agg #[.int .i64 a, .int .i64 b]) W := by
  go_simp
theorem eq24 (a b x y : Int) (W : World) : (binOp .eql 31 (.agg #[.int .i64 a, .int .i64 b]) (.agg #[.int .i64 x, .int .i64 y])).run Tryz.prog W = .ok (.bool (decide (a = x ∧ b = y))) W := by
  by_cases h : a = x ∧ b = y
  · obtain ⟨u1, u2⟩ := yes2 h
    rw [decide_eq_true h]
    go_simp
  · rw [decide_eq_false h]
    rcases no2 h with u | ⟨u1, u2⟩
    · go_simp
    · go_simp
theorem yields_bin {ops : Array Oper} {S : World → Prop} {op : Oper} {a : Act} (b : BinOp) (x y : Operand) (ty ty' : TypeId) (v u r : Value) (hS : ∀ w, (binOp b ty v u).run Tryz.prog w = .ok r w) (hG : ∀ w, (eqGuard b ty x y v u).run Tryz.prog w = .ok () w) (hw : Region.wanted op (yielded ops a.tmps) = true) (ho : op.op = .binOp b ty x y ty')
    (hx : a.eval x = v) (hy : a.eval y = u) : YieldsIf Tryz.prog ops S op r a :=
  .inl ⟨hw, fun w hw' => by
    unfold execOp
    simp only [ho, hx, hy, hS w, hG w, Sem.run_bind, Sem.run_pure, Result.andThen_ok]⟩
theorem egt24 : (Tryz.prog.eqGuardType Tryz.prog.depth 31) = false := by kernel_rfl
theorem g24 (x y : Operand) (a b : Array Value) (w : World) : (eqGuard .eql 31 x y (.agg a) (.agg b)).run Tryz.prog w = .ok () w := run_eqGuard_agg w .eql 31 x y _ _ egt24
end Go.Proofs.YtbeodechhneeeaaGreatDoor


