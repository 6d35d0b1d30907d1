/- Load, New; place; Ops, Did, Base, of any tree whose 'have' is known. Made by genec14.py. -/
import Derived.Test.YtbeodechhneeeaaGreatDoorEA
import Derived.Test.YtbeodechhneeeaaGreatDoorBB
import Derived.Deep.MidRow
set_option linter.unusedVariables false
set_option linter.unusedSimpArgs false
set_option maxRecDepth 100000
namespace Go.Proofs.YtbeodechhneeeaaGreatDoor
open Go.RowKit Go.Shelf
open Tb (Rw setF dropF getF aboveF Rise TabI TM LiesK TOut)
theorem yields_bld {ops : Array Oper} {S : World → Prop} {op : Oper} {a : Act} (ty : TypeId) (ps : Array (Nat × Operand)) (vs : Array (Nat × Value)) (u : Value) (hw : Region.wanted op (yielded ops a.tmps) = true) (ho : op.op = .build ty ps)
    (hv : (ps.toList.map fun (i, x) => (i, a.eval x)).toArray = vs) (hrun : ∀ w, (Instr.build ty vs).run Tryz.prog w = .ok u w) : YieldsIf Tryz.prog ops S op u a :=
  .inl ⟨hw, fun w _ => by
    have hv' : (ps.map fun (i, x) => (i, a.eval x)) = vs := by rw [← hv, ← Array.toList_map, Array.toArray_toList]
    unfold execOp
    simp only [ho, hv', hrun w, Sem.run_bind, Sem.run_pure, Result.andThen_ok]⟩
end Go.Proofs.YtbeodechhneeeaaGreatDoor


