/- A step undone; the log undone from its end: back. -/
import Derived.Test.YtbeodechhneeeaaGreatDoorPL
import Derived.Test.YtbeodechhneeeaaGreatDoorTOwn
import Derived.Test.YtbeodechhneeeaaGreatDoorProg
import Derived.Test.YtbeodechhneeeaaGreatDoorDR
import Derived.Test.YtbeodechhneeeaaGreatDoorEM
import Derived.RangeFuncFrom
import Derived.RegionIn
import Derived.LoopNIn
import Derived.LoopIn
import Derived.TacticsInMore
import Derived.RangeFuncNested
import Derived.RangeFuncBound
import Derived.RangeFuncCalls
import Derived.RangeFuncLeaves
import Derived.Shelf.Abstract
import Derived.Shelf.RegionOpen
import Derived.Lib.Overlaps
import Derived.Lib.AppendZeros
import Derived.Lib.JoinLaws
import Derived.Laws.Externs
import Derived.Laws.IdiomCopy
import Derived.Laws.CopyRow
import Derived.Deep.RegionLaw
import Derived.Shelf.RegionOpenPlain
import Derived.Lib.Walk
import Derived.Lib.Hide
import Derived.Handy
import Derived.Lib.AppendZerosOnto
import Derived.Laws.NewBlocks
set_option linter.unusedVariables false
set_option linter.unusedSimpArgs false
set_option maxRecDepth 100000
namespace Go.Proofs.YtbeodechhneeeaaGreatDoor
open Go.RowKit Go.Shelf Go.Lib
open Tb (Rw setF dropF getF aboveF Rise TabI TM LiesK TOut)
attribute [local go_sem] Oper.semAt_some

def Stp.ok (s : Stp) : Prop := Tb.I64 s.o.nt ∧ Tb.I64 s.o.nr ∧ Tb.I64 s.wt ∧ Tb.I64 s.wr
theorem slice_tailK {α : Type} {enc : α → List Value} {k : Nat} {t : TypeId} (ht : Tryz.prog.underlying t = some (.slice (Tryz.prog.elem t))) (hz : ∀ W, (Go.sizeOf (Tryz.prog.elem t)).run Tryz.prog W = .ok k W) {w : World} {ra : Option Addr} {n rc at_ : Nat} {l : List α} (h : LiesK enc k w (.slice ra n rc) l) (hat : at_ ≤ n) :
    ∃ A, (∀ W, (Instr.slice t (.slice ra n rc) (some (.int .i64 (at_ : Int))) none none).run Tryz.prog W = .ok (.slice A (n - at_) (rc - at_)) W) ∧ LiesK enc k w (.slice A (n - at_) (rc - at_)) (l.drop at_) := by
  refine ⟨if rc = at_ then ra else ra.map (·.add (at_ * k)), fun W => ?_, ?_⟩
  · rw [run_slice_l (P := Tryz.prog) (ht := ht) (h0 := by omega) (h1 := by omega), hz W]
    show Result.ok _ _ = Result.ok (Value.slice (if rc = at_ then ra else ra.map (·.add (at_ * k))) (n - at_) (rc - at_)) W
    rfl
  · obtain ⟨ao, cap, e, h1, h2, h3, h4⟩ := h
    injection e with e1 e2 e3
    subst e1 e2 e3
    have hdl : (l.drop at_).length = l.length - at_ := List.length_drop
    by_cases hrc : rc = at_
    · rw [if_pos hrc]
      have e0 : l.drop at_ = [] := List.eq_nil_of_length_eq_zero (by omega)
      rw [e0]
      exact ⟨_, _, by rw [show l.length - at_ = 0 by omega]; rfl, Nat.zero_le _, by omega, (fun e => ⟨rfl, by omega⟩), fun b hb hne => absurd rfl hne⟩
    · rw [if_neg hrc]
      refine ⟨_, rc - at_, by rw [hdl], by rw [hdl]; omega, by omega, fun e => ?_, fun b hb hne => ?_⟩
      · cases ra with
        | none => have := h3 rfl; exact ⟨by rw [this.1]; simp, by omega⟩
        | some b => cases e
      · cases ra with
        | none => cases hb
        | some b0 =>
          obtain ⟨g, o, rfl, hg, hc⟩ := h4 b0 rfl (fun e => hne (by rw [e]; simp))
          injection hb with hb
          subst hb
          refine ⟨g, o + at_ * k, by show (⟨g, o, none⟩ : Addr).add (at_ * k) = _; rw [Tb.rk_addr], hg, fun j p hj i u hu => ?_⟩
          rw [List.getElem?_drop] at hj
          have := hc _ p hj i u hu
          rw [show o + at_ * k + j * k = o + (at_ + j) * k by rw [Nat.add_mul]; omega]
          exact this
theorem ncells_ne {W : World} {k r : Nat} {c : Array Value} {t : TypeId} {f : Nat × Nat} (h : W.heap[k]? = some (.cells c t f)) {o : Obj} (ho : W.heap[r]? = some o) (hc : o.isCells = false) : k ≠ r := fun e => by
  rw [e, ho] at h; injection h with h; subst h; cases hc
end Go.Proofs.YtbeodechhneeeaaGreatDoor


