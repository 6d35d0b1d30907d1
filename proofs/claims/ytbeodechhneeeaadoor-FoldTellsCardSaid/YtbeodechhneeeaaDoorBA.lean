/- A step undone; the log undone from its end: back. -/
import Derived.Test.YtbeodechhneeeaaDoorPL
import Derived.Test.YtbeodechhneeeaaDoorTOwn
import Derived.Test.YtbeodechhneeeaaDoorProg
import Derived.Test.YtbeodechhneeeaaDoorDR
import Derived.Test.YtbeodechhneeeaaDoorEM
import Derived.RangeFuncFrom
import Derived.RegionIn
import Derived.LoopNIn
import Derived.LoopIn
import Derived.TacticsInMore
import Derived.RangeFuncNested
import Derived.RangeFuncBound
import Derived.RangeFuncCalls
import Derived.RangeFuncLeaves
import Derived.Shelf.Abstract
import Derived.Shelf.RegionOpen
import Derived.Lib.Overlaps
import Derived.Lib.AppendZeros
import Derived.Lib.JoinLaws
import Derived.Laws.Externs
import Derived.Laws.IdiomCopy
import Derived.Laws.CopyRow
import Derived.Deep.RegionLaw
import Derived.Shelf.RegionOpenPlain
import Derived.Lib.Walk
import Derived.Lib.Hide
import Derived.Handy
import Derived.Lib.AppendZerosOnto
import Derived.Laws.NewBlocks
set_option linter.unusedVariables false
set_option linter.unusedSimpArgs false
set_option maxRecDepth 100000
namespace Go.Proofs.YtbeodechhneeeaaDoor
open Go.RowKit Go.Shelf Go.Lib
open Tb (Rw setF dropF getF aboveF Rise TabI TM LiesK TOut)
attribute [local go_sem] Oper.semAt_some

def Stp.ok (s : Stp) : Prop := Tb.I64 s.o.nt ∧ Tb.I64 s.o.nr ∧ Tb.I64 s.wt ∧ Tb.I64 s.wr
theorem slice_tailK {α : Type} {enc : α → List Value} {k : Nat} {t : TypeId} (ht : Tryd.prog.underlying t = some (.slice (Tryd.prog.elem t))) (hz : ∀ W, (Go.sizeOf (Tryd.prog.elem t)).run Tryd.prog W = .ok k W) {w : World} {ra : Option Addr} {n rc at_ : Nat} {l : List α} (h : LiesK enc k w (.slice ra n rc) l) (hat : at_ ≤ n) :
    ∃ A, (∀ W, (Instr.slice t (.slice ra n rc) (some (.int .i64 (at_ : Int))) none none).run Tryd.prog W = .ok (.slice A (n - at_) (rc - at_)) W) ∧ LiesK enc k w (.slice A (n - at_) (rc - at_)) (l.drop at_) := by
  refine ⟨if rc = at_ then ra else ra.map (·.add (at_ * k)), fun W => ?_, ?_⟩
  · rw [run_slice_l (P := Tryd.prog) (ht := ht) (h0 := by omega) (h1 := by omega), hz W]
    show Result.ok _ _ = Result.ok (Value.slice (if rc = at_ then ra else ra.map (·.add (at_ * k))) (n - at_) (rc - at_)) W
    rfl
  · obtain ⟨ao, cap, e, h1, h2, h3, h4⟩ := h
    injection e with e1 e2 e3
    subst e1 e2 e3
    have hdl : (l.drop at_).length = l.length - at_ := List.length_drop
    by_cases hrc : rc = at_
    · rw [if_pos hrc]
      have e0 : l.drop at_ = [] := List.eq_nil_of_length_eq_zero (by omega)
      rw [e0]
      exact ⟨_, _, by rw [show l.length - at_ = 0 by omega]; rfl, Nat.zero_le _, by omega, (fun e => ⟨rfl, by omega⟩), fun b hb hne => absurd rfl hne⟩
    · rw [if_neg hrc]
      refine ⟨_, rc - at_, by rw [hdl], by rw [hdl]; omega, by omega, fun e => ?_, fun b hb hne => ?_⟩
      · cases ra with
        | none => have := h3 rfl; exact ⟨by rw [this.1]; simp, by omega⟩
        | some b => cases e
      · cases ra with
        | none => cases hb
        | some b0 =>
          obtain ⟨g, o, rfl, hg, hc⟩ := h4 b0 rfl (fun e => hne (by rw [e]; simp))
          injection hb with hb
          subst hb
          refine ⟨g, o + at_ * k, by show (⟨g, o, none⟩ : Addr).add (at_ * k) = _; rw [Tb.rk_addr], hg, fun j p hj i u hu => ?_⟩
          rw [List.getElem?_drop] at hj
          have := hc _ p hj i u hu
          rw [show o + at_ * k + j * k = o + (at_ + j) * k by rw [Nat.add_mul]; omega]
          exact this
/-- Between two rounds of back. -/
structure BI (w : World) (p b bx : Nat) (T : List Rw) (v : Value) (D : List Stp) (i : Nat) (W : World) : Prop where
  tab : TabI W p b ((D.drop (D.length - i)).foldr undoF T)
  bel : w.grownBy W (some b)
  box : W.heap[bx]? = some (.cells #[v] 75 (0, 0))
  tb : W.heap[w.heap.size + 1]? = some (.cells #[pv p] 38 (0, 0))
  lies : LiesK stc1 15 W v D
theorem ncells_ne {W : World} {k r : Nat} {c : Array Value} {t : TypeId} {f : Nat × Nat} (h : W.heap[k]? = some (.cells c t f)) {o : Obj} (ho : W.heap[r]? = some o) (hc : o.isCells = false) : k ≠ r := fun e => by
  rw [e, ho] at h; injection h with h; subst h; cases hc
theorem BI.own (w : World) (p b bx B : Nat) (T : List Rw) (v : Value) (D : List Stp) (hb : b < B) (hB : w.heap.size ≤ B) : OwnFrom B (BI w p b bx T v D) := by
  intro i W W' row h hg hr
  have hnb : some b ≠ row := fun e => by have := (hr b e.symm).1; omega
  refine ⟨⟨(hg.block _ h.tab.plt (fun e => ?_)).trans h.tab.box, h.tab.map.grown hg hnb⟩, ?_, (hg.block _ (pl_lt h.box) (fun e => ?_)).trans h.box, (hg.block _ (pl_lt h.tb) (fun e => ?_)).trans h.tb, ?_⟩
  · obtain ⟨_, o, ho, hc⟩ := hr _ e.symm; exact ncells_ne h.tab.box ho hc rfl
  · exact ⟨hg.os.trans h.bel.os, hg.tape.trans h.bel.tape, hg.output.trans h.bel.output, Nat.le_trans h.bel.size hg.size, fun k hk hne => (hg.block k (Nat.lt_of_lt_of_le hk h.bel.size) (fun e => by have := (hr k e.symm).1; omega)).trans (h.bel.block k hk hne)⟩
  · obtain ⟨_, o, ho, hc⟩ := hr _ e.symm; exact ncells_ne h.box ho hc rfl
  · obtain ⟨_, o, ho, hc⟩ := hr _ e.symm; exact ncells_ne h.tb ho hc rfl
  · obtain ⟨ao, cap, h1, h2, h3, h4, h5⟩ := h.lies
    refine ⟨ao, cap, h1, h2, h3, h4, fun a ha hne => ?_⟩
    obtain ⟨g, o, rfl, hgl, hc⟩ := h5 a ha hne
    refine ⟨g, o, rfl, Nat.lt_of_lt_of_le hgl hg.size, fun j s hs i u hu => hg.cell (hc j s hs i u hu) (fun e => ?_)⟩
    obtain ⟨_, ob, ho, hcc⟩ := hr _ e.symm
    have ho : W.heap[g]? = some ob := ho
    have := hc j s hs i u hu
    simp [World.cell?, ho] at this
    cases ob <;> simp_all [Obj.isCells]
end Go.Proofs.YtbeodechhneeeaaDoor

