/- A disk that is none: what each function tells. Made by genb10.py. -/
import Derived.Test.YtgbihpfpiaacfaaGreatDoorDA
import Derived.Test.YtgbihpfpiaacfaaGreatDoorOwn
import Derived.Test.YtgbihpfpiaacfaaGreatDoorLater
import Derived.Handy
import Derived.Carry
import Derived.ProofKit
import Derived.Lib.Walk
import Derived.Lib.Hide
import Derived.RegionTactic
import Derived.LoopTactic
import Derived.WalkSpells
import Derived.Deep.RegionHeld3
import Derived.Deep.Cut
import Derived.Deep.CutRange
import Derived.Deep.CutBlock
import Derived.Deep.QuietTactic
import Derived.StillTailTactics
set_option linter.unusedVariables false
set_option linter.unusedSimpArgs false
set_option maxRecDepth 100000
namespace Go.Proofs.YtgbihpfpiaacfaaGreatDoor
open Go.RowKit Go.WideMaps Go.Maps

theorem lt_of_block {w : World} {b : Nat} {o : Obj} (h : w.heap[b]? = some o) : b < w.heap.size := (Array.getElem?_eq_some_iff.1 h).1
theorem vstep (W : World) (o : Obj) : Below W.heap.size W (W.alloc o) := (Below.refl _ _).alloc (Nat.le_refl _) _
theorem row_setC {w : World} {b j : Nat} {c : Array Value} {t : TypeId} {fz : Nat × Nat} {u : Value} (h : w.heap[b]? = some (.cells c t fz)) : (w.setCell ⟨b, j, none⟩ u).heap[b]? = some (.cells (c.setIfInBounds j u) t fz) := by
  have hlt := lt_of_block h
  simp only [World.setCell, Array.getElem?_modify, h, if_true]
  rfl
/-- A file's box. -/
def FB (w : World) (g : Nat) (v : Value) (s : Int) : Prop := w.heap[g]? = some (.cells #[v, .int .i64 s] 82 (0, 0))
theorem FB.step {w w' : World} {g : Nat} {v : Value} {s : Int} (h : FB w g v s) (hb : Below w.heap.size w w') : FB w' g v s := (hb.block g (lt_of_block h)).trans h
theorem FB.keep {w w' : World} {E g : Nat} {v : Value} {s : Int} (h : FB w g v s) (hb : Below E w w') (hg : g < E) : FB w' g v s := (hb.block g hg).trans h
theorem FB.new (w : World) (v : Value) (s : Int) : FB (w.alloc (.cells #[v, .int .i64 s] 82)) w.heap.size v s := heap_alloc_new w _
theorem FB.cells {w : World} {g : Nat} {v : Value} {s : Int} (h : FB w g v s) : w.cell? ⟨g, 0, none⟩ = some v ∧ w.cell? ⟨g, 1, none⟩ = some (.int .i64 s) := by
  refine ⟨?_, ?_⟩ <;> (rw [cell_of_row _ _ _ _ _ _ h]; rfl)
theorem FB.free {w : World} {g : Nat} {v : Value} {s : Int} (h : FB w g v s) : w.frozen? ⟨g, 0, none⟩ = false ∧ w.frozen? ⟨g, 1, none⟩ = false :=
  ⟨frozen_of_row _ _ _ _ _ h, frozen_of_row _ _ _ _ _ h⟩
def sets2 (w : World) (b : Nat) (x y : Value) : World := (w.setCell ⟨b, 0, none⟩ x).setCell ⟨b, 1, none⟩ y
theorem sets2_row {w : World} {b : Nat} {x : Value} {y : Int} {x' : Value} {y' : Int} (h : FB w b x y) : FB (sets2 w b x' (.int .i64 y')) b x' y' := by
  unfold sets2 FB at *
  exact row_setC (j := 1) (u := .int .i64 y') (row_setC (j := 0) (u := x') h)
theorem sets2_below {w w1 : World} {B b : Nat} {x y : Value} (h : Below B w w1) (hb : B ≤ b) : Below B w (sets2 w1 b x y) :=
  (h.setCell (p := ⟨b, 0, none⟩) hb _).setCell (p := ⟨b, 1, none⟩) hb _

end Go.Proofs.YtgbihpfpiaacfaaGreatDoor

