/- A table: New, made, Len, Set, Get. -/
import Derived.Test.YthbmbpnpigpgpaaTB
import Derived.Test.YthbmbpnpigpgpaaOwn
import Derived.Test.YthbmbpnpigpgpaaLater
import Derived.Handy
import Derived.Carry
import Derived.ProofKit
import Derived.Lib.Walk
import Derived.Lib.Hide
import Derived.RegionTactic
import Derived.LoopTactic
import Derived.WalkSpells
import Derived.Deep.RegionHeld3
import Derived.Deep.Cut
import Derived.Deep.CutRange
import Derived.Deep.CutBlock
import Derived.Deep.QuietTactic
import Derived.StillTailTactics
set_option linter.unusedVariables false
set_option maxRecDepth 100000
namespace Go.Proofs.Ythbmbpnpigpgpaa
open Go.RowKit Go.WideMaps Go.Maps

theorem ne59 (w : World) (m : Option Nat) : (binOp BinOp.neq 99 (.map m) (.map none)).run Try.prog w = .ok (.bool (!m.isNone)) w := run_neq_map_nil w _ _ _ m Try.underlying99
/-- The table at block p: its map at block b, which holds l. -/
structure TabI (w : World) (p b : Nat) (l : List Rw) : Prop where
  box : w.heap[p]? = some (.cells #[.map (some b)] 101 (0, 0))
  map : TM w b l
theorem lt_of_block {w : World} {b : Nat} {o : Obj} (h : w.heap[b]? = some o) : b < w.heap.size := (Array.getElem?_eq_some_iff.1 h).1
theorem vstep (W : World) (o : Obj) : Below W.heap.size W (W.alloc o) := (Below.refl _ _).alloc (Nat.le_refl _) _
theorem TabI.plt {w : World} {p b : Nat} {l : List Rw} (h : TabI w p b l) : p < w.heap.size := lt_of_block h.box
theorem TabI.blt {w : World} {p b : Nat} {l : List Rw} (h : TabI w p b l) : b < w.heap.size := h.map.lt
theorem TabI.ne {w : World} {p b : Nat} {l : List Rw} (h : TabI w p b l) : p ≠ b := by
  intro e
  obtain ⟨es, h1, _⟩ := h.map
  obtain ⟨es', c, hb, _⟩ := h1
  rw [← e, h.box] at hb
  cases hb
theorem TabI.step {w w' : World} {p b : Nat} {l : List Rw} (h : TabI w p b l) (hb : Below w.heap.size w w') : TabI w' p b l := ⟨(hb.block p h.plt).trans h.box, h.map.step hb⟩
theorem TabI.grown {w w' : World} {p b : Nat} {l : List Rw} {row : Option Nat} (h : TabI w p b l) (hg : w.grownBy w' row) (hp : some p ≠ row) (hb : some b ≠ row) : TabI w' p b l := ⟨(hg.block p h.plt hp).trans h.box, h.map.grown hg hb⟩
theorem TabI.cell {w : World} {p b : Nat} {l : List Rw} (h : TabI w p b l) : w.cell? ⟨p, 0, none⟩ = some (.map (some b)) := cell_of_one h.box
set_option maxHeartbeats 400000 in
theorem new_any (w : World) : Calls Try.prog 40 #[] w fun e w' => ∃ p b, e = .returned (.pointer (some ⟨p, 0, none⟩)) ∧ TabI w' p b [] ∧ w.heap.size ≤ p ∧ w.heap.size ≤ b ∧ Below w.heap.size w w' := by
  have hmm := @run_makeMap Try.prog
  go_enter Try.func40, Try.ntmps40
  go_wp2

  go_returns
  refine ⟨_, w.heap.size, rfl, ⟨by have := heap_alloc_new (w.alloc (.map #[] 0)) (.cells #[.map (some w.heap.size)] 101); rwa [World.size_alloc] at this, (TM.made w).step (vstep _ _)⟩, ?_, ?_, ?_⟩
  · simp
  · simp
  · exact (vstep w _).trans ((vstep _ _).mono (vstep w _).size)
set_option maxHeartbeats 400000 in
theorem made_any (w : World) (p b : Nat) (l : List Rw) (h : TabI w p b l) : Calls Try.prog 51 #[.pointer (some ⟨p, 0, none⟩)] w fun e w' => e = .returned (.bool true) ∧ w = w' := by
  have c0 := h.cell
  clear h
  have n59 := fun W m => ne59 W m
  go_enter Try.func51, Try.ntmps51
  go_wp2
  go_returns
  exact ⟨rfl, rfl⟩
set_option maxHeartbeats 400000 in
theorem len_any (w : World) (p b : Nat) (l : List Rw) (h : TabI w p b l) : Calls Try.prog 37 #[.pointer (some ⟨p, 0, none⟩)] w fun e w' => e = .returned (.int .i64 (l.length : Int)) ∧ w = w' := by
  have M := Lib.hid (made_any w p b l h)
  have c0 := h.cell
  have hl := h.map.len
  clear h
  go_enter Try.func37, Try.ntmps37
  go_wp2_with fail
  refine M.out.mono ?_
  rintro e w1 ⟨rfl, rfl⟩
  go_wp2
  go_returns
  exact ⟨rfl, rfl⟩
end Go.Proofs.Ythbmbpnpigpgpaa

