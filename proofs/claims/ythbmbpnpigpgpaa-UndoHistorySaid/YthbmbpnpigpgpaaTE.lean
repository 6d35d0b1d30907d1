/- A table: Drop, Above; the ways of no table. -/
import Derived.Test.YthbmbpnpigpgpaaTD
set_option linter.unusedVariables false
set_option maxRecDepth 100000
namespace Go.Proofs.Ythbmbpnpigpgpaa
open Go.RowKit Go.WideMaps Go.Maps

theorem below_grown {w w' : World} (h : Below w.heap.size w w') (row : Option Nat) : w.grownBy w' row := ⟨h.os, h.tape, h.output, h.size, fun k hk _ => h.block k hk⟩
theorem gv_form (l : List Rw) (t r : Int) : ∃ x1 x2 x3 x4, gv l t r = .agg #[.int .i64 x1, .int .i64 x2, .string x3, .bool x4] := by
  unfold gv
  split
  · exact ⟨_, _, _, _, rfl⟩
  · exact ⟨_, _, _, _, rfl⟩
theorem beqb_ (a b : Int) (h : a = b) : (a == b) = true := by simpa using h
theorem bneb_ (a b : Int) (h : a ≠ b) : (a == b) = false := by simpa using h
theorem no2 {a b x y : Int} (h : ¬ (a = x ∧ b = y)) : (a == x) = false ∨ ((a == x) = true ∧ (b == y) = false) := by
  by_cases e : a = x
  · exact .inr ⟨beqb_ a x e, bneb_ b y (fun e2 => h ⟨e, e2⟩)⟩
  · exact .inl (bneb_ a x e)
theorem ret_b' {a b : Bool} (h : b = a) : (Ending.returned (.bool a)) = .returned (.bool b) := by rw [h]
/-- The way up: two stamps' boxes, the table. -/
structure Up (w W : World) (p b : Nat) (l : List Rw) (nt nr t r : Int) : Prop where
  bel : Below w.heap.size w W
  tab : TabI W p b l
  one : StAt W w.heap.size nt nr
  two : StAt W (w.heap.size + 1) t r
theorem Up.step {w W W' : World} {p b : Nat} {l : List Rw} {nt nr t r : Int} (h : Up w W p b l nt nr t r) (hb : Below W.heap.size W W') : Up w W' p b l nt nr t r := ⟨h.bel.trans (hb.mono h.bel.size), h.tab.step hb, h.one.step hb, h.two.step hb⟩
theorem StAt.free {w : World} {g : Nat} {t r : Int} (h : StAt w g t r) : w.frozen? ⟨g, 0, none⟩ = false ∧ w.frozen? ⟨g, 1, none⟩ = false := ⟨frozen_of_row _ _ _ _ _ h, frozen_of_row _ _ _ _ _ h⟩
def sets2 (w : World) (b : Nat) (x y : Value) : World := (w.setCell ⟨b, 0, none⟩ x).setCell ⟨b, 1, none⟩ y
theorem Up.set {w W : World} {p b : Nat} {l : List Rw} {nt nr t r : Int} (h : Up w W p b l nt nr t r) (hp : p < w.heap.size) (hb : b < w.heap.size) (t' r' : Int) : Up w (sets2 W (w.heap.size + 1) (.int .i64 t') (.int .i64 r')) p b l nt nr t' r' := by
  have k : Below (w.heap.size + 1) W (sets2 W (w.heap.size + 1) (.int .i64 t') (.int .i64 r')) := ((Below.refl _ W).setCell (p := ⟨w.heap.size + 1, 0, none⟩) (Nat.le_refl _) _).setCell (p := ⟨w.heap.size + 1, 1, none⟩) (Nat.le_refl _) _
  have kg : W.grownBy (sets2 W (w.heap.size + 1) (.int .i64 t') (.int .i64 r')) (some (w.heap.size + 1)) := ⟨k.os, k.tape, k.output, k.size, fun i _ hi => by
    unfold sets2
    rw [Below.heap_setCell _ _ _ _ (fun e => hi (by rw [e])), Below.heap_setCell _ _ _ _ (fun e => hi (by rw [e]))]⟩
  refine ⟨h.bel.trans (k.mono (by omega)), h.tab.grown kg (fun e => by injection e; omega) (fun e => by injection e; omega), (k.block _ (by omega)).trans h.one, ?_⟩
  exact row_setC (j := 1) (u := .int .i64 r') (row_setC (j := 0) (u := .int .i64 t') h.two)
end Go.Proofs.Ythbmbpnpigpgpaa

