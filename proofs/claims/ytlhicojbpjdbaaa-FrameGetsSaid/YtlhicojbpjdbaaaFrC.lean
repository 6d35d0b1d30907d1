/- Put of a frame that may not be; Get of both. -/
import Derived.Test.YtlhicojbpjdbaaaFrB
import Derived.Test.YtlhicojbpjdbaaaSumE
import Derived.Test.YtlhicojbpjdbaaaSumF
set_option linter.unusedVariables false
namespace Go.Proofs.Ytlhicojbpjdbaaa
open Go.RowKit

set_option maxRecDepth 100000 in
set_option maxHeartbeats 800000 in
theorem put_err (w : World) (k f t : Int) (ao : Option Addr) (len cap : Nat) (hc : chk k f t len ≠ 0) :
    Calls Try.prog 8 #[.agg #[.int .i64 k, .int .i64 f, .int .i64 t, .slice ao len cap]] w fun e w' => e = .returned (.tuple #[.slice none 0 0, .int .i64 (chk k f t len)]) ∧ Below w.heap.size w w' := by
  have HX := Lib.hid ((Below.refl w.heap.size w).alloc (Nat.le_refl _) (.cells #[.int .i64 k, .int .i64 f, .int .i64 t, .slice ao len cap] 29))
  have C := Lib.hid (fun W => check_any W k f t ao len cap)
  generalize chk k f t len = c at *
  go_enter Try.func8, Try.ntmps8
  go_wp2_with fail
  refine (C.out _).mono ?_
  rintro e w1 ⟨rfl, hb1⟩
  have B1 := Lib.hid (HX.out.trans (hb1.mono HX.out.size))
  clear hb1
  go_wp2
  go_returns
  exact ⟨rfl, B1.out⟩

set_option maxRecDepth 100000 in
set_option maxHeartbeats 800000 in
theorem get_short (w : World) (v : Value) (bs : List Nat) (h : Lies w v bs) (hl : bs.length < 8) :
    Calls Try.prog 12 #[v] w fun e w' => e = .returned (.tuple #[.agg #[.int .i64 0, .int .i64 0, .int .i64 0, .slice none 0 0], .int .i64 3]) ∧ Below w.heap.size w w' := by
  obtain ⟨ao, cap, rfl, _⟩ := h
  go_enter Try.func12, Try.ntmps12
  go_wp2
  go_returns
  exact ⟨rfl, (Below.refl _ _).alloc (Nat.le_refl _) _⟩

/-- Four stores to a box. -/
def sets (w : World) (b : Nat) (x y z v : Value) : World := (((w.setCell ⟨b, 0, none⟩ x).setCell ⟨b, 1, none⟩ y).setCell ⟨b, 2, none⟩ z).setCell ⟨b, 3, none⟩ v
theorem sets_row {w : World} {b : Nat} {x y z v x' y' z' v' : Value} (h : w.heap[b]? = some (.cells #[x, y, z, v] 29 (0, 0))) : (sets w b x' y' z' v').heap[b]? = some (.cells #[x', y', z', v'] 29 (0, 0)) := by
  unfold sets
  have k := row_setC (j := 3) (u := v') (row_setC (j := 2) (u := z') (row_setC (j := 1) (u := y') (row_setC (j := 0) (u := x') h)))
  exact k
theorem sets_below {w w1 : World} {B b : Nat} {x y z v : Value} (h : Below B w w1) (hb : B ≤ b) : Below B w (sets w1 b x y z v) :=
  (((h.setCell (p := ⟨b, 0, none⟩) hb _).setCell (p := ⟨b, 1, none⟩) hb _).setCell (p := ⟨b, 2, none⟩) hb _).setCell (p := ⟨b, 3, none⟩) hb _
theorem box_cells {w : World} {b : Nat} {x y z v : Value} (h : w.heap[b]? = some (.cells #[x, y, z, v] 29 (0, 0))) :
    (w.cell? ⟨b, 0, none⟩ = some x ∧ w.cell? ⟨b, 1, none⟩ = some y ∧ w.cell? ⟨b, 2, none⟩ = some z ∧ w.cell? ⟨b, 3, none⟩ = some v) ∧
    (w.frozen? ⟨b, 0, none⟩ = false ∧ w.frozen? ⟨b, 1, none⟩ = false ∧ w.frozen? ⟨b, 2, none⟩ = false ∧ w.frozen? ⟨b, 3, none⟩ = false) := by
  refine ⟨⟨?_, ?_, ?_, ?_⟩, frozen_of_row _ _ _ _ _ h, frozen_of_row _ _ _ _ _ h, frozen_of_row _ _ _ _ _ h, frozen_of_row _ _ _ _ _ h⟩ <;> (rw [cell_of_row _ _ _ _ _ _ h]; rfl)

set_option maxRecDepth 100000 in
set_option maxHeartbeats 800000 in
theorem get_sum (w : World) (v : Value) (bs : List Nat) (h : Lies w v bs) (hb : Byt bs) (hl : 8 ≤ bs.length) (hl2 : bs.length ≤ 200000) (hs : ¬ Sealed bs) :
    Calls Try.prog 12 #[v] w fun e w' => e = .returned (.tuple #[.agg #[.int .i64 0, .int .i64 0, .int .i64 0, .slice none 0 0], .int .i64 5]) ∧ Below w.heap.size w w' := by
  have HX := (Below.refl w.heap.size w).alloc (Nat.le_refl _) (.cells #[.int .i64 0, .int .i64 0, .int .i64 0, .slice none 0 0] 29)
  have hbox := heap_alloc_new w (.cells #[.int .i64 0, .int .i64 0, .int .i64 0, .slice none 0 0] 29)
  have R := Lib.hid (open_any _ v bs (h.later HX) hb hl2 false ⟨fun h => (by cases h), fun h => absurd h hs⟩)
  have HX := Lib.hid HX
  have HB := Lib.hid hbox
  have hsz : (w.alloc (.cells #[.int .i64 0, .int .i64 0, .int .i64 0, .slice none 0 0] 29)).heap.size = w.heap.size + 1 := by simp
  obtain ⟨ao, cap, rfl, _⟩ := h
  clear hbox hl2 hb
  go_enter Try.func12, Try.ntmps12
  go_wp2_with fail
  refine R.out.mono ?_
  rintro e w1 ⟨r, rfl, hr⟩
  have B1 := Lib.hid (HX.out.trans (hr.2.mono HX.out.size))
  have hb2 := (hr.2.block w.heap.size (by simp)).trans HB.out
  obtain ⟨⟨c0, c1, c2, c3⟩, f0, f1, f2, f3⟩ := box_cells hb2
  obtain ⟨ra, rc, rfl⟩ := own_shape hr.1
  have HB2 := Lib.hid hb2
  clear hr hb2
  go_wp2
  obtain ⟨W5, hW5⟩ : ∃ W5, sets w1 w.heap.size (.int .i64 0) (.int .i64 0) (.int .i64 0) (.slice none 0 0) = W5 := ⟨_, rfl⟩
  have hb5 := sets_row (x' := .int .i64 0) (y' := .int .i64 0) (z' := .int .i64 0) (v' := .slice none 0 0) HB2.out
  have hw5 := sets_below (x := .int .i64 0) (y := .int .i64 0) (z := .int .i64 0) (v := .slice none 0 0) B1.out (Nat.le_refl _)
  rw [hW5] at hb5 hw5
  unfold sets at hW5
  rw [hW5]
  clear hW5 c0 c1 c2 c3 f0 f1 f2 f3
  obtain ⟨⟨d0, d1, d2, d3⟩, _⟩ := box_cells hb5
  refine bodyPost_ret (by simp [results, Try.results12, go_sem, d0, d1, d2, d3]; try rfl) rfl ?_
  exact ⟨rfl, hw5⟩
end Go.Proofs.Ytlhicojbpjdbaaa
