/- A disk that is none: what each function tells. Made by genb10.py. -/
import Derived.Test.YtoddofcmdbifpaaDA
import Derived.Test.YtoddofcmdbifpaaOwn
import Derived.Test.YtoddofcmdbifpaaLater
import Derived.Handy
import Derived.Carry
import Derived.ProofKit
import Derived.Lib.Walk
import Derived.Lib.Hide
import Derived.RegionTactic
import Derived.LoopTactic
import Derived.WalkSpells
import Derived.Deep.RegionHeld3
import Derived.Deep.Cut
import Derived.Deep.CutRange
import Derived.Deep.CutBlock
import Derived.Deep.QuietTactic
import Derived.StillTailTactics
set_option linter.unusedVariables false
set_option linter.unusedSimpArgs false
set_option maxRecDepth 100000
namespace Go.Proofs.Ytoddofcmdbifpaa
open Go.RowKit Go.WideMaps Go.Maps

theorem lt_of_block {w : World} {b : Nat} {o : Obj} (h : w.heap[b]? = some o) : b < w.heap.size := (Array.getElem?_eq_some_iff.1 h).1
theorem vstep (W : World) (o : Obj) : Below W.heap.size W (W.alloc o) := (Below.refl _ _).alloc (Nat.le_refl _) _
theorem row_setC {w : World} {b j : Nat} {c : Array Value} {t : TypeId} {fz : Nat × Nat} {u : Value} (h : w.heap[b]? = some (.cells c t fz)) : (w.setCell ⟨b, j, none⟩ u).heap[b]? = some (.cells (c.setIfInBounds j u) t fz) := by
  have hlt := lt_of_block h
  simp only [World.setCell, Array.getElem?_modify, h, if_true]
  rfl
/-- A file's box. -/
def FB (w : World) (g : Nat) (v : Value) (s : Int) : Prop := w.heap[g]? = some (.cells #[v, .int .i64 s] 69 (0, 0))
theorem FB.step {w w' : World} {g : Nat} {v : Value} {s : Int} (h : FB w g v s) (hb : Below w.heap.size w w') : FB w' g v s := (hb.block g (lt_of_block h)).trans h
theorem FB.keep {w w' : World} {E g : Nat} {v : Value} {s : Int} (h : FB w g v s) (hb : Below E w w') (hg : g < E) : FB w' g v s := (hb.block g hg).trans h
theorem FB.new (w : World) (v : Value) (s : Int) : FB (w.alloc (.cells #[v, .int .i64 s] 69)) w.heap.size v s := heap_alloc_new w _
theorem FB.cells {w : World} {g : Nat} {v : Value} {s : Int} (h : FB w g v s) : w.cell? ⟨g, 0, none⟩ = some v ∧ w.cell? ⟨g, 1, none⟩ = some (.int .i64 s) := by
  refine ⟨?_, ?_⟩ <;> (rw [cell_of_row _ _ _ _ _ _ h]; rfl)
theorem FB.free {w : World} {g : Nat} {v : Value} {s : Int} (h : FB w g v s) : w.frozen? ⟨g, 0, none⟩ = false ∧ w.frozen? ⟨g, 1, none⟩ = false :=
  ⟨frozen_of_row _ _ _ _ _ h, frozen_of_row _ _ _ _ _ h⟩
def sets2 (w : World) (b : Nat) (x y : Value) : World := (w.setCell ⟨b, 0, none⟩ x).setCell ⟨b, 1, none⟩ y
theorem sets2_row {w : World} {b : Nat} {x : Value} {y : Int} {x' : Value} {y' : Int} (h : FB w b x y) : FB (sets2 w b x' (.int .i64 y')) b x' y' := by
  unfold sets2 FB at *
  exact row_setC (j := 1) (u := .int .i64 y') (row_setC (j := 0) (u := x') h)
theorem sets2_below {w w1 : World} {B b : Nat} {x y : Value} (h : Below B w w1) (hb : B ≤ b) : Below B w (sets2 w1 b x y) :=
  (h.setCell (p := ⟨b, 0, none⟩) hb _).setCell (p := ⟨b, 1, none⟩) hb _

theorem ready_nil (w : World) : Calls Try.prog 42 #[.pointer none] w fun e w' => e = .returned (.int .i64 1) ∧ w = w' := by
  go_enter Try.func42, Try.ntmps42
  go_wp2
  go_returns
  exact ⟨rfl, rfl⟩
theorem down_nil (w : World) : Calls Try.prog 12 #[.pointer none] w fun e w' => e = .returned (.bool false) ∧ w = w' := by
  go_enter Try.func12, Try.ntmps12
  go_wp2
  go_returns
  exact ⟨rfl, rfl⟩
theorem arm_nil (w : World) (n : Int) : Calls Try.prog 18 #[.pointer none, .int .i64 n] w fun e w' => e = .returned (.tuple #[]) ∧ w = w' := by
  go_enter Try.func18, Try.ntmps18
  go_wp2
  go_returns
  exact ⟨rfl, rfl⟩
theorem sure_nil (w : World) (s : ByteArray) : Calls Try.prog 19 #[.pointer none, .string s] w fun e w' => e = .returned (.int .i64 0) ∧ w = w' := by
  go_enter Try.func19, Try.ntmps19
  go_wp2
  go_returns
  exact ⟨rfl, rfl⟩
theorem used_nil (w : World) : Calls Try.prog 24 #[.pointer none] w fun e w' => e = .returned (.int .i64 0) ∧ w = w' := by
  go_enter Try.func24, Try.ntmps24
  go_wp2
  go_returns
  exact ⟨rfl, rfl⟩
theorem free_nil (w : World) : Calls Try.prog 25 #[.pointer none] w fun e w' => e = .returned (.int .i64 0) ∧ w = w' := by
  go_enter Try.func25, Try.ntmps25
  go_wp2
  go_returns
  exact ⟨rfl, rfl⟩
theorem names_nil (w : World) : Calls Try.prog 23 #[.pointer none] w fun e w' => e = .returned (.slice none 0 0) ∧ w = w' := by
  go_enter Try.func23, Try.ntmps23
  go_wp2
  go_returns
  exact ⟨rfl, rfl⟩
theorem boot_nil (w : World) (v : Value) : Calls Try.prog 14 #[.pointer none, v] w fun e w' => e = .returned (.tuple #[]) ∧ w = w' := by
  have D := Lib.hid (down_nil w)
  go_enter Try.func14, Try.ntmps14
  go_wp2_with fail
  refine D.out.mono ?_
  rintro e w1 ⟨rfl, rfl⟩
  go_wp2
  go_returns
  exact ⟨rfl, rfl⟩
set_option maxHeartbeats 800000 in
theorem find_nil (w : World) (s : ByteArray) : Calls Try.prog 32 #[.pointer none, .string s] w fun e w' => e = .returned (.tuple #[f0v, .int .i64 1]) ∧ Below w.heap.size w w' := by
  have B1 := vstep w (.cells #[.slice none 0 0, .int .i64 0] 69)
  have E1 := Lib.hid (FB.new w (.slice none 0 0) 0)
  obtain ⟨W0, hW0⟩ : ∃ y, w.alloc (.cells #[.slice none 0 0, .int .i64 0] 69) = y := ⟨_, rfl⟩
  rw [hW0] at B1 E1
  have B := Lib.hid B1
  have HW := Lib.hid hW0
  have R := Lib.hid (ready_nil W0)
  clear B1 hW0
  go_enter Try.func32, Try.ntmps32
  go_upto_region 1 with (fail)
  rw [HW.out]
  go_wp2_with fail
  refine R.out.mono ?_
  rintro e w1 ⟨rfl, rfl⟩
  obtain ⟨e0, e1⟩ := E1.out.cells
  obtain ⟨f0, f1⟩ := E1.out.free
  go_wp2
  obtain ⟨w5, hW5⟩ : ∃ w5, sets2 W0 w.heap.size (.slice none 0 0) (.int .i64 0) = w5 := ⟨_, rfl⟩
  have hb5 := sets2_row (x' := .slice none 0 0) (y' := 0) E1.out
  have hw5 := sets2_below (x := .slice none 0 0) (y := .int .i64 0) B.out (Nat.le_refl _)
  rw [hW5] at hb5 hw5
  unfold sets2 at hW5
  rw [hW5]
  clear hW5 e0 e1 f0 f1
  obtain ⟨d0, d1⟩ := FB.cells (show FB w5 w.heap.size (.slice none 0 0) 0 from hb5)
  refine bodyPost_ret (by simp [results, Try.results32, go_sem, d0, d1]; try rfl) rfl ?_
  exact ⟨rfl, hw5⟩
set_option maxHeartbeats 800000 in
theorem create_nil (w : World) (s : ByteArray) : Calls Try.prog 11 #[.pointer none, .string s] w fun e w' => e = .returned (.int .i64 1) ∧ Below w.heap.size w w' := by
  have F := Lib.hid (find_nil w s)
  go_enter Try.func11, Try.ntmps11
  go_wp2_with fail
  refine F.out.mono ?_
  rintro e w1 ⟨rfl, hb⟩
  have B2 := Lib.hid hb
  clear hb
  go_wp2
  go_returns
  exact ⟨rfl, B2.out.trans ((vstep w1 _).mono B2.out.size)⟩
set_option maxHeartbeats 800000 in
theorem append_nil (w : World) (s : ByteArray) (v : Value) : Calls Try.prog 13 #[.pointer none, .string s, v] w fun e w' => e = .returned (.int .i64 1) ∧ Below w.heap.size w w' := by
  have F := Lib.hid (find_nil w s)
  go_enter Try.func13, Try.ntmps13
  go_wp2_with fail
  refine F.out.mono ?_
  rintro e w1 ⟨rfl, hb⟩
  have B2 := Lib.hid hb
  clear hb
  go_wp2
  go_returns
  exact ⟨rfl, B2.out.trans ((vstep w1 _).mono B2.out.size)⟩
set_option maxHeartbeats 800000 in
theorem read_nil (w : World) (s : ByteArray) : Calls Try.prog 15 #[.pointer none, .string s] w fun e w' => e = .returned (.tuple #[.slice none 0 0, .int .i64 1]) ∧ Below w.heap.size w w' := by
  have F := Lib.hid (find_nil w s)
  go_enter Try.func15, Try.ntmps15
  go_wp2_with fail
  refine F.out.mono ?_
  rintro e w1 ⟨rfl, hb⟩
  have B2 := Lib.hid hb
  clear hb
  go_wp2
  go_returns
  exact ⟨rfl, B2.out.trans ((vstep w1 _).mono B2.out.size)⟩
set_option maxHeartbeats 800000 in
theorem sync_nil (w : World) (s : ByteArray) : Calls Try.prog 17 #[.pointer none, .string s] w fun e w' => e = .returned (.int .i64 1) ∧ Below w.heap.size w w' := by
  have F := Lib.hid (find_nil w s)
  go_enter Try.func17, Try.ntmps17
  go_wp2_with fail
  refine F.out.mono ?_
  rintro e w1 ⟨rfl, hb⟩
  have B2 := Lib.hid hb
  clear hb
  go_wp2
  go_returns
  exact ⟨rfl, B2.out.trans ((vstep w1 _).mono B2.out.size)⟩
set_option maxHeartbeats 800000 in
theorem cut_nil (w : World) (s : ByteArray) (n : Int) : Calls Try.prog 20 #[.pointer none, .string s, .int .i64 n] w fun e w' => e = .returned (.int .i64 1) ∧ Below w.heap.size w w' := by
  have F := Lib.hid (find_nil w s)
  go_enter Try.func20, Try.ntmps20
  go_wp2_with fail
  refine F.out.mono ?_
  rintro e w1 ⟨rfl, hb⟩
  have B2 := Lib.hid hb
  clear hb
  go_wp2
  go_returns
  exact ⟨rfl, B2.out.trans ((vstep w1 _).mono B2.out.size)⟩
set_option maxHeartbeats 800000 in
theorem rename_nil (w : World) (s t : ByteArray) : Calls Try.prog 21 #[.pointer none, .string s, .string t] w fun e w' => e = .returned (.int .i64 1) ∧ Below w.heap.size w w' := by
  have F := Lib.hid (find_nil w s)
  go_enter Try.func21, Try.ntmps21
  go_wp2_with fail
  refine F.out.mono ?_
  rintro e w1 ⟨rfl, hb⟩
  have B2 := Lib.hid hb
  clear hb
  go_wp2
  go_returns
  exact ⟨rfl, B2.out.trans ((vstep w1 _).mono B2.out.size)⟩
set_option maxHeartbeats 800000 in
theorem remove_nil (w : World) (s : ByteArray) : Calls Try.prog 22 #[.pointer none, .string s] w fun e w' => e = .returned (.int .i64 1) ∧ Below w.heap.size w w' := by
  have F := Lib.hid (find_nil w s)
  go_enter Try.func22, Try.ntmps22
  go_wp2_with fail
  refine F.out.mono ?_
  rintro e w1 ⟨rfl, hb⟩
  have B2 := Lib.hid hb
  clear hb
  go_wp2
  go_returns
  exact ⟨rfl, B2.out.trans ((vstep w1 _).mono B2.out.size)⟩
end Go.Proofs.Ytoddofcmdbifpaa
