/- Merged by tools/merge.py: TC, TD, TE, TF, TG, TH. -/
import Derived.Test.YtbeodechhneeeaaGreatDoorShelf
import Derived.Test.YtbeodechhneeeaaGreatDoorProg
import Derived.Test.YtbeodechhneeeaaGreatDoorTB
import Derived.Test.YtbeodechhneeeaaGreatDoorTLater
import Derived.Test.YtbeodechhneeeaaGreatDoorTOwn
import Derived.Test.YtbeodechhneeeaaGreatDoorTRk
import Derived.Test.YtbeodechhneeeaaGreatDoorTSrtK
import Derived.Handy
import Derived.Carry
import Derived.ProofKit
import Derived.Lib.Walk
import Derived.Lib.Hide
import Derived.RegionTactic
import Derived.LoopTactic
import Derived.WalkSpells
import Derived.Deep.RegionHeld3
import Derived.Deep.Cut
import Derived.Deep.CutRange
import Derived.Deep.CutBlock
import Derived.Deep.QuietTactic
import Derived.StillTailTactics
import Derived.Shelf.SlSortCmp.NoneTotal
import Derived.Shelf.SlLaysF0
import Derived.Shelf.SlGeneric
import Derived.Ground.SlsfProg
set_option linter.unusedVariables false
set_option maxRecDepth 100000
namespace Go.Proofs.YtbeodechhneeeaaGreatDoor.Tb
open Go.RowKit Go.WideMaps Go.Maps

theorem ne59 (w : World) (m : Option Nat) : (binOp BinOp.neq 84 (.map m) (.map none)).run Tryz.prog w = .ok (.bool (!m.isNone)) w := run_neq_map_nil w _ _ _ m Tryz.underlying84
/-- The table at block p: its map at block b, which holds l. -/
structure TabI (w : World) (p b : Nat) (l : List Rw) : Prop where
  box : w.heap[p]? = some (.cells #[.map (some b)] 86 (0, 0))
  map : TM w b l
theorem lt_of_block {w : World} {b : Nat} {o : Obj} (h : w.heap[b]? = some o) : b < w.heap.size := (Array.getElem?_eq_some_iff.1 h).1
theorem vstep (W : World) (o : Obj) : Below W.heap.size W (W.alloc o) := (Below.refl _ _).alloc (Nat.le_refl _) _
theorem TabI.plt {w : World} {p b : Nat} {l : List Rw} (h : TabI w p b l) : p < w.heap.size := lt_of_block h.box
theorem TabI.blt {w : World} {p b : Nat} {l : List Rw} (h : TabI w p b l) : b < w.heap.size := h.map.lt
theorem TabI.ne {w : World} {p b : Nat} {l : List Rw} (h : TabI w p b l) : p ≠ b := by
  intro e
  obtain ⟨es, h1, _⟩ := h.map
  obtain ⟨es', c, hb, _⟩ := h1
  rw [← e, h.box] at hb
  cases hb
theorem TabI.step {w w' : World} {p b : Nat} {l : List Rw} (h : TabI w p b l) (hb : Below w.heap.size w w') : TabI w' p b l := ⟨(hb.block p h.plt).trans h.box, h.map.step hb⟩
theorem TabI.grown {w w' : World} {p b : Nat} {l : List Rw} {row : Option Nat} (h : TabI w p b l) (hg : w.grownBy w' row) (hp : some p ≠ row) (hb : some b ≠ row) : TabI w' p b l := ⟨(hg.block p h.plt hp).trans h.box, h.map.grown hg hb⟩
theorem TabI.cell {w : World} {p b : Nat} {l : List Rw} (h : TabI w p b l) : w.cell? ⟨p, 0, none⟩ = some (.map (some b)) := cell_of_one h.box
set_option maxHeartbeats 400000 in
theorem new_any (w : World) : Calls Tryz.prog 67 #[] w fun e w' => ∃ p b, e = .returned (.pointer (some ⟨p, 0, none⟩)) ∧ TabI w' p b [] ∧ w.heap.size ≤ p ∧ w.heap.size ≤ b ∧ Below w.heap.size w w' := by
  have hmm := @run_makeMap Tryz.prog
  go_enter Tryz.func67, Tryz.ntmps67
  go_wp2

  go_returns
  refine ⟨_, w.heap.size, rfl, ⟨by have := heap_alloc_new (w.alloc (.map #[] 0)) (.cells #[.map (some w.heap.size)] 86); rwa [World.size_alloc] at this, (TM.made w).step (vstep _ _)⟩, ?_, ?_, ?_⟩
  · simp
  · simp
  · exact (vstep w _).trans ((vstep _ _).mono (vstep w _).size)
set_option maxHeartbeats 400000 in
theorem made_any (w : World) (p b : Nat) (l : List Rw) (h : TabI w p b l) : Calls Tryz.prog 44 #[.pointer (some ⟨p, 0, none⟩)] w fun e w' => e = .returned (.bool true) ∧ w = w' := by
  have c0 := h.cell
  clear h
  have n59 := fun W m => ne59 W m
  go_enter Tryz.func44, Tryz.ntmps44
  go_wp2
  go_returns
  exact ⟨rfl, rfl⟩
set_option maxHeartbeats 400000 in
theorem len_any (w : World) (p b : Nat) (l : List Rw) (h : TabI w p b l) : Calls Tryz.prog 28 #[.pointer (some ⟨p, 0, none⟩)] w fun e w' => e = .returned (.int .i64 (l.length : Int)) ∧ w = w' := by
  have M := Lib.hid (made_any w p b l h)
  have c0 := h.cell
  have hl := h.map.len
  clear h
  go_enter Tryz.func28, Tryz.ntmps28
  go_wp2_with fail
  refine M.out.mono ?_
  rintro e w1 ⟨rfl, rfl⟩
  go_wp2
  go_returns
  exact ⟨rfl, rfl⟩
end Go.Proofs.YtbeodechhneeeaaGreatDoor.Tb


set_option linter.unusedVariables false
set_option maxRecDepth 100000
namespace Go.Proofs.YtbeodechhneeeaaGreatDoor.Tb
open Go.RowKit Go.WideMaps Go.Maps

theorem wpList_tput {w : World} {ops : Array Oper} {rest : List Oper} {o : Oper} {a : Act} {Q : Exit → Act → World → Prop} (hg : o.guard = none) (m x v : Operand) (hop : o.op = Op.mapUpdate 84 m x v) (b : Nat) (l : List Rw) (y : Rw) (hm : a.eval m = .map (some b)) (h : TM w b l) (hl : l.length < 1000000) (hy : y.ok)
    (hx : a.eval x = sv y.t y.r) (hv : a.eval v = ev y.pt y.pr y.nm y.d) (hK : ∀ w', TM w' b (setF l y) → w.grownBy w' (some b) → wpList Tryz.prog ops Q rest (a.put o.dst undef) w') : wpList Tryz.prog ops Q (o :: rest) a w := by
  refine wpList_plain hg fun K' hK' => ?_
  obtain ⟨w', hrun, r1, r2⟩ := h.put hy (by unfold maxLen; omega)
  unfold Oper.wp
  simp [execOp, hop, hm, hx, hv, hrun, Result.andThen]
  exact hK' _ _ (hK w' r1 r2)
/-- A stamp's box, an entry's box. -/
def StAt (w : World) (g : Nat) (t r : Int) : Prop := w.heap[g]? = some (.cells #[.int .i64 t, .int .i64 r] 31 (0, 0))
def EnAt (w : World) (g : Nat) (pt pr : Int) (nm : ByteArray) (d : Bool) : Prop := w.heap[g]? = some (.cells #[.int .i64 pt, .int .i64 pr, .string nm, .bool d] 47 (0, 0))
theorem StAt.step {w w' : World} {g : Nat} {t r : Int} (h : StAt w g t r) (hb : Below w.heap.size w w') : StAt w' g t r := (hb.block g (lt_of_block h)).trans h
theorem EnAt.step {w w' : World} {g : Nat} {pt pr : Int} {nm : ByteArray} {d : Bool} (h : EnAt w g pt pr nm d) (hb : Below w.heap.size w w') : EnAt w' g pt pr nm d := (hb.block g (lt_of_block h)).trans h
theorem StAt.new (w : World) (t r : Int) : StAt (w.alloc (.cells #[.int .i64 t, .int .i64 r] 31)) w.heap.size t r := heap_alloc_new w _
theorem EnAt.new (w : World) (pt pr : Int) (nm : ByteArray) (d : Bool) : EnAt (w.alloc (.cells #[.int .i64 pt, .int .i64 pr, .string nm, .bool d] 47)) w.heap.size pt pr nm d := heap_alloc_new w _
theorem StAt.cells {w : World} {g : Nat} {t r : Int} (h : StAt w g t r) : w.cell? ⟨g, 0, none⟩ = some (.int .i64 t) ∧ w.cell? ⟨g, 1, none⟩ = some (.int .i64 r) := by
  refine ⟨?_, ?_⟩ <;> (rw [cell_of_row _ _ _ _ _ _ h]; rfl)
theorem EnAt.cells {w : World} {g : Nat} {pt pr : Int} {nm : ByteArray} {d : Bool} (h : EnAt w g pt pr nm d) : w.cell? ⟨g, 0, none⟩ = some (.int .i64 pt) ∧ w.cell? ⟨g, 1, none⟩ = some (.int .i64 pr) ∧ w.cell? ⟨g, 2, none⟩ = some (.string nm) ∧ w.cell? ⟨g, 3, none⟩ = some (.bool d) := by
  refine ⟨?_, ?_, ?_, ?_⟩ <;> (rw [cell_of_row _ _ _ _ _ _ h]; rfl)
theorem row_setC {w : World} {b j : Nat} {c : Array Value} {t : TypeId} {fz : Nat × Nat} {u : Value} (h : w.heap[b]? = some (.cells c t fz)) : (w.setCell ⟨b, j, none⟩ u).heap[b]? = some (.cells (c.setIfInBounds j u) t fz) := by
  have hlt := lt_of_block h
  simp only [World.setCell, Array.getElem?_modify, h, if_true]
  rfl
def sets4 (w : World) (b : Nat) (x y z v : Value) : World := (((w.setCell ⟨b, 0, none⟩ x).setCell ⟨b, 1, none⟩ y).setCell ⟨b, 2, none⟩ z).setCell ⟨b, 3, none⟩ v
theorem sets4_row {w : World} {b : Nat} {x y z v x' y' z' v' : Value} (h : w.heap[b]? = some (.cells #[x, y, z, v] 47 (0, 0))) : (sets4 w b x' y' z' v').heap[b]? = some (.cells #[x', y', z', v'] 47 (0, 0)) := by
  unfold sets4
  exact row_setC (j := 3) (u := v') (row_setC (j := 2) (u := z') (row_setC (j := 1) (u := y') (row_setC (j := 0) (u := x') h)))
theorem sets4_below {w w1 : World} {B b : Nat} {x y z v : Value} (h : Below B w w1) (hb : B ≤ b) : Below B w (sets4 w1 b x y z v) :=
  (((h.setCell (p := ⟨b, 0, none⟩) hb _).setCell (p := ⟨b, 1, none⟩) hb _).setCell (p := ⟨b, 2, none⟩) hb _).setCell (p := ⟨b, 3, none⟩) hb _
theorem EnAt.free {w : World} {g : Nat} {pt pr : Int} {nm : ByteArray} {d : Bool} (h : EnAt w g pt pr nm d) : w.frozen? ⟨g, 0, none⟩ = false ∧ w.frozen? ⟨g, 1, none⟩ = false ∧ w.frozen? ⟨g, 2, none⟩ = false ∧ w.frozen? ⟨g, 3, none⟩ = false :=
  ⟨frozen_of_row _ _ _ _ _ h, frozen_of_row _ _ _ _ _ h, frozen_of_row _ _ _ _ _ h, frozen_of_row _ _ _ _ _ h⟩
/-- What a call does that turns the map's block alone. -/
structure TOut (w w' : World) (p b : Nat) (l : List Rw) : Prop where
  tab : TabI w' p b l
  grow : w.grownBy w' (some b)
theorem TOut.below {w w' : World} {p b B : Nat} {l : List Rw} (h : TOut w w' p b l) (hB : B ≤ b) (hs : B ≤ w.heap.size) : Below B w w' :=
  (Below.refl B w).grown h.grow hs (fun k e => by cases e; exact hB)
set_option maxHeartbeats 1600000 in
theorem set_any (w : World) (p b : Nat) (l : List Rw) (h : TabI w p b l) (hl : l.length < 1000000) (x : Rw) (hx : x.ok) :
    Calls Tryz.prog 66 #[.pointer (some ⟨p, 0, none⟩), .agg #[.int .i64 x.t, .int .i64 x.r], .agg #[.int .i64 x.pt, .int .i64 x.pr, .string x.nm, .bool x.d]] w fun e w' => e = .returned (.int .i64 0) ∧ TOut w w' p b (setF l x) := by
  have B1 := vstep w (.cells #[.int .i64 x.t, .int .i64 x.r] 31)
  have B2 := vstep (w.alloc (.cells #[.int .i64 x.t, .int .i64 x.r] 31)) (.cells #[.int .i64 x.pt, .int .i64 x.pr, .string x.nm, .bool x.d] 47)
  have T2 := Lib.hid ((h.step B1).step B2)
  have S2 := Lib.hid ((StAt.new w x.t x.r).step B2)
  have E2 := Lib.hid (EnAt.new (w.alloc (.cells #[.int .i64 x.t, .int .i64 x.r] 31)) x.pt x.pr x.nm x.d)
  rw [World.size_alloc] at E2
  have B := Lib.hid (B1.trans (B2.mono B1.size))
  obtain ⟨W0, hW0⟩ : ∃ y, (w.alloc (.cells #[.int .i64 x.t, .int .i64 x.r] 31)).alloc (.cells #[.int .i64 x.pt, .int .i64 x.pr, .string x.nm, .bool x.d] 47) = y := ⟨_, rfl⟩
  rw [hW0] at T2 S2 E2 B
  have HW := Lib.hid hW0
  have M := Lib.hid (made_any W0 p b l T2.out)
  have HX := Lib.hid hx
  clear B1 B2 hW0 h hx
  go_enter Tryz.func66, Tryz.ntmps66
  go_upto_region 1 with (fail)
  rw [HW.out]
  go_wp2_with fail
  refine M.out.mono ?_
  rintro e w1 ⟨rfl, rfl⟩
  have c0 := T2.out.cell
  obtain ⟨c1, c2⟩ := S2.out.cells
  obtain ⟨d0, d1, d2, d3⟩ := E2.out.cells
  go_upto_region 3 with (fail)
  go_still_tail 6, (by kernel_rfl)
  change wpList _ _ _ _ _ W0.drew
  have T3 := Lib.hid (T2.out.step (show Below W0.heap.size W0 W0.drew from (Below.refl _ _).drew))
  have B3 := Lib.hid (B.out.trans ((show Below W0.heap.size W0 W0.drew from (Below.refl _ _).drew).mono B.out.size))
  generalize W0.drew = w2 at *
  go_wp2_with (at_mapUpdate; refine wpList_tput rfl _ _ _ rfl b l x rfl T3.out.map hl HX.out rfl rfl ?_; intro w3 ht hg; have T4 := Lib.hid ht; have G4 := Lib.hid hg; clear ht hg)
  go_returns
  refine ⟨rfl, ⟨(G4.out.block p T3.out.plt (fun e => T3.out.ne (by injection e))).trans T3.out.box, T4.out⟩, ?_⟩
  exact (show w.grownBy w2 (some b) from ⟨B3.out.os, B3.out.tape, B3.out.output, B3.out.size, fun k hk _ => B3.out.block k hk⟩).andThen G4.out (fun j e => Or.inr e)
def gv (l : List Rw) (t r : Int) : Value := match getF l t r with | some x => ev x.pt x.pr x.nm x.d | none => ev 0 0 ⟨#[]⟩ false
set_option maxHeartbeats 1600000 in
theorem get_any (w : World) (p b : Nat) (l : List Rw) (h : TabI w p b l) (t r : Int) (ht : I64 t) (hr : I64 r) :
    Calls Tryz.prog 21 #[.pointer (some ⟨p, 0, none⟩), .agg #[.int .i64 t, .int .i64 r]] w fun e w' => e = .returned (.tuple #[gv l t r, .bool (getF l t r).isSome]) ∧ Below w.heap.size w w' := by
  have B1 := vstep w (.cells #[.int .i64 t, .int .i64 r] 31)
  have B2 := vstep (w.alloc (.cells #[.int .i64 t, .int .i64 r] 31)) (.cells #[.int .i64 0, .int .i64 0, .string ⟨#[]⟩, .bool false] 47)
  have T2 := Lib.hid ((h.step B1).step B2)
  have S2 := Lib.hid ((StAt.new w t r).step B2)
  have B := Lib.hid (B1.trans (B2.mono B1.size))
  obtain ⟨W0, hW0⟩ : ∃ y, (w.alloc (.cells #[.int .i64 t, .int .i64 r] 31)).alloc (.cells #[.int .i64 0, .int .i64 0, .string ⟨#[]⟩, .bool false] 47) = y := ⟨_, rfl⟩
  rw [hW0] at T2 S2 B
  have E2 := Lib.hid (show EnAt W0 (w.heap.size + 1) 0 0 ⟨#[]⟩ false from by rw [← hW0]; have := EnAt.new (w.alloc (.cells #[.int .i64 t, .int .i64 r] 31)) 0 0 ⟨#[]⟩ false; rwa [World.size_alloc] at this)
  have HW := Lib.hid hW0
  have M := Lib.hid (made_any W0 p b l T2.out)
  have LK := Lib.hid (fun W (h : TM W b l) => h.look ht hr)
  obtain ⟨x1, x2, x3, x4, hx⟩ : ∃ x1 x2 x3 x4, gv l t r = .agg #[.int .i64 x1, .int .i64 x2, .string x3, .bool x4] := by
    unfold gv
    split
    · exact ⟨_, _, _, _, rfl⟩
    · exact ⟨_, _, _, _, rfl⟩
  rw [hx]
  have LK2 := Lib.hid (fun W (h : TM W b l) => show (Instr.lookup 84 (.map (some b)) (sv t r) true).run Tryz.prog W = .ok (.tuple #[.agg #[.int .i64 x1, .int .i64 x2, .string x3, .bool x4], .bool (getF l t r).isSome]) W from by rw [← hx]; exact LK.out W h)
  generalize (getF l t r).isSome = ok at *
  clear B1 B2 hW0 h ht hr hx LK
  go_enter Tryz.func21, Tryz.ntmps21
  go_upto_region 1 with (fail)
  rw [HW.out]
  go_wp2_with fail
  refine M.out.mono ?_
  rintro e w1 ⟨rfl, rfl⟩
  have c0 := T2.out.cell
  have KA := Lib.hid (fun W (hb : Below W0.heap.size W0 W) => (show W.cell? ⟨p, 0, none⟩ = some (.map (some b)) ∧ W.cell? ⟨w.heap.size, 0, none⟩ = some (.int .i64 t) ∧ W.cell? ⟨w.heap.size, 1, none⟩ = some (.int .i64 r) ∧ (Instr.lookup 84 (.map (some b)) (.agg #[.int .i64 t, .int .i64 r]) true).run Tryz.prog W = .ok (.tuple #[.agg #[.int .i64 x1, .int .i64 x2, .string x3, .bool x4], .bool ok]) W from ⟨(T2.out.step hb).cell, (S2.out.step hb).cells.1, (S2.out.step hb).cells.2, LK2.out _ (T2.out.step hb).map⟩))
  go_upto_region 3 with (fail)
  go_region_held3 (fun w' => w'.cell? ⟨p, 0, none⟩ = some (.map (some b)) ∧ w'.cell? ⟨w.heap.size, 0, none⟩ = some (.int .i64 t) ∧ w'.cell? ⟨w.heap.size, 1, none⟩ = some (.int .i64 r) ∧ (Instr.lookup 84 (.map (some b)) (.agg #[.int .i64 t, .int .i64 r]) true).run Tryz.prog w' = .ok (.tuple #[.agg #[.int .i64 x1, .int .i64 x2, .string x3, .bool x4], .bool ok]) w') ((refine KA.out _ ?_; repeat (first | exact Below.refl _ _ | (refine Below.drew ?_) | (refine Below.alloc ?_ (Nat.le_refl _) _) | (refine Below.setCell ?_ (Nat.le_refl _) _)))) (fail)
  all_goals
    have N3 := Lib.hid ((EnAt.new W0 x1 x2 x3 x4).step (show Below (W0.alloc (.cells #[.int .i64 x1, .int .i64 x2, .string x3, .bool x4] 47)).heap.size _ (W0.alloc (.cells #[.int .i64 x1, .int .i64 x2, .string x3, .bool x4] 47)).drew from (Below.refl _ _).drew))
    have B3 := Lib.hid ((vstep W0 (.cells #[.int .i64 x1, .int .i64 x2, .string x3, .bool x4] 47)).drew)
    have E3 := Lib.hid (E2.out.step B3.out)
    have BB := Lib.hid (B.out.trans (B3.out.mono B.out.size))
    generalize (W0.alloc (.cells #[.int .i64 x1, .int .i64 x2, .string x3, .bool x4] 47)).drew = w3 at *
    obtain ⟨d0, d1, d2, d3⟩ := N3.out.cells
    obtain ⟨e0, e1, e2, e3⟩ := E3.out.cells
    obtain ⟨f0, f1, f2, f3⟩ := E3.out.free
    clear c0
    go_wp2
    obtain ⟨w5, hW5⟩ : ∃ w5, sets4 w3 (w.heap.size + 1) (.int .i64 x1) (.int .i64 x2) (.string x3) (.bool x4) = w5 := ⟨_, rfl⟩
    have hb5 := sets4_row (x' := .int .i64 x1) (y' := .int .i64 x2) (z' := .string x3) (v' := .bool x4) E3.out
    have hw5 := sets4_below (x := .int .i64 x1) (y := .int .i64 x2) (z := .string x3) (v := .bool x4) BB.out (show w.heap.size ≤ w.heap.size + 1 by omega)
    rw [hW5] at hb5 hw5
    unfold sets4 at hW5
    rw [hW5]
    clear hW5 d0 d1 d2 d3 e0 e1 e2 e3 f0 f1 f2 f3
    obtain ⟨d0, d1, d2, d3⟩ := EnAt.cells (show EnAt w5 (w.heap.size + 1) x1 x2 x3 x4 from hb5)
    refine bodyPost_ret (by simp [results, Tryz.results21, go_sem, d0, d1, d2, d3]; try rfl) rfl ?_
    exact ⟨rfl, hw5⟩
end Go.Proofs.YtbeodechhneeeaaGreatDoor.Tb


set_option linter.unusedVariables false
set_option maxRecDepth 100000
namespace Go.Proofs.YtbeodechhneeeaaGreatDoor.Tb
open Go.RowKit Go.WideMaps Go.Maps

theorem below_grown {w w' : World} (h : Below w.heap.size w w') (row : Option Nat) : w.grownBy w' row := ⟨h.os, h.tape, h.output, h.size, fun k hk _ => h.block k hk⟩
theorem gv_form (l : List Rw) (t r : Int) : ∃ x1 x2 x3 x4, gv l t r = .agg #[.int .i64 x1, .int .i64 x2, .string x3, .bool x4] := by
  unfold gv
  split
  · exact ⟨_, _, _, _, rfl⟩
  · exact ⟨_, _, _, _, rfl⟩
theorem beqb_ (a b : Int) (h : a = b) : (a == b) = true := by simpa using h
theorem bneb_ (a b : Int) (h : a ≠ b) : (a == b) = false := by simpa using h
theorem no2 {a b x y : Int} (h : ¬ (a = x ∧ b = y)) : (a == x) = false ∨ ((a == x) = true ∧ (b == y) = false) := by
  by_cases e : a = x
  · exact .inr ⟨beqb_ a x e, bneb_ b y (fun e2 => h ⟨e, e2⟩)⟩
  · exact .inl (bneb_ a x e)
theorem ret_b' {a b : Bool} (h : b = a) : (Ending.returned (.bool a)) = .returned (.bool b) := by rw [h]
def aboveF (l : List Rw) (nt nr : Int) : Nat → Int → Int → Bool
  | 0, _, _ => false
  | k + 1, t, r => match getF l t r with
    | none => false
    | some x => if x.pt = nt ∧ x.pr = nr then true else aboveF l nt nr k x.pt x.pr
/-- The way up: two stamps' boxes, the table. -/
structure Up (w W : World) (p b : Nat) (l : List Rw) (nt nr t r : Int) : Prop where
  bel : Below w.heap.size w W
  tab : TabI W p b l
  one : StAt W w.heap.size nt nr
  two : StAt W (w.heap.size + 1) t r
theorem Up.step {w W W' : World} {p b : Nat} {l : List Rw} {nt nr t r : Int} (h : Up w W p b l nt nr t r) (hb : Below W.heap.size W W') : Up w W' p b l nt nr t r := ⟨h.bel.trans (hb.mono h.bel.size), h.tab.step hb, h.one.step hb, h.two.step hb⟩
theorem StAt.free {w : World} {g : Nat} {t r : Int} (h : StAt w g t r) : w.frozen? ⟨g, 0, none⟩ = false ∧ w.frozen? ⟨g, 1, none⟩ = false := ⟨frozen_of_row _ _ _ _ _ h, frozen_of_row _ _ _ _ _ h⟩
def sets2 (w : World) (b : Nat) (x y : Value) : World := (w.setCell ⟨b, 0, none⟩ x).setCell ⟨b, 1, none⟩ y
theorem Up.set {w W : World} {p b : Nat} {l : List Rw} {nt nr t r : Int} (h : Up w W p b l nt nr t r) (hp : p < w.heap.size) (hb : b < w.heap.size) (t' r' : Int) : Up w (sets2 W (w.heap.size + 1) (.int .i64 t') (.int .i64 r')) p b l nt nr t' r' := by
  have k : Below (w.heap.size + 1) W (sets2 W (w.heap.size + 1) (.int .i64 t') (.int .i64 r')) := ((Below.refl _ W).setCell (p := ⟨w.heap.size + 1, 0, none⟩) (Nat.le_refl _) _).setCell (p := ⟨w.heap.size + 1, 1, none⟩) (Nat.le_refl _) _
  have kg : W.grownBy (sets2 W (w.heap.size + 1) (.int .i64 t') (.int .i64 r')) (some (w.heap.size + 1)) := ⟨k.os, k.tape, k.output, k.size, fun i _ hi => by
    unfold sets2
    rw [Below.heap_setCell _ _ _ _ (fun e => hi (by rw [e])), Below.heap_setCell _ _ _ _ (fun e => hi (by rw [e]))]⟩
  refine ⟨h.bel.trans (k.mono (by omega)), h.tab.grown kg (fun e => by injection e; omega) (fun e => by injection e; omega), (k.block _ (by omega)).trans h.one, ?_⟩
  exact row_setC (j := 1) (u := .int .i64 r') (row_setC (j := 0) (u := .int .i64 t') h.two)
set_option maxHeartbeats 3200000 in
theorem above_any (w : World) (p b : Nat) (l : List Rw) (h : TabI w p b l) (hl : l.length < 1000000) (nt nr t r : Int) (ht : I64 t) (hr : I64 r) :
    Calls Tryz.prog 65 #[.pointer (some ⟨p, 0, none⟩), .agg #[.int .i64 nt, .int .i64 nr], .agg #[.int .i64 t, .int .i64 r]] w fun e w' => e = .returned (.bool (aboveF l nt nr l.length t r)) ∧ Below w.heap.size w w' := by
  have B1 := vstep w (.cells #[.int .i64 nt, .int .i64 nr] 31)
  have B2 := vstep (w.alloc (.cells #[.int .i64 nt, .int .i64 nr] 31)) (.cells #[.int .i64 t, .int .i64 r] 31)
  have U0 := Lib.hid (show Up w ((w.alloc (.cells #[.int .i64 nt, .int .i64 nr] 31)).alloc (.cells #[.int .i64 t, .int .i64 r] 31)) p b l nt nr t r from ⟨B1.trans (B2.mono B1.size), (h.step B1).step B2, (StAt.new w nt nr).step B2, by have := StAt.new (w.alloc (.cells #[.int .i64 nt, .int .i64 nr] 31)) t r; rwa [World.size_alloc] at this⟩)
  obtain ⟨W0, hW0⟩ : ∃ y, (w.alloc (.cells #[.int .i64 nt, .int .i64 nr] 31)).alloc (.cells #[.int .i64 t, .int .i64 r] 31) = y := ⟨_, rfl⟩
  rw [hW0] at U0
  have HW := Lib.hid hW0
  have LN := Lib.hid (len_any W0 p b l U0.out.tab)
  have HP := Lib.hid h.plt
  have HB := Lib.hid h.blt
  have OK := Lib.hid h.map.oks
  have RS := Lib.hid h.map.rise
  have HT := Lib.hid (And.intro ht hr)
  clear B1 B2 hW0 h ht hr
  obtain ⟨res, hres⟩ : ∃ x, aboveF l nt nr l.length t r = x := ⟨_, rfl⟩
  rw [hres]
  have HR := Lib.hid hres
  clear hres
  go_enter Tryz.func65, Tryz.ntmps65
  go_upto_region 1 with (fail)
  rw [HW.out]
  go_wp2_with fail
  refine LN.out.mono ?_
  rintro e w1 ⟨rfl, rfl⟩
  go_wp2_with fail
  go_loopw [11] (fun kv wr => ∃ (i : Nat) (t' r' : Int), kv = .int .i64 i ∧ i ≤ l.length ∧ Hid (Up w wr p b l nt nr t' r' ∧ I64 t' ∧ I64 r' ∧ aboveF l nt nr (l.length - i) t' r' = res)) (fun kv _ => l.length - (intOf kv).toNat)
  case atStart => exact ⟨0, t, r, rfl, Nat.zero_le _, Lib.hid ⟨U0.out, HT.out.1, HT.out.2, HR.out⟩⟩
  case round =>
    obtain ⟨i, t', r', rfl, hi, hJ⟩ := hrel
    have UJ := Lib.hid hJ.out.1
    have HT2 := Lib.hid (And.intro hJ.out.2.1 hJ.out.2.2.1)
    have EJ := Lib.hid hJ.out.2.2.2
    clear hJ
    by_cases hlt : i < l.length
    · have GT := Lib.hid (get_any wr p b l UJ.out.tab t' r' HT2.out.1 HT2.out.2)
      obtain ⟨x1, x2, x3, x4, hx⟩ := gv_form l t' r'
      rw [hx] at GT
      have HX := Lib.hid hx
      clear hx
      have EJ := Lib.hid (show (match getF l t' r' with | none => false | some x => if x.pt = nt ∧ x.pr = nr then true else aboveF l nt nr (l.length - (i + 1)) x.pt x.pr) = res from by have := EJ.out; rw [show l.length - i = (l.length - (i + 1)) + 1 by omega] at this; exact this)
      cases hg : getF l t' r' with
      | none =>
        rw [hg] at GT EJ
        have EJ := Lib.hid (show false = res from EJ.out)
        clear hg HX
        obtain ⟨c1, c2⟩ := UJ.out.two.cells
        go_wp2_with fail
        refine GT.out.mono ?_
        rintro e w2 ⟨rfl, hb⟩
        have U2 := Lib.hid (UJ.out.step hb)
        clear hb c1 c2
        go_wp2
        go_returns
        exact ⟨ret_b' EJ.out.symm, (U2.out.step (vstep w2 _)).bel⟩
      | some x =>
        have hxm := ((get_some RS.out).1 hg).1
        have hgv : gv l t' r' = .agg #[.int .i64 x.pt, .int .i64 x.pr, .string x.nm, .bool x.d] := by unfold gv; rw [hg]
        rw [HX.out] at hgv
        injection hgv with hgv
        simp only [Array.mk.injEq, List.cons.injEq, Value.int.injEq, Value.string.injEq, Value.bool.injEq, true_and, and_true] at hgv
        obtain ⟨rfl, rfl, rfl, rfl⟩ := hgv
        rw [hg] at GT EJ
        have EJ := Lib.hid (show (if x.pt = nt ∧ x.pr = nr then true else aboveF l nt nr (l.length - (i + 1)) x.pt x.pr) = res from EJ.out)
        have HO := Lib.hid (OK.out x hxm)
        clear hg hxm HX
        have hc : (∃ q1 : (x.pt == nt) = true, (x.pr == nr) = true ∧ res = true) ∨ (((x.pt == nt) = false ∨ ((x.pt == nt) = true ∧ (x.pr == nr) = false)) ∧ aboveF l nt nr (l.length - (i + 1)) x.pt x.pr = res) := by
          by_cases q : x.pt = nt ∧ x.pr = nr
          · have e := EJ.out
            rw [if_pos q] at e
            exact .inl ⟨beqb_ _ _ q.1, beqb_ _ _ q.2, e.symm⟩
          · have e := EJ.out
            rw [if_neg q] at e
            exact .inr ⟨no2 q, e⟩
        have HC := Lib.hid hc
        clear hc EJ
        obtain ⟨c1, c2⟩ := UJ.out.two.cells
        go_wp2_with fail
        refine GT.out.mono ?_
        rintro e w2 ⟨rfl, hb⟩
        have U2 := Lib.hid ((UJ.out.step hb).step (vstep w2 (.cells #[.int .i64 x.pt, .int .i64 x.pr, .string x.nm, .bool x.d] 47)))
        have N2 := Lib.hid (EnAt.new w2 x.pt x.pr x.nm x.d)
        have NE := Lib.hid (show w2.heap.size ≠ w.heap.size + 1 from by have := (UJ.out.step hb).two; have := lt_of_block this; omega)
        clear hb c1 c2
        go_upto_region 6 with (fail)
        obtain ⟨w3, hw3⟩ : ∃ y, w2.alloc (.cells #[.int .i64 x.pt, .int .i64 x.pr, .string x.nm, .bool x.d] 47) = y := ⟨_, rfl⟩
        rw [hw3] at U2 N2 ⊢
        clear hw3
        obtain ⟨d0, d1, d2, d3⟩ := N2.out.cells
        obtain ⟨c1, c2⟩ := U2.out.two.cells
        obtain ⟨f1, f2⟩ := U2.out.two.free
        go_upto_region 7 with (fail)
        obtain ⟨w4, hw4⟩ : ∃ y, sets2 w3 (w.heap.size + 1) (.int .i64 x.pt) (.int .i64 x.pr) = y := ⟨_, rfl⟩
        have U4 := Lib.hid (show Up w w4 p b l nt nr x.pt x.pr from by rw [← hw4]; exact U2.out.set HP.out HB.out _ _)
        unfold sets2 at hw4
        rw [hw4]
        clear hw4 d0 d1 d2 d3 c1 c2 f1 f2
        obtain ⟨c1, c2⟩ := U4.out.two.cells
        obtain ⟨g1, g2⟩ := U4.out.one.cells
        rcases HC.out with ⟨q1, q2, q3⟩ | ⟨q1 | ⟨q1, q2⟩, q3⟩
        · have Q3 := Lib.hid q3
          clear q3 HC HR
          go_wp2
          go_returns
          exact ⟨ret_b' Q3.out, U4.out.bel⟩
        all_goals
          have Q3 := Lib.hid q3
          clear q3 HC
          go_wp2
          go_roundw
          case rel => exact ⟨i + 1, x.pt, x.pr, by go_num, by omega, Lib.hid ⟨U4.out, HO.out.2.2.1, HO.out.2.2.2, Q3.out⟩⟩
          case measure => simp [intOf]; omega
    · have EJ := Lib.hid (show false = res from by have := EJ.out; rw [show l.length - i = 0 by omega] at this; exact this)
      go_wp2
      go_returns
      exact ⟨ret_b' EJ.out.symm, UJ.out.bel⟩
end Go.Proofs.YtbeodechhneeeaaGreatDoor.Tb


set_option linter.unusedVariables false
set_option maxRecDepth 100000
namespace Go.Proofs.YtbeodechhneeeaaGreatDoor.Tb
open Go.RowKit Go.Sort Go.Shelf

abbrev Sp := Int × Int
def encS (x : Sp) : List Value := [.int .i64 x.1, .int .i64 x.2]
theorem encS_len (x : Sp) : (encS x).length = 2 := rfl
theorem encS_one (x : Sp) : ∀ v ∈ encS x, v.oneCell' = true := by
  intro v hv
  simp [encS] at hv
  rcases hv with rfl | rfl <;> rfl
end Go.Proofs.YtbeodechhneeeaaGreatDoor.Tb


set_option linter.unusedVariables false
set_option maxRecDepth 100000
namespace Go.Proofs.YtbeodechhneeeaaGreatDoor.Tb
open Go.RowKit Go.WideMaps Go.Maps Go.WideShapes Go.ChangeMaps

/-- A range over the table's map, `done` having come. -/
def TRg (w : World) (b r : Nat) (l done : List Rw) : Prop := ∃ es left cnt, w.ranges Tryz.prog 31 heldR b r l.length (.map es) left cnt ∧ es.Perm (l.map en) ∧ (∀ x ∈ l, x.ok) ∧ Rise l ∧ (∀ x ∈ l, left (KL x.t x.r) = true ↔ x ∉ done) ∧ done.Nodup ∧ ∀ x ∈ done, x ∈ l
theorem TRg.tm {w : World} {b r : Nat} {l done : List Rw} (h : TRg w b r l done) : TM w b l := by
  obtain ⟨es, left, cnt, h1, h2, h3, h4, _⟩ := h
  exact ⟨es, h1.owns, h2, h3, h4⟩
theorem TRg.kept {w w' : World} {b r : Nat} {l done : List Rw} {row : Option Nat} (h : TRg w b r l done) (hg : w.grownBy w' row) (hb : some b ≠ row) (hr : some r ≠ row) : TRg w' b r l done ∧ w'.rangeLeft b r = w.rangeLeft b r := by
  obtain ⟨es, left, cnt, h1, h2⟩ := h
  have h' := h1.kept hg hb hr
  exact ⟨⟨es, left, cnt, h', h2⟩, h'.left_eq.trans h1.left_eq.symm⟩
theorem TRg.blt {w : World} {b r : Nat} {l done : List Rw} (h : TRg w b r l done) : b < w.heap.size := h.tm.lt
theorem en_has {es : List (Lit × DataW Value)} {l : List Rw} (h2 : es.Perm (l.map en)) (h3 : ∀ x ∈ l, x.ok) {x : Rw} (hx : x ∈ l) : Maps.has (.map es) (KL x.t x.r) = true := by
  rw [Maps.has_eq, List.any_eq_true]
  exact ⟨en x, h2.mem_iff.2 (List.mem_map.2 ⟨x, hx, rfl⟩), WideAt.sameKey_self (kl_lit (h3 x hx).1 (h3 x hx).2.1)⟩
theorem TM.range {w : World} {b : Nat} {l : List Rw} (h : TM w b l) : ∃ w', (Instr.range 84 (.map (some b))).run Tryz.prog w = .ok (.pointer (some ⟨w.heap.size, 0, none⟩)) w' ∧ TRg w' b w.heap.size l [] ∧ w.grownBy w' none ∧ w'.heap.size = w.heap.size + 1 := by
  obtain ⟨es, h1, h2, h3, h4⟩ := h
  obtain ⟨w', r1, r2, r3, r4⟩ := h1.range Tryz.keyed Tryz.underlying84
  refine ⟨w', r1, ⟨es, _, _, r2, h2, h3, h4, fun x hx => ?_, List.nodup_nil, fun x hx => by cases hx⟩, r3, r4⟩
  rw [en_has h2 h3 hx]
  simp
theorem rise_nodup {l : List Rw} (h : Rise l) : l.Nodup := h.imp (fun {a b} hab e => by subst e; unfold ltR ltS at hab; simp at hab)
theorem TRg.all {w : World} {b r : Nat} {l done : List Rw} (h : TRg w b r l done) (ha : ∀ x ∈ l, x ∈ done) : done.Perm l := by
  obtain ⟨es, left, cnt, h1, h2, h3, h4, h5, h6, h7⟩ := h
  exact (List.perm_ext_iff_of_nodup h6 (rise_nodup h4)).2 (fun x => ⟨h7 x, ha x⟩)
section
variable {w : World} {ops : Array Oper} {rest : List Oper} {o : Oper} {a : Act} {Q : Exit → Act → World → Prop}
end
end Go.Proofs.YtbeodechhneeeaaGreatDoor.Tb


set_option linter.unusedVariables false
set_option maxRecDepth 100000
namespace Go.Proofs.YtbeodechhneeeaaGreatDoor.Tb
open Go.RowKit Go.WideMaps Go.Maps

theorem info24 : (Tryz.prog.info? 31).map (fun i => (i.zero, i.size, i.bytes)) = some (some (.agg #[.int .i64 0, .int .i64 0]), 2, 16) := by kernel_rfl
theorem Tryz.u43 : Tryz.prog.underlying 34 = some (.slice 31) := by kernel_rfl
def stOf (x : Rw) : Sp := (x.t, x.r)
def atP (pt pr : Int) (x : Rw) : Bool := decide (x.pt = pt ∧ x.pr = pr)
end Go.Proofs.YtbeodechhneeeaaGreatDoor.Tb



