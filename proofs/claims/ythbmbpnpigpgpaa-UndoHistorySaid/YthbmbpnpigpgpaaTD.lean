/- A table: Set, Get, Drop. -/
import Derived.Test.YthbmbpnpigpgpaaTC
set_option linter.unusedVariables false
set_option maxRecDepth 100000
namespace Go.Proofs.Ythbmbpnpigpgpaa
open Go.RowKit Go.WideMaps Go.Maps

theorem wpList_tput {w : World} {ops : Array Oper} {rest : List Oper} {o : Oper} {a : Act} {Q : Exit → Act → World → Prop} (hg : o.guard = none) (m x v : Operand) (hop : o.op = Op.mapUpdate 99 m x v) (b : Nat) (l : List Rw) (y : Rw) (hm : a.eval m = .map (some b)) (h : TM w b l) (hl : l.length < 1000000) (hy : y.ok)
    (hx : a.eval x = sv y.t y.r) (hv : a.eval v = ev y.pt y.pr y.nm y.d) (hK : ∀ w', TM w' b (setF l y) → w.grownBy w' (some b) → wpList Try.prog ops Q rest (a.put o.dst undef) w') : wpList Try.prog ops Q (o :: rest) a w := by
  refine wpList_plain hg fun K' hK' => ?_
  obtain ⟨w', hrun, r1, r2⟩ := h.put hy (by unfold maxLen; omega)
  unfold Oper.wp
  simp [execOp, hop, hm, hx, hv, hrun, Result.andThen]
  exact hK' _ _ (hK w' r1 r2)
/-- A stamp's box, an entry's box. -/
def StAt (w : World) (g : Nat) (t r : Int) : Prop := w.heap[g]? = some (.cells #[.int .i64 t, .int .i64 r] 61 (0, 0))
def EnAt (w : World) (g : Nat) (pt pr : Int) (nm : ByteArray) (d : Bool) : Prop := w.heap[g]? = some (.cells #[.int .i64 pt, .int .i64 pr, .string nm, .bool d] 78 (0, 0))
theorem StAt.step {w w' : World} {g : Nat} {t r : Int} (h : StAt w g t r) (hb : Below w.heap.size w w') : StAt w' g t r := (hb.block g (lt_of_block h)).trans h
theorem EnAt.step {w w' : World} {g : Nat} {pt pr : Int} {nm : ByteArray} {d : Bool} (h : EnAt w g pt pr nm d) (hb : Below w.heap.size w w') : EnAt w' g pt pr nm d := (hb.block g (lt_of_block h)).trans h
theorem StAt.new (w : World) (t r : Int) : StAt (w.alloc (.cells #[.int .i64 t, .int .i64 r] 61)) w.heap.size t r := heap_alloc_new w _
theorem EnAt.new (w : World) (pt pr : Int) (nm : ByteArray) (d : Bool) : EnAt (w.alloc (.cells #[.int .i64 pt, .int .i64 pr, .string nm, .bool d] 78)) w.heap.size pt pr nm d := heap_alloc_new w _
theorem StAt.cells {w : World} {g : Nat} {t r : Int} (h : StAt w g t r) : w.cell? ⟨g, 0, none⟩ = some (.int .i64 t) ∧ w.cell? ⟨g, 1, none⟩ = some (.int .i64 r) := by
  refine ⟨?_, ?_⟩ <;> (rw [cell_of_row _ _ _ _ _ _ h]; rfl)
theorem EnAt.cells {w : World} {g : Nat} {pt pr : Int} {nm : ByteArray} {d : Bool} (h : EnAt w g pt pr nm d) : w.cell? ⟨g, 0, none⟩ = some (.int .i64 pt) ∧ w.cell? ⟨g, 1, none⟩ = some (.int .i64 pr) ∧ w.cell? ⟨g, 2, none⟩ = some (.string nm) ∧ w.cell? ⟨g, 3, none⟩ = some (.bool d) := by
  refine ⟨?_, ?_, ?_, ?_⟩ <;> (rw [cell_of_row _ _ _ _ _ _ h]; rfl)
theorem row_setC {w : World} {b j : Nat} {c : Array Value} {t : TypeId} {fz : Nat × Nat} {u : Value} (h : w.heap[b]? = some (.cells c t fz)) : (w.setCell ⟨b, j, none⟩ u).heap[b]? = some (.cells (c.setIfInBounds j u) t fz) := by
  have hlt := lt_of_block h
  simp only [World.setCell, Array.getElem?_modify, h, if_true]
  rfl
def sets4 (w : World) (b : Nat) (x y z v : Value) : World := (((w.setCell ⟨b, 0, none⟩ x).setCell ⟨b, 1, none⟩ y).setCell ⟨b, 2, none⟩ z).setCell ⟨b, 3, none⟩ v
theorem sets4_row {w : World} {b : Nat} {x y z v x' y' z' v' : Value} (h : w.heap[b]? = some (.cells #[x, y, z, v] 78 (0, 0))) : (sets4 w b x' y' z' v').heap[b]? = some (.cells #[x', y', z', v'] 78 (0, 0)) := by
  unfold sets4
  exact row_setC (j := 3) (u := v') (row_setC (j := 2) (u := z') (row_setC (j := 1) (u := y') (row_setC (j := 0) (u := x') h)))
theorem sets4_below {w w1 : World} {B b : Nat} {x y z v : Value} (h : Below B w w1) (hb : B ≤ b) : Below B w (sets4 w1 b x y z v) :=
  (((h.setCell (p := ⟨b, 0, none⟩) hb _).setCell (p := ⟨b, 1, none⟩) hb _).setCell (p := ⟨b, 2, none⟩) hb _).setCell (p := ⟨b, 3, none⟩) hb _
theorem EnAt.free {w : World} {g : Nat} {pt pr : Int} {nm : ByteArray} {d : Bool} (h : EnAt w g pt pr nm d) : w.frozen? ⟨g, 0, none⟩ = false ∧ w.frozen? ⟨g, 1, none⟩ = false ∧ w.frozen? ⟨g, 2, none⟩ = false ∧ w.frozen? ⟨g, 3, none⟩ = false :=
  ⟨frozen_of_row _ _ _ _ _ h, frozen_of_row _ _ _ _ _ h, frozen_of_row _ _ _ _ _ h, frozen_of_row _ _ _ _ _ h⟩
/-- What a call does that turns the map's block alone. -/
structure TOut (w w' : World) (p b : Nat) (l : List Rw) : Prop where
  tab : TabI w' p b l
  grow : w.grownBy w' (some b)
theorem TOut.below {w w' : World} {p b B : Nat} {l : List Rw} (h : TOut w w' p b l) (hB : B ≤ b) (hs : B ≤ w.heap.size) : Below B w w' :=
  (Below.refl B w).grown h.grow hs (fun k e => by cases e; exact hB)
set_option maxHeartbeats 1600000 in
theorem set_any (w : World) (p b : Nat) (l : List Rw) (h : TabI w p b l) (hl : l.length < 1000000) (x : Rw) (hx : x.ok) :
    Calls Try.prog 42 #[.pointer (some ⟨p, 0, none⟩), .agg #[.int .i64 x.t, .int .i64 x.r], .agg #[.int .i64 x.pt, .int .i64 x.pr, .string x.nm, .bool x.d]] w fun e w' => e = .returned (.int .i64 0) ∧ TOut w w' p b (setF l x) := by
  have B1 := vstep w (.cells #[.int .i64 x.t, .int .i64 x.r] 61)
  have B2 := vstep (w.alloc (.cells #[.int .i64 x.t, .int .i64 x.r] 61)) (.cells #[.int .i64 x.pt, .int .i64 x.pr, .string x.nm, .bool x.d] 78)
  have T2 := Lib.hid ((h.step B1).step B2)
  have S2 := Lib.hid ((StAt.new w x.t x.r).step B2)
  have E2 := Lib.hid (EnAt.new (w.alloc (.cells #[.int .i64 x.t, .int .i64 x.r] 61)) x.pt x.pr x.nm x.d)
  rw [World.size_alloc] at E2
  have B := Lib.hid (B1.trans (B2.mono B1.size))
  obtain ⟨W0, hW0⟩ : ∃ y, (w.alloc (.cells #[.int .i64 x.t, .int .i64 x.r] 61)).alloc (.cells #[.int .i64 x.pt, .int .i64 x.pr, .string x.nm, .bool x.d] 78) = y := ⟨_, rfl⟩
  rw [hW0] at T2 S2 E2 B
  have HW := Lib.hid hW0
  have M := Lib.hid (made_any W0 p b l T2.out)
  have HX := Lib.hid hx
  clear B1 B2 hW0 h hx
  go_enter Try.func42, Try.ntmps42
  go_upto_region 1 with (fail)
  rw [HW.out]
  go_wp2_with fail
  refine M.out.mono ?_
  rintro e w1 ⟨rfl, rfl⟩
  have c0 := T2.out.cell
  obtain ⟨c1, c2⟩ := S2.out.cells
  obtain ⟨d0, d1, d2, d3⟩ := E2.out.cells
  go_upto_region 3 with (fail)
  go_still_tail 6, (by kernel_rfl)
  change wpList _ _ _ _ _ W0.drew
  have T3 := Lib.hid (T2.out.step (show Below W0.heap.size W0 W0.drew from (Below.refl _ _).drew))
  have B3 := Lib.hid (B.out.trans ((show Below W0.heap.size W0 W0.drew from (Below.refl _ _).drew).mono B.out.size))
  generalize W0.drew = w2 at *
  go_wp2_with (at_mapUpdate; refine wpList_tput rfl _ _ _ rfl b l x rfl T3.out.map hl HX.out rfl rfl ?_; intro w3 ht hg; have T4 := Lib.hid ht; have G4 := Lib.hid hg; clear ht hg)
  go_returns
  refine ⟨rfl, ⟨(G4.out.block p T3.out.plt (fun e => T3.out.ne (by injection e))).trans T3.out.box, T4.out⟩, ?_⟩
  exact (show w.grownBy w2 (some b) from ⟨B3.out.os, B3.out.tape, B3.out.output, B3.out.size, fun k hk _ => B3.out.block k hk⟩).andThen G4.out (fun j e => Or.inr e)
def gv (l : List Rw) (t r : Int) : Value := match getF l t r with | some x => ev x.pt x.pr x.nm x.d | none => ev 0 0 ⟨#[]⟩ false
set_option maxHeartbeats 1600000 in
theorem get_any (w : World) (p b : Nat) (l : List Rw) (h : TabI w p b l) (t r : Int) (ht : I64 t) (hr : I64 r) :
    Calls Try.prog 33 #[.pointer (some ⟨p, 0, none⟩), .agg #[.int .i64 t, .int .i64 r]] w fun e w' => e = .returned (.tuple #[gv l t r, .bool (getF l t r).isSome]) ∧ Below w.heap.size w w' := by
  have B1 := vstep w (.cells #[.int .i64 t, .int .i64 r] 61)
  have B2 := vstep (w.alloc (.cells #[.int .i64 t, .int .i64 r] 61)) (.cells #[.int .i64 0, .int .i64 0, .string ⟨#[]⟩, .bool false] 78)
  have T2 := Lib.hid ((h.step B1).step B2)
  have S2 := Lib.hid ((StAt.new w t r).step B2)
  have B := Lib.hid (B1.trans (B2.mono B1.size))
  obtain ⟨W0, hW0⟩ : ∃ y, (w.alloc (.cells #[.int .i64 t, .int .i64 r] 61)).alloc (.cells #[.int .i64 0, .int .i64 0, .string ⟨#[]⟩, .bool false] 78) = y := ⟨_, rfl⟩
  rw [hW0] at T2 S2 B
  have E2 := Lib.hid (show EnAt W0 (w.heap.size + 1) 0 0 ⟨#[]⟩ false from by rw [← hW0]; have := EnAt.new (w.alloc (.cells #[.int .i64 t, .int .i64 r] 61)) 0 0 ⟨#[]⟩ false; rwa [World.size_alloc] at this)
  have HW := Lib.hid hW0
  have M := Lib.hid (made_any W0 p b l T2.out)
  have LK := Lib.hid (fun W (h : TM W b l) => h.look ht hr)
  obtain ⟨x1, x2, x3, x4, hx⟩ : ∃ x1 x2 x3 x4, gv l t r = .agg #[.int .i64 x1, .int .i64 x2, .string x3, .bool x4] := by
    unfold gv
    split
    · exact ⟨_, _, _, _, rfl⟩
    · exact ⟨_, _, _, _, rfl⟩
  rw [hx]
  have LK2 := Lib.hid (fun W (h : TM W b l) => show (Instr.lookup 99 (.map (some b)) (sv t r) true).run Try.prog W = .ok (.tuple #[.agg #[.int .i64 x1, .int .i64 x2, .string x3, .bool x4], .bool (getF l t r).isSome]) W from by rw [← hx]; exact LK.out W h)
  generalize (getF l t r).isSome = ok at *
  clear B1 B2 hW0 h ht hr hx LK
  go_enter Try.func33, Try.ntmps33
  go_upto_region 1 with (fail)
  rw [HW.out]
  go_wp2_with fail
  refine M.out.mono ?_
  rintro e w1 ⟨rfl, rfl⟩
  have c0 := T2.out.cell
  have KA := Lib.hid (fun W (hb : Below W0.heap.size W0 W) => (show W.cell? ⟨p, 0, none⟩ = some (.map (some b)) ∧ W.cell? ⟨w.heap.size, 0, none⟩ = some (.int .i64 t) ∧ W.cell? ⟨w.heap.size, 1, none⟩ = some (.int .i64 r) ∧ (Instr.lookup 99 (.map (some b)) (.agg #[.int .i64 t, .int .i64 r]) true).run Try.prog W = .ok (.tuple #[.agg #[.int .i64 x1, .int .i64 x2, .string x3, .bool x4], .bool ok]) W from ⟨(T2.out.step hb).cell, (S2.out.step hb).cells.1, (S2.out.step hb).cells.2, LK2.out _ (T2.out.step hb).map⟩))
  go_upto_region 3 with (fail)
  go_region_held3 (fun w' => w'.cell? ⟨p, 0, none⟩ = some (.map (some b)) ∧ w'.cell? ⟨w.heap.size, 0, none⟩ = some (.int .i64 t) ∧ w'.cell? ⟨w.heap.size, 1, none⟩ = some (.int .i64 r) ∧ (Instr.lookup 99 (.map (some b)) (.agg #[.int .i64 t, .int .i64 r]) true).run Try.prog w' = .ok (.tuple #[.agg #[.int .i64 x1, .int .i64 x2, .string x3, .bool x4], .bool ok]) w') ((refine KA.out _ ?_; repeat (first | exact Below.refl _ _ | (refine Below.drew ?_) | (refine Below.alloc ?_ (Nat.le_refl _) _) | (refine Below.setCell ?_ (Nat.le_refl _) _)))) (fail)
  all_goals
    have N3 := Lib.hid ((EnAt.new W0 x1 x2 x3 x4).step (show Below (W0.alloc (.cells #[.int .i64 x1, .int .i64 x2, .string x3, .bool x4] 78)).heap.size _ (W0.alloc (.cells #[.int .i64 x1, .int .i64 x2, .string x3, .bool x4] 78)).drew from (Below.refl _ _).drew))
    have B3 := Lib.hid ((vstep W0 (.cells #[.int .i64 x1, .int .i64 x2, .string x3, .bool x4] 78)).drew)
    have E3 := Lib.hid (E2.out.step B3.out)
    have BB := Lib.hid (B.out.trans (B3.out.mono B.out.size))
    generalize (W0.alloc (.cells #[.int .i64 x1, .int .i64 x2, .string x3, .bool x4] 78)).drew = w3 at *
    obtain ⟨d0, d1, d2, d3⟩ := N3.out.cells
    obtain ⟨e0, e1, e2, e3⟩ := E3.out.cells
    obtain ⟨f0, f1, f2, f3⟩ := E3.out.free
    clear c0
    go_wp2
    obtain ⟨w5, hW5⟩ : ∃ w5, sets4 w3 (w.heap.size + 1) (.int .i64 x1) (.int .i64 x2) (.string x3) (.bool x4) = w5 := ⟨_, rfl⟩
    have hb5 := sets4_row (x' := .int .i64 x1) (y' := .int .i64 x2) (z' := .string x3) (v' := .bool x4) E3.out
    have hw5 := sets4_below (x := .int .i64 x1) (y := .int .i64 x2) (z := .string x3) (v := .bool x4) BB.out (show w.heap.size ≤ w.heap.size + 1 by omega)
    rw [hW5] at hb5 hw5
    unfold sets4 at hW5
    rw [hW5]
    clear hW5 d0 d1 d2 d3 e0 e1 e2 e3 f0 f1 f2 f3
    obtain ⟨d0, d1, d2, d3⟩ := EnAt.cells (show EnAt w5 (w.heap.size + 1) x1 x2 x3 x4 from hb5)
    refine bodyPost_ret (by simp [results, Try.results33, go_sem, d0, d1, d2, d3]; try rfl) rfl ?_
    exact ⟨rfl, hw5⟩
end Go.Proofs.Ythbmbpnpigpgpaa

