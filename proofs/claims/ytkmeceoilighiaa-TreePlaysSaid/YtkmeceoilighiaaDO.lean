/- An op done upon a table: do. -/
import Derived.Test.YtkmeceoilighiaaBA
import Derived.Test.YtkmeceoilighiaaOT
import Derived.Deep.CutRange
import Derived.LoopTactic
import Derived.RegionTactic
import Derived.StillTailTactics
set_option linter.unusedVariables false
set_option linter.unusedSimpArgs false
set_option maxRecDepth 100000
namespace Go.Proofs.Ytkmeceoilighiaa
open Go.RowKit Go.Shelf
open Tb (Rw setF dropF getF aboveF Rise TabI TM LiesK TOut)

def S0 (o : O) : Stp := ⟨o, false, false, 0, 0, ⟨#[]⟩, false⟩
/-- do's three boxes, the table. -/
structure DoI (w W : World) (p b : Nat) (T : List Rw) (o : O) (s4 s5 : Stp) : Prop where
  grow : w.grownBy W (some b)
  tab : TabI W p b T
  b3 : W.heap[w.heap.size]? = some (.cells (oCells o) 34 (0, 0))
  b4 : W.heap[w.heap.size + 1]? = some (.cells (stCells s4) 89 (0, 0))
  b5 : W.heap[w.heap.size + 1 + 1]? = some (.cells (stCells s5) 89 (0, 0))
  lt : b < w.heap.size ∧ p < w.heap.size
theorem DoI.step {w W W' : World} {p b : Nat} {T : List Rw} {o : O} {s4 s5 : Stp} (h : DoI w W p b T o s4 s5) (hb : Below W.heap.size W W') : DoI w W' p b T o s4 s5 :=
  ⟨h.grow.andThen (Tb.below_grown hb (some b)) (fun j e => Or.inr e), h.tab.step hb, (hb.block _ (pl_lt h.b3)).trans h.b3, (hb.block _ (pl_lt h.b4)).trans h.b4, (hb.block _ (pl_lt h.b5)).trans h.b5, h.lt⟩
theorem DoI.turn {w W W' : World} {p b : Nat} {T T' : List Rw} {o : O} {s4 s5 : Stp} (h : DoI w W p b T o s4 s5) (ht : TOut W W' p b T') : DoI w W' p b T' o s4 s5 :=
  have k := h.lt
  ⟨h.grow.andThen ht.grow (fun j e => Or.inr e), ht.tab, (ht.grow.block _ (pl_lt h.b3) (fun e => by injection e; omega)).trans h.b3, (ht.grow.block _ (pl_lt h.b4) (fun e => by injection e; omega)).trans h.b4, (ht.grow.block _ (pl_lt h.b5) (fun e => by injection e; omega)).trans h.b5, h.lt⟩
/-- The numbers of an op are numbers. -/
structure OkO (o : O) : Prop where
  t : Tb.I64 o.t
  r : Tb.I64 o.r
  q : Tb.I64 o.q
  nt : Tb.I64 o.nt
  nr : Tb.I64 o.nr
  pt : Tb.I64 o.pt
  pr : Tb.I64 o.pr
theorem cells15 {W : World} {g : Nat} {s : Stp} (h : W.heap[g]? = some (.cells (stCells s) 89 (0, 0))) : ∀ i u, (stc1 s)[i]? = some u → W.cell? ⟨g, 0 + i, none⟩ = some u := fun i u hu => by
  rw [Nat.zero_add, cell_of_row _ _ _ _ _ _ h]
  unfold stc1 at hu
  simpa using hu
theorem wpList_st15 {P : Program} {w : World} {ops : Array Oper} {rest : List Oper} {o : Oper} {a : Act} {Q : Exit → Act → World → Prop} (hgd : o.guard = none) (x y : Operand) (ty : TypeId)
    (ho : o.op = .store ty x y) (p v : Value) (hx : a.eval x = p) (hy : a.eval y = v) (w' : World) (hr : (Instr.storeAt ty p v).run P w = .ok () w')
    (h : wpList P ops Q rest (a.put o.dst undef) w') : wpList P ops Q (o :: rest) a w :=
  wpList_plain hgd fun _ hK => by
    unfold Oper.wp execOp
    simp only [ho, hx, hy, hr, Sem.run_bind, Sem.run_pure, Result.andThen_ok]
    exact hK _ _ h
/-- A step stored at its place in a row, or in its box. -/
theorem stR {W : World} {g o : Nat} {cur : List Value} {T : TypeId} {x : Stp} (h : W.heap[g]? = some (.cells cur.toArray T (0, 0))) (ho : o + 15 ≤ cur.length) : (Instr.storeAt 89 (.pointer (some ⟨g, o, none⟩)) (stV x)).run Try.prog W = .ok () (W.setRow g (cur.take o ++ stc1 x ++ cur.drop (o + 15)).toArray) := by
  have hst := run_storeCells_at Try.prog g o T (stc1 x) 0 cur.toArray W h (by show o + 0 + 15 ≤ _; simpa using ho) (stc1_one x)
  have e : (stc1 x).length = 15 := rfl
  rw [e, Nat.add_zero, List.toList_toArray] at hst
  obtain ⟨i, hi, _, h1, _⟩ := info_parts info89
  show ((Instr.storeAt 89 (.pointer (some ⟨g, o, none⟩)) (.agg (stCells x))).run Try.prog W) = _
  simp only [Instr.storeAt, Instr.sureAddr, storeVar, sizeOf, typeInfo, hi, h1, Sem.run_bind, Sem.run_pure, Result.andThen_ok]
  exact hst
theorem stS {W : World} {g : Nat} {s x : Stp} (h : W.heap[g]? = some (.cells (stCells s) 89 (0, 0))) : (Instr.storeAt 89 (.pointer (some ⟨g, 0, none⟩)) (stV x)).run Try.prog W = .ok () (W.setRow g (stCells x)) :=
  stR (cur := stc1 s) h (by show 0 + 15 ≤ 15; omega)
theorem setRow_far {w W : World} {b g : Nat} (h : w.grownBy W (some b)) (hg : w.heap.size ≤ g) (c : Array Value) : w.grownBy (W.setRow g c) (some b) :=
  ⟨h.os, h.tape, h.output, by simp [World.setRow, h.size], fun k hk hne => (setRow_other W g k c (by omega)).trans (h.block k hk hne)⟩
theorem TabI.setRow {W : World} {p b g : Nat} {T : List Rw} (h : TabI W p b T) (hp : p ≠ g) (hb : b ≠ g) (c : Array Value) : TabI (W.setRow g c) p b T :=
  ⟨(setRow_other W g p c hp).trans h.box, h.map.grown (⟨rfl, rfl, rfl, by simp [World.setRow], fun k _ hk => setRow_other W g k c (fun e => hk (by rw [e]))⟩ : W.grownBy (W.setRow g c) (some g)) (fun e => hb (by injection e))⟩
theorem DoI.set4 {w W : World} {p b : Nat} {T : List Rw} {o : O} {s4 s5 : Stp} (h : DoI w W p b T o s4 s5) (x : Stp) : DoI w (W.setRow (w.heap.size + 1) (stCells x)) p b T o x s5 :=
  have k := h.lt
  ⟨setRow_far h.grow (by omega) _, TabI.setRow h.tab (by omega) (by omega) _, (setRow_other W _ _ _ (by omega)).trans h.b3, setRow_heap W _ _ _ 89 _ h.b4, (setRow_other W _ _ _ (by omega)).trans h.b5, h.lt⟩
theorem DoI.set5 {w W : World} {p b : Nat} {T : List Rw} {o : O} {s4 s5 : Stp} (h : DoI w W p b T o s4 s5) (x : Stp) : DoI w (W.setRow (w.heap.size + 1 + 1) (stCells x)) p b T o s4 x :=
  have k := h.lt
  ⟨setRow_far h.grow (by omega) _, TabI.setRow h.tab (by omega) (by omega) _, (setRow_other W _ _ _ (by omega)).trans h.b3, (setRow_other W _ _ _ (by omega)).trans h.b4, setRow_heap W _ _ _ 89 _ h.b5, h.lt⟩
theorem DoI.start {w : World} {p b : Nat} {T : List Rw} (h : TabI w p b T) (o : O) (s4 s5 : Stp) : DoI w (((w.alloc (.cells (oCells o) 34)).alloc (.cells (stCells s4) 89)).alloc (.cells (stCells s5) 89)) p b T o s4 s5 := by
  have B1 := pl_vstep w (.cells (oCells o) 34)
  have N1 := heap_alloc_new w (.cells (oCells o) 34)
  have z1 : (w.alloc (.cells (oCells o) 34)).heap.size = w.heap.size + 1 := by simp
  generalize w.alloc (.cells (oCells o) 34) = w1 at *
  have B2 := pl_vstep w1 (.cells (stCells s4) 89)
  have N2 := heap_alloc_new w1 (.cells (stCells s4) 89)
  have z2 : (w1.alloc (.cells (stCells s4) 89)).heap.size = w.heap.size + 1 + 1 := by simp [z1]
  rw [z1] at N2
  generalize w1.alloc (.cells (stCells s4) 89) = w2 at *
  have B3 := pl_vstep w2 (.cells (stCells s5) 89)
  have N3 := heap_alloc_new w2 (.cells (stCells s5) 89)
  rw [z2] at N3
  generalize w2.alloc (.cells (stCells s5) 89) = w3 at *
  have BB := B1.trans ((B2.trans (B3.mono B2.size)).mono B1.size)
  exact ⟨Tb.below_grown BB _, h.step BB, ((B2.trans (B3.mono B2.size)).block _ (by omega)).trans N1, (B3.block _ (by omega)).trans N2, N3, h.blt, h.plt⟩
theorem stF4 {W : World} {g j : Nat} {s s' : Stp} {v : Bool} (h : W.heap[g]? = some (.cells (stCells s) 89 (0, 0))) (hj : j < 15) (e : (stCells s).setIfInBounds j (.bool v) = stCells s') : (Instr.storeAt 4 (.pointer (some ⟨g, j, none⟩)) (.bool v)).run Try.prog W = .ok () (W.setRow g (stCells s')) := by
  have c : W.cell? ⟨g, j, none⟩ = some (stCells s)[j] := by rw [cell_of_row _ _ _ _ _ _ h]; exact Array.getElem?_eq_getElem hj
  have f : W.frozen? ⟨g, j, none⟩ = false := frozen_of_row _ _ _ _ _ h
  rw [← e, ← setCell_eq_setRow W g j (stCells s) 89 (0, 0) (.bool v) h]
  clear h e
  generalize (stCells s)[j] = z at c
  go_simp
theorem stF69 {W : World} {g : Nat} {s : Stp} (h : W.heap[g]? = some (.cells (stCells s) 89 (0, 0))) (a b : Int) (n : ByteArray) (d : Bool) : (Instr.storeAt 69 (.pointer (some ⟨g, 11, none⟩)) (.agg #[.int .i64 a, .int .i64 b, .string n, .bool d])).run Try.prog W = .ok () (W.setRow g (stCells { s with wt := a, wr := b, wn := n, wd := d })) := by
  have c0 : W.cell? ⟨g, 11, none⟩ = some (.int .i64 s.wt) := by rw [cell_of_row _ _ _ _ _ _ h]; rfl
  have c1 : W.cell? ⟨g, 12, none⟩ = some (.int .i64 s.wr) := by rw [cell_of_row _ _ _ _ _ _ h]; rfl
  have c2 : W.cell? ⟨g, 13, none⟩ = some (.string s.wn) := by rw [cell_of_row _ _ _ _ _ _ h]; rfl
  have c3 : W.cell? ⟨g, 14, none⟩ = some (.bool s.wd) := by rw [cell_of_row _ _ _ _ _ _ h]; rfl
  have f0 : W.frozen? ⟨g, 11, none⟩ = false := frozen_of_row _ _ _ _ _ h
  have f1 : W.frozen? ⟨g, 12, none⟩ = false := frozen_of_row _ _ _ _ _ h
  have f2 : W.frozen? ⟨g, 13, none⟩ = false := frozen_of_row _ _ _ _ _ h
  have f3 : W.frozen? ⟨g, 14, none⟩ = false := frozen_of_row _ _ _ _ _ h
  have e : (((W.setCell ⟨g, 11, none⟩ (.int .i64 a)).setCell ⟨g, 12, none⟩ (.int .i64 b)).setCell ⟨g, 13, none⟩ (.string n)).setCell ⟨g, 14, none⟩ (.bool d) = W.setRow g (stCells { s with wt := a, wr := b, wn := n, wd := d }) := by
    have h1 := setRow_heap W g _ ((stCells s).setIfInBounds 11 (.int .i64 a)) 89 _ h
    have h2 := setRow_heap _ g _ (((stCells s).setIfInBounds 11 (.int .i64 a)).setIfInBounds 12 (.int .i64 b)) 89 _ h1
    have h3 := setRow_heap _ g _ ((((stCells s).setIfInBounds 11 (.int .i64 a)).setIfInBounds 12 (.int .i64 b)).setIfInBounds 13 (.string n)) 89 _ h2
    rw [setCell_eq_setRow W g 11 _ 89 (0, 0) _ h, setCell_eq_setRow _ g 12 _ 89 (0, 0) _ h1, setCell_eq_setRow _ g 13 _ 89 (0, 0) _ h2, setCell_eq_setRow _ g 14 _ 89 (0, 0) _ h3, setRow_setRow, setRow_setRow, setRow_setRow]
    rfl
  rw [← e]
  clear h e
  go_simp
end Go.Proofs.Ytkmeceoilighiaa
