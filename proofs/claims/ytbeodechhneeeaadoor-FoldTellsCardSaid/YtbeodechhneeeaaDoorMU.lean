/- Merged by tools/merge.py: UA, UB, UC, UD, UE, UF. -/
import Derived.Test.YtbeodechhneeeaaDoorMT
import Derived.Deep.RegionHeld3
import Derived.MapKept
import Derived.Lib.SlicesS
set_option linter.unusedVariables false
set_option maxRecDepth 100000
namespace Go.Proofs.YtbeodechhneeeaaDoor.Tb
open Go.RowKit Go.WideMaps Go.Maps

def Dead (w : World) (u : Value) : Prop := u = .pointer none ∨ ∃ z, u = .pointer (some ⟨z, 0, none⟩) ∧ w.heap[z]? = some (.cells #[.map none] 83 (0, 0))
theorem Dead.step {w w' : World} {u : Value} (h : Dead w u) (hb : Below w.heap.size w w') : Dead w' u := by
  rcases h with h | ⟨z, h1, h2⟩
  · exact .inl h
  · exact .inr ⟨z, h1, (hb.block z (lt_of_block h2)).trans h2⟩
end Go.Proofs.YtbeodechhneeeaaDoor.Tb


set_option linter.unusedVariables false
set_option maxRecDepth 100000
namespace Go.Proofs.YtbeodechhneeeaaDoor.Tb
open Go.RowKit Go.WideMaps Go.Maps

structure Nob (w W : World) (t r pt pr : Int) (nm : ByteArray) (d : Bool) : Prop where
  bel : Below w.heap.size w W
  st : StAt W w.heap.size t r
  en : EnB 70 W (w.heap.size + 1) pt pr nm d
  z : W.heap[w.heap.size + 2]? = some (.cells #[.map none] 83 (0, 0))
  sl : W.heap[w.heap.size + 3]? = some (.cells #[.pointer none, .pointer (some ⟨w.heap.size + 2, 0, none⟩)] 38 (0, 0))
theorem Nob.step {w W W' : World} {t r pt pr : Int} {nm : ByteArray} {d : Bool} (h : Nob w W t r pt pr nm d) (hb : Below W.heap.size W W') : Nob w W' t r pt pr nm d :=
  ⟨h.bel.trans (hb.mono h.bel.size), h.st.step hb, h.en.step hb, (hb.block _ (lt_of_block h.z)).trans h.z, (hb.block _ (lt_of_block h.sl)).trans h.sl⟩
theorem Nob.new (w : World) (t r pt pr : Int) (nm : ByteArray) (d : Bool) : Nob w ((((w.alloc (.cells #[.int .i64 t, .int .i64 r] 46)).alloc (.cells #[.int .i64 pt, .int .i64 pr, .string nm, .bool d] 70)).alloc (.cells #[.map none] 83)).alloc (.cells #[.pointer none, .pointer (some ⟨w.heap.size + 2, 0, none⟩)] 38)) t r pt pr nm d := by
  have B1 := vstep w (.cells #[.int .i64 t, .int .i64 r] 46)
  have B2 := vstep (w.alloc (.cells #[.int .i64 t, .int .i64 r] 46)) (.cells #[.int .i64 pt, .int .i64 pr, .string nm, .bool d] 70)
  have B3 := vstep ((w.alloc (.cells #[.int .i64 t, .int .i64 r] 46)).alloc (.cells #[.int .i64 pt, .int .i64 pr, .string nm, .bool d] 70)) (.cells #[.map none] 83)
  have B4 := vstep (((w.alloc (.cells #[.int .i64 t, .int .i64 r] 46)).alloc (.cells #[.int .i64 pt, .int .i64 pr, .string nm, .bool d] 70)).alloc (.cells #[.map none] 83)) (.cells #[.pointer none, .pointer (some ⟨w.heap.size + 2, 0, none⟩)] 38)
  have s1 : (w.alloc (.cells #[.int .i64 t, .int .i64 r] 46)).heap.size = w.heap.size + 1 := by simp
  have s2 : ((w.alloc (.cells #[.int .i64 t, .int .i64 r] 46)).alloc (.cells #[.int .i64 pt, .int .i64 pr, .string nm, .bool d] 70)).heap.size = w.heap.size + 2 := by simp
  have s3 : (((w.alloc (.cells #[.int .i64 t, .int .i64 r] 46)).alloc (.cells #[.int .i64 pt, .int .i64 pr, .string nm, .bool d] 70)).alloc (.cells #[.map none] 83)).heap.size = w.heap.size + 3 := by simp
  refine ⟨((B1.trans (B2.mono (by omega))).trans (B3.mono (by omega))).trans (B4.mono (by omega)), (((StAt.new w t r).step B2).step B3).step B4, ?_, ?_, ?_⟩
  · have := heap_alloc_new (w.alloc (.cells #[.int .i64 t, .int .i64 r] 46)) (.cells #[.int .i64 pt, .int .i64 pr, .string nm, .bool d] 70)
    rw [s1] at this
    exact EnB.step (EnB.step this B3) B4
  · have := heap_alloc_new ((w.alloc (.cells #[.int .i64 t, .int .i64 r] 46)).alloc (.cells #[.int .i64 pt, .int .i64 pr, .string nm, .bool d] 70)) (.cells #[.map none] 83)
    rw [s2] at this
    exact (B4.block _ (by omega)).trans this
  · have := heap_alloc_new (((w.alloc (.cells #[.int .i64 t, .int .i64 r] 46)).alloc (.cells #[.int .i64 pt, .int .i64 pr, .string nm, .bool d] 70)).alloc (.cells #[.map none] 83)) (.cells #[.pointer none, .pointer (some ⟨w.heap.size + 2, 0, none⟩)] 38)
    rw [s3] at this
    exact this
theorem Nob.at {w W : World} {t r pt pr : Int} {nm : ByteArray} {d : Bool} (h : Nob w W t r pt pr nm d) {i : Nat} (hi : i < 2) : ∃ u, W.cell? ⟨w.heap.size + 3, i, none⟩ = some u ∧ Dead W u := by
  obtain rfl | rfl : i = 0 ∨ i = 1 := by omega
  · exact ⟨.pointer none, by rw [cell_of_row _ _ _ _ _ _ h.sl]; rfl, .inl rfl⟩
  · exact ⟨.pointer (some ⟨w.heap.size + 2, 0, none⟩), by rw [cell_of_row _ _ _ _ _ _ h.sl]; rfl, .inr ⟨_, rfl, h.z⟩⟩
end Go.Proofs.YtbeodechhneeeaaDoor.Tb


set_option linter.unusedVariables false
set_option maxRecDepth 100000
namespace Go.Proofs.YtbeodechhneeeaaDoor.Tb
open Go.RowKit Go.WideMaps Go.Maps

theorem take_snoc {α : Type} {l : List α} {i : Nat} {x : α} (h : l[i]? = some x) : l.take (i + 1) = l.take i ++ [x] := by
  obtain ⟨hl, he⟩ := List.getElem?_eq_some_iff.1 h
  rw [List.take_succ_eq_append_getElem hl, he]
end Go.Proofs.YtbeodechhneeeaaDoor.Tb


set_option linter.unusedVariables false
set_option maxRecDepth 100000
namespace Go.Proofs.YtbeodechhneeeaaDoor.Tb
open Go.RowKit Go.WideMaps Go.Maps

structure Ac where
  k : Int
  t : Int
  r : Int
  pt : Int
  pr : Int
  nm : ByteArray
  d : Bool
def Ac.ok (x : Ac) : Prop := I64 x.k ∧ I64 x.t ∧ I64 x.r ∧ I64 x.pt ∧ I64 x.pr
def AcAt (w : World) (g : Nat) (k t r pt pr : Int) (nm : ByteArray) (d : Bool) : Prop := w.heap[g]? = some (.cells #[.int .i64 k, .int .i64 t, .int .i64 r, .int .i64 pt, .int .i64 pr, .string nm, .bool d] 31 (0, 0))
theorem AcAt.step {w w' : World} {g : Nat} {k t r pt pr : Int} {nm : ByteArray} {d : Bool} (h : AcAt w g k t r pt pr nm d) (hb : Below w.heap.size w w') : AcAt w' g k t r pt pr nm d := (hb.block g (lt_of_block h)).trans h
theorem AcAt.cells {w : World} {g : Nat} {k t r pt pr : Int} {nm : ByteArray} {d : Bool} (h : AcAt w g k t r pt pr nm d) : w.cell? ⟨g, 0, none⟩ = some (.int .i64 k) ∧ w.cell? ⟨g, 1, none⟩ = some (.int .i64 t) ∧ w.cell? ⟨g, 2, none⟩ = some (.int .i64 r) ∧ w.cell? ⟨g, 3, none⟩ = some (.int .i64 pt) ∧ w.cell? ⟨g, 4, none⟩ = some (.int .i64 pr) ∧ w.cell? ⟨g, 5, none⟩ = some (.string nm) ∧ w.cell? ⟨g, 6, none⟩ = some (.bool d) := by
  refine ⟨?_, ?_, ?_, ?_, ?_, ?_, ?_⟩ <;> (rw [cell_of_row _ _ _ _ _ _ h]; rfl)
theorem same_self (w : World) (v1 v2 : Value) (l : List Sp) (h1 : LiesK encS 2 w v1 l) (h2 : LiesK encS 2 w v2 l) : Calls Tryd.prog 22 #[v1, v2] w fun e w' => e = .returned (.bool true) ∧ Below w.heap.size w w' :=
  (same_any w v1 v2 l l h1 h2).mono (by rintro e w' ⟨rfl, hb⟩; exact ⟨by rw [decide_eq_true rfl], hb⟩)
/-- Between two acts. -/
structure PI (w W : World) (p b : Nat) (m : List Rw) (q1 q2 : Int) (rv : Value) (mr : List Rw) : Prop where
  tab : TabI W p b m
  st : StAt W w.heap.size q1 q2
  bel : Below w.heap.size w W
  ne : w.heap.size < b
  rows : LiesR W rv mr
theorem PI.step {w W W' : World} {p b : Nat} {m mr : List Rw} {q1 q2 : Int} {rv : Value} (h : PI w W p b m q1 q2 rv mr) (hb : Below W.heap.size W W') : PI w W' p b m q1 q2 rv mr :=
  ⟨h.tab.step hb, h.st.step hb, h.bel.trans (hb.mono h.bel.size), h.ne, h.rows.step hb⟩
end Go.Proofs.YtbeodechhneeeaaDoor.Tb


set_option linter.unusedVariables false
set_option linter.unusedSimpArgs false
set_option maxRecDepth 100000
namespace Go.Proofs.YtbeodechhneeeaaDoor.Tb
open Go.RowKit Go.WideMaps Go.Maps

end Go.Proofs.YtbeodechhneeeaaDoor.Tb


set_option linter.unusedVariables false
set_option linter.unusedSimpArgs false
set_option maxRecDepth 100000
namespace Go.Proofs.YtbeodechhneeeaaDoor.Tb
open Go.RowKit Go.WideMaps Go.Maps

noncomputable instance : DecidableEq Rw := fun a b => Classical.propDecidable (a = b)
end Go.Proofs.YtbeodechhneeeaaDoor.Tb


