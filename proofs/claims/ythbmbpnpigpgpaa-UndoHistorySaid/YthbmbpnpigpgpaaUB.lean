/- TableNobody's law. Made by genub13.py, with tools/drawn.py. -/
import Derived.Test.YthbmbpnpigpgpaaUA
set_option linter.unusedVariables false
set_option maxRecDepth 100000
namespace Go.Proofs.Ythbmbpnpigpgpaa
open Go.RowKit Go.WideMaps Go.Maps

structure Nob (w W : World) (t r pt pr : Int) (nm : ByteArray) (d : Bool) : Prop where
  bel : Below w.heap.size w W
  st : StAt W w.heap.size t r
  en : EnB 66 W (w.heap.size + 1) pt pr nm d
  z : W.heap[w.heap.size + 2]? = some (.cells #[.map none] 101 (0, 0))
  sl : W.heap[w.heap.size + 3]? = some (.cells #[.pointer none, .pointer (some ⟨w.heap.size + 2, 0, none⟩)] 39 (0, 0))
theorem Nob.step {w W W' : World} {t r pt pr : Int} {nm : ByteArray} {d : Bool} (h : Nob w W t r pt pr nm d) (hb : Below W.heap.size W W') : Nob w W' t r pt pr nm d :=
  ⟨h.bel.trans (hb.mono h.bel.size), h.st.step hb, h.en.step hb, (hb.block _ (lt_of_block h.z)).trans h.z, (hb.block _ (lt_of_block h.sl)).trans h.sl⟩
theorem Nob.new (w : World) (t r pt pr : Int) (nm : ByteArray) (d : Bool) : Nob w ((((w.alloc (.cells #[.int .i64 t, .int .i64 r] 61)).alloc (.cells #[.int .i64 pt, .int .i64 pr, .string nm, .bool d] 66)).alloc (.cells #[.map none] 101)).alloc (.cells #[.pointer none, .pointer (some ⟨w.heap.size + 2, 0, none⟩)] 39)) t r pt pr nm d := by
  have B1 := vstep w (.cells #[.int .i64 t, .int .i64 r] 61)
  have B2 := vstep (w.alloc (.cells #[.int .i64 t, .int .i64 r] 61)) (.cells #[.int .i64 pt, .int .i64 pr, .string nm, .bool d] 66)
  have B3 := vstep ((w.alloc (.cells #[.int .i64 t, .int .i64 r] 61)).alloc (.cells #[.int .i64 pt, .int .i64 pr, .string nm, .bool d] 66)) (.cells #[.map none] 101)
  have B4 := vstep (((w.alloc (.cells #[.int .i64 t, .int .i64 r] 61)).alloc (.cells #[.int .i64 pt, .int .i64 pr, .string nm, .bool d] 66)).alloc (.cells #[.map none] 101)) (.cells #[.pointer none, .pointer (some ⟨w.heap.size + 2, 0, none⟩)] 39)
  have s1 : (w.alloc (.cells #[.int .i64 t, .int .i64 r] 61)).heap.size = w.heap.size + 1 := by simp
  have s2 : ((w.alloc (.cells #[.int .i64 t, .int .i64 r] 61)).alloc (.cells #[.int .i64 pt, .int .i64 pr, .string nm, .bool d] 66)).heap.size = w.heap.size + 2 := by simp
  have s3 : (((w.alloc (.cells #[.int .i64 t, .int .i64 r] 61)).alloc (.cells #[.int .i64 pt, .int .i64 pr, .string nm, .bool d] 66)).alloc (.cells #[.map none] 101)).heap.size = w.heap.size + 3 := by simp
  refine ⟨((B1.trans (B2.mono (by omega))).trans (B3.mono (by omega))).trans (B4.mono (by omega)), (((StAt.new w t r).step B2).step B3).step B4, ?_, ?_, ?_⟩
  · have := heap_alloc_new (w.alloc (.cells #[.int .i64 t, .int .i64 r] 61)) (.cells #[.int .i64 pt, .int .i64 pr, .string nm, .bool d] 66)
    rw [s1] at this
    exact EnB.step (EnB.step this B3) B4
  · have := heap_alloc_new ((w.alloc (.cells #[.int .i64 t, .int .i64 r] 61)).alloc (.cells #[.int .i64 pt, .int .i64 pr, .string nm, .bool d] 66)) (.cells #[.map none] 101)
    rw [s2] at this
    exact (B4.block _ (by omega)).trans this
  · have := heap_alloc_new (((w.alloc (.cells #[.int .i64 t, .int .i64 r] 61)).alloc (.cells #[.int .i64 pt, .int .i64 pr, .string nm, .bool d] 66)).alloc (.cells #[.map none] 101)) (.cells #[.pointer none, .pointer (some ⟨w.heap.size + 2, 0, none⟩)] 39)
    rw [s3] at this
    exact this
theorem Nob.at {w W : World} {t r pt pr : Int} {nm : ByteArray} {d : Bool} (h : Nob w W t r pt pr nm d) {i : Nat} (hi : i < 2) : ∃ u, W.cell? ⟨w.heap.size + 3, i, none⟩ = some u ∧ Dead W u := by
  obtain rfl | rfl : i = 0 ∨ i = 1 := by omega
  · exact ⟨.pointer none, by rw [cell_of_row _ _ _ _ _ _ h.sl]; rfl, .inl rfl⟩
  · exact ⟨.pointer (some ⟨w.heap.size + 2, 0, none⟩), by rw [cell_of_row _ _ _ _ _ _ h.sl]; rfl, .inr ⟨_, rfl, h.z⟩⟩
end Go.Proofs.Ythbmbpnpigpgpaa

