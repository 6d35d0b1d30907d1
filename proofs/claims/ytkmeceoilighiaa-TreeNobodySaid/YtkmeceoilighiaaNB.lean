/- Trees that neither New nor Load made: Add, Cut; the law's two boxes. -/
import Derived.Test.YtkmeceoilighiaaED
set_option linter.unusedVariables false
set_option linter.unusedSimpArgs false
set_option maxRecDepth 100000
namespace Go.Proofs.Ytkmeceoilighiaa
open Go.RowKit Go.Shelf
open Tb (Rw setF dropF getF aboveF Rise TabI TM LiesK)

def DeadT (w : World) (X : Value) : Prop := X = .pointer none ∨ ∃ z, X = pv z ∧ w.heap[z]? = some (.cells #[.pointer none, .int .i64 0, .int .i64 0, .slice none 0 0] 79 (0, 0))
theorem DeadT.step {w w' : World} {X : Value} (h : DeadT w X) (hb : Below w.heap.size w w') : DeadT w' X := by
  rcases h with h | ⟨z, h1, h2⟩
  · exact .inl h
  · exact .inr ⟨z, h1, (hb.block _ (pl_lt h2)).trans h2⟩
theorem DeadT.have {w : World} {X : Value} (h : DeadT w X) : Have w X none 0 0 none 0 0 := by
  rcases h with rfl | ⟨z, rfl, h2⟩
  · exact have_none w
  · exact have_zero h2
set_option maxHeartbeats 1600000 in
theorem add_dead (w : World) (X : Value) (h : DeadT w X) (t r q nt nr pt pr : Int) (nm : ByteArray) (d : Bool) :
    Calls Try.prog 11 #[X, .agg #[.int .i64 t, .int .i64 r, .int .i64 q, .int .i64 nt, .int .i64 nr, .int .i64 pt, .int .i64 pr, .string nm, .bool d]] w fun e w' => e = .returned (.tuple #[.int .i64 0, .int .i64 1]) ∧ Below w.heap.size w w' := by
  have hb := pl_vstep w (.cells #[.int .i64 t, .int .i64 r, .int .i64 q, .int .i64 nt, .int .i64 nr, .int .i64 pt, .int .i64 pr, .string nm, .bool d] 34)
  have H := Lib.hid (h.have.step hb)
  have HB := Lib.hid hb
  clear hb h
  go_enter Try.func11, Try.ntmps11
  go_wp2_with fail
  refine (H.out _ (Below.refl _ _)).mono ?_
  rintro e w1 ⟨rfl, hb⟩
  have B1 := Lib.hid (HB.out.trans (hb.mono HB.out.size))
  have B2 := Lib.hid (B1.out.trans ((pl_vstep w1 (.cells #[.pointer none, .int .i64 0, .int .i64 0, .slice none 0 0] 77)).mono B1.out.size))
  clear hb
  go_wp2
  go_returns
  exact ⟨rfl, B2.out⟩
set_option maxHeartbeats 1600000 in
theorem cut_dead (w : World) (X : Value) (h : DeadT w X) (t r : Int) :
    Calls Try.prog 14 #[X, .agg #[.int .i64 t, .int .i64 r]] w fun e w' => e = .returned (.int .i64 0) ∧ Below w.heap.size w w' := by
  have hb := pl_vstep w (.cells #[.int .i64 t, .int .i64 r] 24)
  have H := Lib.hid (h.have.step hb)
  have HB := Lib.hid hb
  clear hb h
  go_enter Try.func14, Try.ntmps14
  go_wp2_with fail
  refine (H.out _ (Below.refl _ _)).mono ?_
  rintro e w1 ⟨rfl, hb⟩
  have B1 := Lib.hid (HB.out.trans (hb.mono HB.out.size))
  have B2 := Lib.hid (B1.out.trans ((pl_vstep w1 (.cells #[.pointer none, .int .i64 0, .int .i64 0, .slice none 0 0] 77)).mono B1.out.size))
  clear hb
  go_wp2
  go_returns
  exact ⟨rfl, B2.out⟩
/-- The law's op, its zero tree, its list. -/
structure NT (w W : World) (t r q nt nr pt pr : Int) (nm : ByteArray) (d : Bool) : Prop where
  bel : Below w.heap.size w W
  op : W.heap[w.heap.size]? = some (.cells #[.int .i64 t, .int .i64 r, .int .i64 q, .int .i64 nt, .int .i64 nr, .int .i64 pt, .int .i64 pr, .string nm, .bool d] 34 (0, 0))
  z : W.heap[w.heap.size + 1]? = some (.cells #[.pointer none, .int .i64 0, .int .i64 0, .slice none 0 0] 79 (0, 0))
  sl : W.heap[w.heap.size + 1 + 1]? = some (.cells #[.pointer none, .pointer (some ⟨w.heap.size + 1, 0, none⟩)] 27 (0, 0))
theorem NT.step {w W W' : World} {t r q nt nr pt pr : Int} {nm : ByteArray} {d : Bool} (h : NT w W t r q nt nr pt pr nm d) (hb : Below W.heap.size W W') : NT w W' t r q nt nr pt pr nm d :=
  ⟨h.bel.trans (hb.mono h.bel.size), (hb.block _ (pl_lt h.op)).trans h.op, (hb.block _ (pl_lt h.z)).trans h.z, (hb.block _ (pl_lt h.sl)).trans h.sl⟩
theorem NT.new (w : World) (t r q nt nr pt pr : Int) (nm : ByteArray) (d : Bool) : NT w (((w.alloc (.cells #[.int .i64 t, .int .i64 r, .int .i64 q, .int .i64 nt, .int .i64 nr, .int .i64 pt, .int .i64 pr, .string nm, .bool d] 34)).alloc (.cells #[.pointer none, .int .i64 0, .int .i64 0, .slice none 0 0] 79)).alloc (.cells #[.pointer none, .pointer (some ⟨w.heap.size + 1, 0, none⟩)] 27)) t r q nt nr pt pr nm d := by
  have B1 := pl_vstep w (.cells #[.int .i64 t, .int .i64 r, .int .i64 q, .int .i64 nt, .int .i64 nr, .int .i64 pt, .int .i64 pr, .string nm, .bool d] 34)
  have N1 := heap_alloc_new w (.cells #[.int .i64 t, .int .i64 r, .int .i64 q, .int .i64 nt, .int .i64 nr, .int .i64 pt, .int .i64 pr, .string nm, .bool d] 34)
  have z1 : (w.alloc (.cells #[.int .i64 t, .int .i64 r, .int .i64 q, .int .i64 nt, .int .i64 nr, .int .i64 pt, .int .i64 pr, .string nm, .bool d] 34)).heap.size = w.heap.size + 1 := by simp
  generalize w.alloc (.cells #[.int .i64 t, .int .i64 r, .int .i64 q, .int .i64 nt, .int .i64 nr, .int .i64 pt, .int .i64 pr, .string nm, .bool d] 34) = w1 at *
  have B2 := pl_vstep w1 (.cells #[.pointer none, .int .i64 0, .int .i64 0, .slice none 0 0] 79)
  have N2 := heap_alloc_new w1 (.cells #[.pointer none, .int .i64 0, .int .i64 0, .slice none 0 0] 79)
  have z2 : (w1.alloc (.cells #[.pointer none, .int .i64 0, .int .i64 0, .slice none 0 0] 79)).heap.size = w.heap.size + 1 + 1 := by simp [z1]
  rw [z1] at N2
  generalize w1.alloc (.cells #[.pointer none, .int .i64 0, .int .i64 0, .slice none 0 0] 79) = w2 at *
  have B3 := pl_vstep w2 (.cells #[.pointer none, .pointer (some ⟨w.heap.size + 1, 0, none⟩)] 27)
  have N3 := heap_alloc_new w2 (.cells #[.pointer none, .pointer (some ⟨w.heap.size + 1, 0, none⟩)] 27)
  rw [z2] at N3
  exact ⟨B1.trans ((B2.trans (B3.mono B2.size)).mono B1.size), ((B2.trans (B3.mono B2.size)).block _ (pl_lt N1)).trans N1, (B3.block _ (pl_lt N2)).trans N2, N3⟩
theorem NT.at {w W : World} {t r q nt nr pt pr : Int} {nm : ByteArray} {d : Bool} (h : NT w W t r q nt nr pt pr nm d) {i : Nat} (hi : i < 2) : ∃ X, W.cell? ⟨w.heap.size + 1 + 1, i, none⟩ = some X ∧ DeadT W X ∧ ∃ u, X = .pointer u := by
  obtain rfl | rfl : i = 0 ∨ i = 1 := by omega
  · exact ⟨.pointer none, by rw [cell_of_row _ _ _ _ _ _ h.sl]; rfl, .inl rfl, _, rfl⟩
  · exact ⟨.pointer (some ⟨w.heap.size + 1, 0, none⟩), by rw [cell_of_row _ _ _ _ _ _ h.sl]; rfl, .inr ⟨_, rfl, h.z⟩, _, rfl⟩
theorem NT.ldT {w W : World} {t r q nt nr pt pr : Int} {nm : ByteArray} {d : Bool} (h : NT w W t r q nt nr pt pr nm d) : (Instr.loadAt 24 (.pointer (some ⟨w.heap.size, 0, none⟩))).run Try.prog W = .ok (.agg #[.int .i64 t, .int .i64 r]) W ∧ (Instr.loadAt 24 (.pointer (some ⟨w.heap.size, 3, none⟩))).run Try.prog W = .ok (.agg #[.int .i64 nt, .int .i64 nr]) W ∧ (Instr.loadAt 24 (.pointer (some ⟨w.heap.size, 5, none⟩))).run Try.prog W = .ok (.agg #[.int .i64 pt, .int .i64 pr]) W := by
  have c : ∀ (j : Nat) (v : Value), ((#[.int .i64 t, .int .i64 r, .int .i64 q, .int .i64 nt, .int .i64 nr, .int .i64 pt, .int .i64 pr, .string nm, .bool d] : Array Value))[j]? = some v → W.cell? ⟨w.heap.size, j, none⟩ = some v := fun j v hv => (cell_of_row _ _ _ _ _ _ h.op).trans hv
  have d0 := c 0 (.int .i64 t) rfl; have d1 := c 1 (.int .i64 r) rfl; have d3 := c 3 (.int .i64 nt) rfl; have d4 := c 4 (.int .i64 nr) rfl
  have d5 := c 5 (.int .i64 pt) rfl; have d6 := c 6 (.int .i64 pr) rfl
  clear c h
  refine ⟨?_, ?_, ?_⟩ <;> go_simp
end Go.Proofs.Ytkmeceoilighiaa
