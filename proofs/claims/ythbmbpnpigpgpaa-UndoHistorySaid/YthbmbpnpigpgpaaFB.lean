/- Fate's All, Top; the ways of no table. Made by genfb13.py. -/
import Derived.Test.YthbmbpnpigpgpaaUD
set_option linter.unusedVariables false
set_option maxRecDepth 100000
namespace Go.Proofs.Ythbmbpnpigpgpaa
open Go.RowKit Go.WideMaps Go.Maps

/-- The way up of Top: the node's box, the result's. -/
structure UpT (w W : World) (p b : Nat) (l : List Rw) (t r : Int) : Prop where
  bel : Below w.heap.size w W
  tab : TabI W p b l
  one : StAt W w.heap.size t r
  two : StAt W (w.heap.size + 1) 0 0
theorem UpT.step {w W W' : World} {p b : Nat} {l : List Rw} {t r : Int} (h : UpT w W p b l t r) (hb : Below W.heap.size W W') : UpT w W' p b l t r := ⟨h.bel.trans (hb.mono h.bel.size), h.tab.step hb, h.one.step hb, h.two.step hb⟩
theorem UpT.out {w W : World} {p b : Nat} {l : List Rw} {t r : Int} (h : UpT w W p b l t r) : StAt (sets2 W (w.heap.size + 1) (.int .i64 t) (.int .i64 r)) (w.heap.size + 1) t r ∧ Below w.heap.size w (sets2 W (w.heap.size + 1) (.int .i64 t) (.int .i64 r)) :=
  ⟨row_setC (j := 1) (u := .int .i64 r) (row_setC (j := 0) (u := .int .i64 t) h.two), (h.bel.setCell (p := ⟨w.heap.size + 1, 0, none⟩) (Nat.le_succ _) _).setCell (p := ⟨w.heap.size + 1, 1, none⟩) (Nat.le_succ _) _⟩
structure DeT (w W : World) (t r : Int) : Prop where
  bel : Below w.heap.size w W
  one : StAt W w.heap.size t r
  two : StAt W (w.heap.size + 1) 0 0
theorem DeT.step {w W W' : World} {t r : Int} (h : DeT w W t r) (hb : Below W.heap.size W W') : DeT w W' t r := ⟨h.bel.trans (hb.mono h.bel.size), h.one.step hb, h.two.step hb⟩
theorem DeT.out {w W : World} {t r : Int} (h : DeT w W t r) : StAt (sets2 W (w.heap.size + 1) (.int .i64 t) (.int .i64 r)) (w.heap.size + 1) t r ∧ Below w.heap.size w (sets2 W (w.heap.size + 1) (.int .i64 t) (.int .i64 r)) :=
  ⟨row_setC (j := 1) (u := .int .i64 r) (row_setC (j := 0) (u := .int .i64 t) h.two), (h.bel.setCell (p := ⟨w.heap.size + 1, 0, none⟩) (Nat.le_succ _) _).setCell (p := ⟨w.heap.size + 1, 1, none⟩) (Nat.le_succ _) _⟩
end Go.Proofs.Ythbmbpnpigpgpaa

