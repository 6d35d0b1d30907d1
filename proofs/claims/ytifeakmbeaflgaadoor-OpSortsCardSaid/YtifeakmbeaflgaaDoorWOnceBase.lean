/- A reader and a writer side by side: what each call leaves of both. -/
import Derived.Test.YtifeakmbeaflgaaDoorWSame
set_option linter.unusedVariables false
namespace Go.Proofs.YtifeakmbeaflgaaDoor.Wi
open Go.RowKit

theorem WrI.kr {w w' : World} {B a r : Nat} {v : Value} {bs : List Int} (h : WrI w B a v bs) (k : Kr w w' r) (hr : r < B) : WrI w' B a v bs := by
  refine ⟨h.ge, (k.block a (lt_of_block h.blk) (by have := h.ge; omega)).trans h.blk, h.own.kept (row := some r) ⟨k.os, k.tape, k.output, k.size, fun j hj hjr => k.block j hj (fun e => hjr (by rw [e]))⟩ ?_⟩
  cases hv : v.ownBlock with
  | none => exact .inl rfl
  | some q => right; intro e; injection e with e; have := (h.own.lt q hv).1; omega
theorem WrI.far {w : World} {B a : Nat} {v : Value} {bs : List Int} (h : WrI w B a v bs) {p : Addr} (hp : p.block ≠ a) (hv : v.ownBlock ≠ some p.block) (u : Value) : WrI (w.setCell p u) B a v bs :=
  ⟨h.ge, (Below.heap_setCell _ _ _ _ (fun e => hp e.symm)).trans h.blk, ownsRow_setCell_other h.own hv u⟩
theorem RdI.eff {w w' : World} {B B2 M r a : Nat} {s : St} {v v' : Value} {bs : List Int} (h : RdI w B M r s) (e : Eff w w' a v v') (hw : WrI w B2 a v bs) (hM : M ≤ B2) (hr : r < B2) : RdI w' B M r s := by
  have hge := hw.ge
  have hown := own_ge hw.own
  have same : ∀ k, k < w.heap.size → k < B2 → w'.heap[k]? = w.heap[k]? := fun k hk hkB => e.block k hk (by omega) (fun c => by have := hown k c.symm; omega)
  obtain ⟨v, hbl, ao, cap, rfl, hcap, hmax, hcells⟩ := h.blk
  refine ⟨h.ge, ⟨_, (same r (lt_of_block hbl) hr).trans hbl, ao, cap, rfl, hcap, hmax, fun hne => ?_⟩, h.byt, h.len, Nat.le_trans h.top e.size⟩
  obtain ⟨g, off, rfl, hgr, hc⟩ := hcells hne
  refine ⟨g, off, rfl, hgr, fun j x hj => ?_⟩
  have h1 := hc j x hj
  have hlt : g < w.heap.size := World.block_lt_of_cell? w _ h1
  rw [World.cell?_of_block (w := w) (a := ⟨g, off + j, none⟩) (same g hlt (by have := hgr.2; omega))]
  exact h1

end Go.Proofs.YtifeakmbeaflgaaDoor.Wi
