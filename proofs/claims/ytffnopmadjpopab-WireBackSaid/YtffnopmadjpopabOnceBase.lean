/- A reader and a writer side by side: what each call leaves of both. -/
import Derived.Test.YtffnopmadjpopabSame
set_option linter.unusedVariables false
namespace Go.Proofs.Ytffnopmadjpopab
open Go.RowKit

theorem WrI.kr {w w' : World} {B a r : Nat} {v : Value} {bs : List Int} (h : WrI w B a v bs) (k : Kr w w' r) (hr : r < B) : WrI w' B a v bs := by
  refine ⟨h.ge, (k.block a (lt_of_block h.blk) (by have := h.ge; omega)).trans h.blk, h.own.kept (row := some r) ⟨k.os, k.tape, k.output, k.size, fun j hj hjr => k.block j hj (fun e => hjr (by rw [e]))⟩ ?_⟩
  cases hv : v.ownBlock with
  | none => exact .inl rfl
  | some q => right; intro e; injection e with e; have := (h.own.lt q hv).1; omega
theorem WrI.far {w : World} {B a : Nat} {v : Value} {bs : List Int} (h : WrI w B a v bs) {p : Addr} (hp : p.block ≠ a) (hv : v.ownBlock ≠ some p.block) (u : Value) : WrI (w.setCell p u) B a v bs :=
  ⟨h.ge, (Below.heap_setCell _ _ _ _ (fun e => hp e.symm)).trans h.blk, ownsRow_setCell_other h.own hv u⟩
theorem RdI.eff {w w' : World} {B B2 M r a : Nat} {s : St} {v v' : Value} {bs : List Int} (h : RdI w B M r s) (e : Eff w w' a v v') (hw : WrI w B2 a v bs) (hM : M ≤ B2) (hr : r < B2) : RdI w' B M r s := by
  have hge := hw.ge
  have hown := own_ge hw.own
  have same : ∀ k, k < w.heap.size → k < B2 → w'.heap[k]? = w.heap[k]? := fun k hk hkB => e.block k hk (by omega) (fun c => by have := hown k c.symm; omega)
  obtain ⟨v, hbl, ao, cap, rfl, hcap, hmax, hcells⟩ := h.blk
  refine ⟨h.ge, ⟨_, (same r (lt_of_block hbl) hr).trans hbl, ao, cap, rfl, hcap, hmax, fun hne => ?_⟩, h.byt, h.len, Nat.le_trans h.top e.size⟩
  obtain ⟨g, off, rfl, hgr, hc⟩ := hcells hne
  refine ⟨g, off, rfl, hgr, fun j x hj => ?_⟩
  have h1 := hc j x hj
  have hlt : g < w.heap.size := World.block_lt_of_cell? w _ h1
  rw [World.cell?_of_block (w := w) (a := ⟨g, off + j, none⟩) (same g hlt (by have := hgr.2; omega))]
  exact h1

theorem five_free {w : World} {q : Nat} {row : Array Value} {t : TypeId} (h : w.heap[q]? = some (.cells row t (0, 0))) :
    w.frozen? ⟨q, 0, none⟩ = false ∧ w.frozen? ⟨q, 1, none⟩ = false ∧ w.frozen? ⟨q, 2, none⟩ = false ∧ w.frozen? ⟨q, 3, none⟩ = false ∧ w.frozen? ⟨q, 4, none⟩ = false :=
  ⟨frozen_of_row _ _ _ _ _ h, frozen_of_row _ _ _ _ _ h, frozen_of_row _ _ _ _ _ h, frozen_of_row _ _ _ _ _ h, frozen_of_row _ _ _ _ _ h⟩

/-- At the head of a round. -/
structure OI (w wr : World) (B2 M a r : Nat) (v : Value) (out : List Int) (s : St) : Prop where
  rd : RdI wr w.heap.size M r s
  wt : WrI wr B2 a v out
  below : Below w.heap.size w wr
  hM : M ≤ B2
  hr : r < B2
  hB : B2 ≤ wr.heap.size
  hw : w.heap.size ≤ B2

/-- Within a round: a part lies in block q, besides. -/
structure OQ (w W : World) (q B2 M a r : Nat) (v : Value) (out : List Int) (t : St) (row : Array Value) : Prop where
  oi : OI w W B2 M a r v out t
  blk : W.heap[q]? = some (.cells row 30 (0, 0))
  hqM : M ≤ q
  hqr : q ≠ r
  hqa : q ≠ a
  hqv : v.ownBlock ≠ some q
  hqw : w.heap.size ≤ q

theorem OI.made {w wr : World} {B2 M a r : Nat} {v : Value} {out : List Int} {s : St} (h : OI w wr B2 M a r v out s) (row : Array Value) :
    OQ w (wr.alloc (.cells row 30)) wr.heap.size B2 M a r v out s row := by
  have hX := (Below.refl wr.heap.size wr).alloc (Nat.le_refl _) (.cells row 30)
  have hz := h.below.size
  have ha := lt_of_block h.wt.blk
  have hr : r < wr.heap.size := by have := h.hr; have := h.hB; omega
  refine ⟨⟨h.rd.old hX, h.wt.old hX, h.below.trans (hX.mono hz), h.hM, h.hr, by have := h.hB; simp; omega, h.hw⟩, heap_alloc_new wr _, h.rd.top, by omega, by omega, ?_, hz⟩
  intro c
  have := (h.wt.own.lt _ c).2
  omega
theorem OQ.read {w W W1 : World} {q B2 M a r : Nat} {v : Value} {out : List Int} {s t : St} {row : Array Value} (h : OQ w W q B2 M a r v out s row) (k : RdOut W W1 w.heap.size M r t) : OQ w W1 q B2 M a r v out t row := by
  have hsz := h.oi.below.size
  refine ⟨⟨k.1, h.oi.wt.kr k.2 h.oi.hr, h.oi.below.trans (k.2.below (k.1.ge) hsz), h.oi.hM, h.oi.hr, Nat.le_trans h.oi.hB k.2.size, h.oi.hw⟩, (k.2.block q (lt_of_block h.blk) h.hqr).trans h.blk, h.hqM, h.hqr, h.hqa, h.hqv, h.hqw⟩
theorem OQ.set {w W : World} {q B2 M a r : Nat} {v : Value} {out : List Int} {s : St} {row : Array Value} (h : OQ w W q B2 M a r v out s row) (j : Nat) (u : Value) :
    OQ w (W.setCell ⟨q, j, none⟩ u) q B2 M a r v out s (row.setIfInBounds j u) :=
  ⟨⟨h.oi.rd.far h.hqM h.hqr u, h.oi.wt.far h.hqa h.hqv u, h.oi.below.setCell h.hqw u, h.oi.hM, h.oi.hr, by have := h.oi.hB; simpa [World.setCell] using this, h.oi.hw⟩, row_setC h.blk, h.hqM, h.hqr, h.hqa, h.hqv, h.hqw⟩
theorem OQ.wrote {w W W3 : World} {q B2 M a r : Nat} {v : Value} {out l : List Int} {t : St} {row : Array Value} {x : Value} (h : OQ w W q B2 M a r v out t row) (k : WsOut W W3 B2 a v out x l) : ∃ v', OI w W3 B2 M a r v' (out ++ l) t := by
  obtain ⟨⟨v', hW, hE⟩, _⟩ := k
  have hsz := h.oi.below.size
  exact ⟨v', h.oi.rd.eff hE h.oi.wt h.oi.hM h.oi.hr, hW, h.oi.below.trans ((hE.below h.oi.wt h.oi.hB).mono h.oi.hw), h.oi.hM, h.oi.hr, Nat.le_trans h.oi.hB hE.size, h.oi.hw⟩
end Go.Proofs.Ytffnopmadjpopab
