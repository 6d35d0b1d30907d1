/- What the log's texts say of worlds, again. -/
import Derived.Test.YtbeodechhneeeaaGreatDoorFA
set_option linter.unusedVariables false
set_option linter.unusedSimpArgs false
set_option maxRecDepth 100000
namespace Go.Proofs.YtbeodechhneeeaaGreatDoor
open Go.RowKit
open Tb (Rw TabI TM)

structure Far (P : Nat → Prop) (w w' : World) : Prop where
  os : w'.os = w.os
  tape : w'.tape = w.tape
  output : w'.output = w.output
  size : w.heap.size ≤ w'.heap.size
  block : ∀ k, k < w.heap.size → ¬ P k → w'.heap[k]? = w.heap[k]?
theorem Far.of_grown {P : Nat → Prop} {w w' : World} {row : Option Nat} (h : w.grownBy w' row) (hr : ∀ k, row = some k → P k) : Far P w w' :=
  ⟨h.os, h.tape, h.output, h.size, fun k hk hn => h.block k hk (fun e => hn (hr k e.symm))⟩
theorem Far.of_below {P : Nat → Prop} {w w' : World} (h : Below w.heap.size w w') : Far P w w' := ⟨h.os, h.tape, h.output, h.size, fun k hk _ => h.block k hk⟩
theorem Far.refl (P : Nat → Prop) (w : World) : Far P w w := ⟨rfl, rfl, rfl, Nat.le_refl _, fun _ _ _ => rfl⟩
theorem Far.trans {P Q : Nat → Prop} {w w1 w2 : World} (h1 : Far P w w1) (h2 : Far Q w1 w2) (hq : ∀ k, k < w.heap.size → Q k → P k) : Far P w w2 :=
  ⟨h2.os.trans h1.os, h2.tape.trans h1.tape, h2.output.trans h1.output, Nat.le_trans h1.size h2.size, fun k hk hn => (h2.block k (Nat.lt_of_lt_of_le hk h1.size) (fun q => hn (hq k hk q))).trans (h1.block k hk hn)⟩
theorem Far.below {P : Nat → Prop} {w w' : World} {B : Nat} (h : Far P w w') (hB : B ≤ w.heap.size) (hp : ∀ k, P k → B ≤ k) : Below B w w' :=
  (⟨h.os, h.tape, h.output, h.size, fun k hk => h.block k (Nat.lt_of_lt_of_le hk hB) (fun q => by have := hp k q; omega)⟩)
theorem Far.row {P : Nat → Prop} {w w' : World} (h : Far P w w') {B e k n : Nat} {v : Value} {xs : List Value} (ho : w.ownsRow B e k v n xs) (hn : ∀ j, v.ownBlock = some j → ¬ P j) : w'.ownsRow B e k v n xs := by
  refine ⟨ho.1, ?_⟩
  rcases ho.2 with h0 | ⟨g, cap, cur, rfl, hB, hb, h1⟩
  · exact .inl h0
  · exact .inr ⟨g, cap, cur, rfl, hB, (h.block g (lt_of_block hb) (hn g rfl)).trans hb, h1⟩
theorem Far.tm {P : Nat → Prop} {w w' : World} (hf : Far P w w') {b : Nat} {l : List Rw} (h : TM w b l) (hn : ¬ P b) : TM w' b l := by
  have hlt := h.lt
  obtain ⟨es, ⟨es', clock, hb, F, hs, hD⟩, h2⟩ := h
  exact ⟨es, ⟨es', clock, (hf.block b hlt hn).trans hb, F, hs, hD⟩, h2⟩
theorem Far.tab {P : Nat → Prop} {w w' : World} (hf : Far P w w') {q b : Nat} {l : List Rw} (h : TabI w q b l) (hq : ¬ P q) (hn : ¬ P b) : TabI w' q b l :=
  ⟨(hf.block q h.plt hq).trans h.box, hf.tm h.map hn⟩
theorem map_ne {W : World} {a b : Nat} {c : Array Value} {s : TypeId} {f : Nat × Nat} {l : List Rw} (h : W.heap[a]? = some (.cells c s f)) (k : TM W b l) : a ≠ b := fun e => by
  obtain ⟨es, ⟨es', c', hb', _⟩, _⟩ := k
  rw [e, hb'] at h; cases h
theorem wpList_alc {P : Program} {w : World} {ops : Array Oper} {rest : List Oper} {o : Oper} {a : Act} {Q : Exit → Act → World → Prop} (hgd : o.guard = none) (ty : TypeId)
    (ho : o.op = .alloc ty) (u : Value) (w' : World) (hr : (Instr.alloc ty true (.tuple #[])).run P w = .ok u w')
    (h : wpList P ops Q rest (a.put o.dst u) w') : wpList P ops Q (o :: rest) a w :=
  wpList_plain hgd fun _ hK => by
    unfold Oper.wp execOp
    simp only [ho, hr, Sem.run_bind, Sem.run_pure, Result.andThen_ok]
    exact hK _ _ h
theorem wpList_sto {P : Program} {w : World} {ops : Array Oper} {rest : List Oper} {o : Oper} {a : Act} {Q : Exit → Act → World → Prop} (hgd : o.guard = none) (x y : Operand) (ty : TypeId)
    (ho : o.op = .store ty x y) (p v : Value) (hx : a.eval x = p) (hy : a.eval y = v) (w' : World) (hr : (Instr.storeAt ty p v).run P w = .ok () w')
    (h : wpList P ops Q rest (a.put o.dst undef) w') : wpList P ops Q (o :: rest) a w :=
  wpList_plain hgd fun _ hK => by
    unfold Oper.wp execOp
    simp only [ho, hx, hy, hr, Sem.run_bind, Sem.run_pure, Result.andThen_ok]
    exact hK _ _ h
end Go.Proofs.YtbeodechhneeeaaGreatDoor

