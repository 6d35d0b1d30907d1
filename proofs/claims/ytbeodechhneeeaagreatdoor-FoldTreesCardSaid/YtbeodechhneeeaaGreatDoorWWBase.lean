/- What a writer holds, and what a writing call turns. -/
import Derived.Test.YtbeodechhneeeaaGreatDoorRows
import Derived.Test.YtbeodechhneeeaaGreatDoorWOwn
import Derived.WalkKit
import Derived.WalkSpells
import Derived.Lib.Hide
import Derived.Lib.Walk
import Derived.OneCell
set_option linter.unusedVariables false
namespace Go.Proofs.YtbeodechhneeeaaGreatDoor.Wi
open Go.RowKit

/-- Bytes as cells. -/
def u8s (l : List Int) : List Value := l.map (Value.int .u8)
/-- A writer at block a, which holds the slice v of these bytes. -/
structure WrI (w : World) (B a : Nat) (v : Value) (bs : List Int) : Prop where
  ge : B ≤ a
  blk : w.heap[a]? = some (.cells #[v] 42 (0, 0))
  own : w.ownsRow B 5 1 v bs.length (u8s bs)

/-- Nothing has turned but block a, and the block of the row v; the row lies now where it lay, or in a new block. -/
structure Eff (w w' : World) (a : Nat) (v v' : Value) : Prop where
  os : w'.os = w.os
  tape : w'.tape = w.tape
  output : w'.output = w.output
  size : w.heap.size ≤ w'.heap.size
  block : ∀ k, k < w.heap.size → k ≠ a → some k ≠ v.ownBlock → w'.heap[k]? = w.heap[k]?
  spr : Sprung w v v'
theorem Eff.refl (w : World) (a : Nat) (v : Value) : Eff w w a v v := ⟨rfl, rfl, rfl, Nat.le_refl _, fun _ _ _ _ => rfl, .inl rfl⟩
theorem Eff.trans {w w1 w2 : World} {a : Nat} {v v1 v2 : Value} (h : Eff w w1 a v v1) (k : Eff w1 w2 a v1 v2) : Eff w w2 a v v2 := by
  refine ⟨k.os.trans h.os, k.tape.trans h.tape, k.output.trans h.output, Nat.le_trans h.size k.size, ?_, ?_⟩
  · intro j hj hja hjv
    rw [k.block j (Nat.lt_of_lt_of_le hj h.size) hja ?_, h.block j hj hja hjv]
    rcases h.spr with e | ⟨q, e, hq⟩
    · rw [e]; exact hjv
    · rw [e]; intro c; injection c with c; omega
  · rcases k.spr with e | ⟨q, e, hq⟩
    · rcases h.spr with e' | ⟨q', e', hq'⟩
      · exact .inl (e.trans e')
      · exact .inr ⟨q', e.trans e', hq'⟩
    · exact .inr ⟨q, e, Nat.le_trans h.size hq⟩
theorem own_ge {w : World} {B e size n : Nat} {v : Value} {xs : List Value} (h : w.ownsRow B e size v n xs) : ∀ k, v.ownBlock = some k → B ≤ k := fun k hk => (h.lt k hk).1
theorem Eff.below {w w' : World} {a B : Nat} {v v' : Value} {bs : List Int} (h : Eff w w' a v v') (hw : WrI w B a v bs) (hB : B ≤ w.heap.size) : Below B w w' :=
  ⟨h.os, h.tape, h.output, h.size, fun k hk => h.block k (by omega) (by have := hw.ge; omega) (fun c => by have := own_ge hw.own k c.symm; omega)⟩

theorem WrI.cells {w : World} {B a : Nat} {v : Value} {bs : List Int} (h : WrI w B a v bs) : w.cell? ⟨a, 0, none⟩ = some v ∧ w.frozen? ⟨a, 0, none⟩ = false := ⟨cell_of_one h.blk, free_of_one h.blk⟩
end Go.Proofs.YtbeodechhneeeaaGreatDoor.Wi





