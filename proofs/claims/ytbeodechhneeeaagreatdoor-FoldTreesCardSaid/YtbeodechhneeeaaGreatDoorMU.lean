/- Merged by tools/merge.py: UA, UB, UC, UD, UE, UF. -/
import Derived.Test.YtbeodechhneeeaaGreatDoorMT
import Derived.Deep.RegionHeld3
import Derived.MapKept
import Derived.Lib.SlicesS
set_option linter.unusedVariables false
set_option maxRecDepth 100000
namespace Go.Proofs.YtbeodechhneeeaaGreatDoor.Tb
open Go.RowKit Go.WideMaps Go.Maps

def Dead (w : World) (u : Value) : Prop := u = .pointer none ∨ ∃ z, u = .pointer (some ⟨z, 0, none⟩) ∧ w.heap[z]? = some (.cells #[.map none] 86 (0, 0))
theorem Dead.step {w w' : World} {u : Value} (h : Dead w u) (hb : Below w.heap.size w w') : Dead w' u := by
  rcases h with h | ⟨z, h1, h2⟩
  · exact .inl h
  · exact .inr ⟨z, h1, (hb.block z (lt_of_block h2)).trans h2⟩
end Go.Proofs.YtbeodechhneeeaaGreatDoor.Tb


set_option linter.unusedVariables false
set_option maxRecDepth 100000
namespace Go.Proofs.YtbeodechhneeeaaGreatDoor.Tb
open Go.RowKit Go.WideMaps Go.Maps

structure Nob (w W : World) (t r pt pr : Int) (nm : ByteArray) (d : Bool) : Prop where
  bel : Below w.heap.size w W
  st : StAt W w.heap.size t r
  en : EnB 70 W (w.heap.size + 1) pt pr nm d
  z : W.heap[w.heap.size + 2]? = some (.cells #[.map none] 86 (0, 0))
  sl : W.heap[w.heap.size + 3]? = some (.cells #[.pointer none, .pointer (some ⟨w.heap.size + 2, 0, none⟩)] 40 (0, 0))
theorem Nob.step {w W W' : World} {t r pt pr : Int} {nm : ByteArray} {d : Bool} (h : Nob w W t r pt pr nm d) (hb : Below W.heap.size W W') : Nob w W' t r pt pr nm d :=
  ⟨h.bel.trans (hb.mono h.bel.size), h.st.step hb, h.en.step hb, (hb.block _ (lt_of_block h.z)).trans h.z, (hb.block _ (lt_of_block h.sl)).trans h.sl⟩
theorem Nob.at {w W : World} {t r pt pr : Int} {nm : ByteArray} {d : Bool} (h : Nob w W t r pt pr nm d) {i : Nat} (hi : i < 2) : ∃ u, W.cell? ⟨w.heap.size + 3, i, none⟩ = some u ∧ Dead W u := by
  obtain rfl | rfl : i = 0 ∨ i = 1 := by omega
  · exact ⟨.pointer none, by rw [cell_of_row _ _ _ _ _ _ h.sl]; rfl, .inl rfl⟩
  · exact ⟨.pointer (some ⟨w.heap.size + 2, 0, none⟩), by rw [cell_of_row _ _ _ _ _ _ h.sl]; rfl, .inr ⟨_, rfl, h.z⟩⟩
end Go.Proofs.YtbeodechhneeeaaGreatDoor.Tb


set_option linter.unusedVariables false
set_option maxRecDepth 100000
namespace Go.Proofs.YtbeodechhneeeaaGreatDoor.Tb
open Go.RowKit Go.WideMaps Go.Maps

theorem take_snoc {α : Type} {l : List α} {i : Nat} {x : α} (h : l[i]? = some x) : l.take (i + 1) = l.take i ++ [x] := by
  obtain ⟨hl, he⟩ := List.getElem?_eq_some_iff.1 h
  rw [List.take_succ_eq_append_getElem hl, he]
end Go.Proofs.YtbeodechhneeeaaGreatDoor.Tb


set_option linter.unusedVariables false
set_option maxRecDepth 100000
namespace Go.Proofs.YtbeodechhneeeaaGreatDoor.Tb
open Go.RowKit Go.WideMaps Go.Maps

structure Ac where
  k : Int
  t : Int
  r : Int
  pt : Int
  pr : Int
  nm : ByteArray
  d : Bool
def Ac.ok (x : Ac) : Prop := I64 x.k ∧ I64 x.t ∧ I64 x.r ∧ I64 x.pt ∧ I64 x.pr
theorem same_self (w : World) (v1 v2 : Value) (l : List Sp) (h1 : LiesK encS 2 w v1 l) (h2 : LiesK encS 2 w v2 l) : Calls Tryz.prog 26 #[v1, v2] w fun e w' => e = .returned (.bool true) ∧ Below w.heap.size w w' :=
  (same_any w v1 v2 l l h1 h2).mono (by rintro e w' ⟨rfl, hb⟩; exact ⟨by rw [decide_eq_true rfl], hb⟩)
/-- Between two acts. -/
structure PI (w W : World) (p b : Nat) (m : List Rw) (q1 q2 : Int) (rv : Value) (mr : List Rw) : Prop where
  tab : TabI W p b m
  st : StAt W w.heap.size q1 q2
  bel : Below w.heap.size w W
  ne : w.heap.size < b
  rows : LiesR W rv mr
theorem PI.step {w W W' : World} {p b : Nat} {m mr : List Rw} {q1 q2 : Int} {rv : Value} (h : PI w W p b m q1 q2 rv mr) (hb : Below W.heap.size W W') : PI w W' p b m q1 q2 rv mr :=
  ⟨h.tab.step hb, h.st.step hb, h.bel.trans (hb.mono h.bel.size), h.ne, h.rows.step hb⟩
end Go.Proofs.YtbeodechhneeeaaGreatDoor.Tb


set_option linter.unusedVariables false
set_option linter.unusedSimpArgs false
set_option maxRecDepth 100000
namespace Go.Proofs.YtbeodechhneeeaaGreatDoor.Tb
open Go.RowKit Go.WideMaps Go.Maps

end Go.Proofs.YtbeodechhneeeaaGreatDoor.Tb


set_option linter.unusedVariables false
set_option linter.unusedSimpArgs false
set_option maxRecDepth 100000
namespace Go.Proofs.YtbeodechhneeeaaGreatDoor.Tb
open Go.RowKit Go.WideMaps Go.Maps

noncomputable instance : DecidableEq Rw := fun a b => Classical.propDecidable (a = b)
end Go.Proofs.YtbeodechhneeeaaGreatDoor.Tb



