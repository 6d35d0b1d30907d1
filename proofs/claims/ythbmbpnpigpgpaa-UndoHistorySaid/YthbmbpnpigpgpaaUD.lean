/- TablePlays' law. Made by genud13.py, with tools/drawn.py. -/
import Derived.Test.YthbmbpnpigpgpaaUA
import Derived.Test.YthbmbpnpigpgpaaUB
set_option linter.unusedVariables false
set_option maxRecDepth 100000
namespace Go.Proofs.Ythbmbpnpigpgpaa
open Go.RowKit Go.WideMaps Go.Maps

structure Ac where
  k : Int
  t : Int
  r : Int
  pt : Int
  pr : Int
  nm : ByteArray
  d : Bool
def Ac.ok (x : Ac) : Prop := I64 x.k ∧ I64 x.t ∧ I64 x.r ∧ I64 x.pt ∧ I64 x.pr
/-- Between two acts. -/
structure PI (w W : World) (p b : Nat) (m : List Rw) (q1 q2 : Int) (rv : Value) (mr : List Rw) : Prop where
  tab : TabI W p b m
  st : StAt W w.heap.size q1 q2
  bel : Below w.heap.size w W
  ne : w.heap.size < b
  rows : LiesR W rv mr
theorem PI.step {w W W' : World} {p b : Nat} {m mr : List Rw} {q1 q2 : Int} {rv : Value} (h : PI w W p b m q1 q2 rv mr) (hb : Below W.heap.size W W') : PI w W' p b m q1 q2 rv mr :=
  ⟨h.tab.step hb, h.st.step hb, h.bel.trans (hb.mono h.bel.size), h.ne, h.rows.step hb⟩
end Go.Proofs.Ythbmbpnpigpgpaa

