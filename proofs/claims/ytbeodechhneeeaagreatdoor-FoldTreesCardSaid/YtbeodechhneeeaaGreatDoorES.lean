/- A step of the log; the log's places, plain. -/
import Derived.Test.YtbeodechhneeeaaGreatDoorOZ
import Derived.Test.YtbeodechhneeeaaGreatDoorTB
import Derived.Test.YtbeodechhneeeaaGreatDoorTRk
import Derived.Test.YtbeodechhneeeaaGreatDoorProg
set_option linter.unusedVariables false
set_option linter.unusedSimpArgs false
set_option maxRecDepth 100000
namespace Go.Proofs.YtbeodechhneeeaaGreatDoor
open Go.RowKit
open Tb (ltS)

/-- A step of the log: an op, whether it did something, and what there was. -/
structure Stp where
  o : O
  did : Bool
  had : Bool
  wt : Int
  wr : Int
  wn : ByteArray
  wd : Bool
def stCells (s : Stp) : Array Value := #[.int .i64 s.o.t, .int .i64 s.o.r, .int .i64 s.o.q, .int .i64 s.o.nt, .int .i64 s.o.nr, .int .i64 s.o.pt, .int .i64 s.o.pr, .string s.o.nm, .bool s.o.d, .bool s.did, .bool s.had, .int .i64 s.wt, .int .i64 s.wr, .string s.wn, .bool s.wd]
def stc1 (s : Stp) : List Value := (stCells s).toList
def hasO (L : List O) (t r : Int) : Bool := L.any (fun x => decide (x.t = t ∧ x.r = r))
abbrev pv (b : Nat) : Value := .pointer (some ⟨b, 0, none⟩)
end Go.Proofs.YtbeodechhneeeaaGreatDoor


