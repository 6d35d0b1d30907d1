/- op.Get. Made by genof7.py. -/
import Derived.Test.YtkmeceoilighiaaOC
set_option linter.unusedVariables false
namespace Go.Proofs.Ytkmeceoilighiaa
open Go.RowKit

structure O where
  t : Int
  r : Int
  q : Int
  nt : Int
  nr : Int
  pt : Int
  pr : Int
  nm : ByteArray
  d : Bool
def O0 : O := ⟨0, 0, 0, 0, 0, 0, 0, ⟨#[]⟩, false⟩
def oCells (o : O) : Array Value := #[.int .i64 o.t, .int .i64 o.r, .int .i64 o.q, .int .i64 o.nt, .int .i64 o.nr, .int .i64 o.pt, .int .i64 o.pr, .string o.nm, .bool o.d]
def oV (o : O) : Value := .agg (oCells o)
end Go.Proofs.Ytkmeceoilighiaa



