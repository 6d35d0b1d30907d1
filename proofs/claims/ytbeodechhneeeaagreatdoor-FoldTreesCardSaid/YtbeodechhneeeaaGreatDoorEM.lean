/- The tree, plain: ops done and undone upon a table; the log. -/
import Derived.Test.YtbeodechhneeeaaGreatDoorMU
import Derived.Test.YtbeodechhneeeaaGreatDoorES
import Derived.Test.YtbeodechhneeeaaGreatDoorOZ
set_option linter.unusedVariables false
set_option linter.unusedSimpArgs false
namespace Go.Proofs.YtbeodechhneeeaaGreatDoor
open Go.RowKit
open Tb (Rw setF dropF getF aboveF Rise ltR ltS sameN isN stOf)

def rwO (o : O) : Rw := ⟨o.nt, o.nr, o.pt, o.pr, o.nm, o.d⟩
def skipF (T : List Rw) (o : O) : Bool := decide (o.nt = o.pt ∧ o.nr = o.pr) || aboveF T o.nt o.nr T.length o.pt o.pr
def doF (T : List Rw) (o : O) : List Rw := if skipF T o = true then T else setF T (rwO o)
def playF (T : List Rw) (L : List O) : List Rw := L.foldl doF T
def undoF (s : Stp) (T : List Rw) : List Rw := if s.did = true then (if s.had = true then setF T ⟨s.o.nt, s.o.nr, s.wt, s.wr, s.wn, s.wd⟩ else dropF T s.o.nt s.o.nr) else T
theorem do_rise {T : List Rw} (h : Rise T) (o : O) : Rise (doF T o) := by
  unfold doF
  split
  · exact h
  · exact Tb.rise_set h _
theorem play_rise : ∀ (L : List O) {T : List Rw}, Rise T → Rise (playF T L)
  | [], _, h => h
  | o :: L, _, h => play_rise L (do_rise h o)
theorem play_append (T : List Rw) (A B : List O) : playF T (A ++ B) = playF (playF T A) B := List.foldl_append
inductive Anc (T : List Rw) : Int × Int → Int × Int → Prop
  | one {s : Int × Int} {x : Rw} : getF T s.1 s.2 = some x → Anc T s (x.pt, x.pr)
  | more {s n : Int × Int} {x : Rw} : getF T s.1 s.2 = some x → Anc T (x.pt, x.pr) n → Anc T s n
theorem Anc.trans {T : List Rw} {a b c : Int × Int} (h1 : Anc T a b) (h2 : Anc T b c) : Anc T a c := by
  induction h1 with
  | one h => exact .more h h2
  | more h _ ih => exact .more h (ih h2)
def upF (T : List Rw) (s : Int × Int) : Int × Int := match getF T s.1 s.2 with | some x => (x.pt, x.pr) | none => s
def nthF (T : List Rw) : Nat → Int × Int → Int × Int
  | 0, s => s
  | i + 1, s => nthF T i (upF T s)
def Reach (T : List Rw) (s n : Int × Int) (i : Nat) : Prop := 1 ≤ i ∧ nthF T i s = n ∧ ∀ j, j < i → ∃ x, getF T (nthF T j s).1 (nthF T j s).2 = some x
end Go.Proofs.YtbeodechhneeeaaGreatDoor


