/-
  No cell of these rows narrows 'for every input' (looked for: loops, veiled, ifaces, maps, wideKeys, modest, calm, conditions, laid).
  DERIVED. THE GIVEN ROWS OF THIS SEAT. 3 by the template 'for every input the law returns true; each argument reads behind the call as it read before'; 0 by the template 'total and deterministic' (their statements: YtgnnpfainoppeaaTotals.lean).
  GIVEN WITH THE SEED: the statements are not yours to turn. If you find one false, say at which input.
  Laid BY PROGRAM, IN A SANDBOX (cutbox-rows.mjs): the forced cells as the released guide's own fill.sh prints them over the translation 5aa7a595a26de207… (all of the seat's roots in one cut). By AI agents, Wed Nov 11 2026. No macro, syntax, notation, axiom, sorry.
-/
import Derived.Test.YtgnnpfainoppeaaChecked
import GoSem.Claim
import GoSem.ClaimJoined
import GoSem.ClaimMapViews
import Derived.JoinedTies
import Derived.KernelRfl
namespace Go.Proofs.Ytgnnpfainoppeaa
/- THE CELL 'sum', in the pinned program and in every row, IS THE sha256 OF THE DUMP (.gsa) THAT YtgnnpfainoppeaaProg.lean LOADS. Nothing in Lean hashes anything: it is a label: what it is worth is what the hold of that sum in a sandbox is worth. -/
noncomputable def Try.pinned : Pinned := { name := "ytgnnpfainoppeaa", sum := "5aa7a595a26de207367cfd9387490d1622fecd0ffb4bbbd0cb00359622d5ea31", checked := Try.checked }
namespace Rows
def none {H : Type} : Left H := { results := [], args := [] }

/-- 'banyanlaw28.GapPlays': WHATEVER THE INPUT: true; the input reads as it did. -/
def gapPlaysSpec : ChangeSpec := { name := "gapPlays", fn := fun _ => fun
  | [d] => { results := [.lit (.bool true)], args := [d] }
  | _ => none }
def gapPlaysRow : OpenClaim := { program := "ytgnnpfainoppeaa", sum := "5aa7a595a26de207367cfd9387490d1622fecd0ffb4bbbd0cb00359622d5ea31", func := "banyan/banyanlaw28.GapPlays", spec := "gapPlays", unfollowed := true, recurses := true, plainKeys := false, apart := false }
def GapPlaysSaid : Prop := gapPlaysRow.holds Try.pinned (OpenSpec.ofChange gapPlaysSpec)

/-- ITS FALSE NEIGHBOUR: 'it returns false'. Refute it at one input. -/
def gapPlaysWrong : ChangeSpec := { name := "gapPlays", fn := fun _ => fun
  | [d] => { results := [.lit (.bool false)], args := [d] }
  | _ => none }
def GapPlaysWrongFalsely : Prop := gapPlaysRow.holds Try.pinned (OpenSpec.ofChange gapPlaysWrong)

/-- 'banyanlaw28.GapTurns': WHATEVER THE INPUT: true; the input reads as it did. -/
def gapTurnsSpec : ChangeSpec := { name := "gapTurns", fn := fun _ => fun
  | [d1, d2] => { results := [.lit (.bool true)], args := [d1, d2] }
  | _ => none }
def gapTurnsRow : OpenClaim := { program := "ytgnnpfainoppeaa", sum := "5aa7a595a26de207367cfd9387490d1622fecd0ffb4bbbd0cb00359622d5ea31", func := "banyan/banyanlaw28.GapTurns", spec := "gapTurns", unfollowed := true, recurses := true, plainKeys := false, apart := false }
def GapTurnsSaid : Prop := gapTurnsRow.holds Try.pinned (OpenSpec.ofChange gapTurnsSpec)

/-- ITS FALSE NEIGHBOUR: 'it returns false'. Refute it at one input. -/
def gapTurnsWrong : ChangeSpec := { name := "gapTurns", fn := fun _ => fun
  | [d1, d2] => { results := [.lit (.bool false)], args := [d1, d2] }
  | _ => none }
def GapTurnsWrongFalsely : Prop := gapTurnsRow.holds Try.pinned (OpenSpec.ofChange gapTurnsWrong)

/-- 'banyanlaw28.GapNobody': WHATEVER THE INPUT: true; the input reads as it did. -/
def gapNobodySpec : ChangeSpec := { name := "gapNobody", fn := fun _ => fun
  | [d1, d2] => { results := [.lit (.bool true)], args := [d1, d2] }
  | _ => none }
def gapNobodyRow : OpenClaim := { program := "ytgnnpfainoppeaa", sum := "5aa7a595a26de207367cfd9387490d1622fecd0ffb4bbbd0cb00359622d5ea31", func := "banyan/banyanlaw28.GapNobody", spec := "gapNobody", unfollowed := true, recurses := true, plainKeys := false, apart := false }
def GapNobodySaid : Prop := gapNobodyRow.holds Try.pinned (OpenSpec.ofChange gapNobodySpec)

/-- ITS FALSE NEIGHBOUR: 'it returns false'. Refute it at one input. -/
def gapNobodyWrong : ChangeSpec := { name := "gapNobody", fn := fun _ => fun
  | [d1, d2] => { results := [.lit (.bool false)], args := [d1, d2] }
  | _ => none }
def GapNobodyWrongFalsely : Prop := gapNobodyRow.holds Try.pinned (OpenSpec.ofChange gapNobodyWrong)

/- THE SECOND FORM. 'bulk': how many values and letters a reading holds, each counted each time it is reached (what is shared counts as often as it is met; a slice's spare places count too). A statement '..UptoSaid' is the law's where the arguments, and the package variables that the reading takes, are together of bulk at most 1048576: NARROWER than '..Said'. Prove '..Said' where nothing that the law and all that it calls make is longer than what came in: it says more and counts as full. Else prove '..UptoSaid'. A law counts once. -/
mutual
def uptoBulk {H : Type} : DataW H → Nat
  | .lit (.string bytes) => bytes.length + 1
  | .lit _ => 1
  | .nil => 1
  | .ptr d => uptoBulk d + 1
  | .slice elems spare => uptoBulkAll elems + uptoBulkAll spare + 1
  | .agg parts => uptoBulkAll parts + 1
  | .iface _ d => uptoBulk d + 1
  | .map entries => uptoBulkEntries entries + 1
  | .held _ => 1
def uptoBulkAll {H : Type} : List (DataW H) → Nat
  | [] => 0
  | d :: r => uptoBulk d + uptoBulkAll r
def uptoBulkEntries {H : Type} : List (Lit × DataW H) → Nat
  | [] => 0
  | x :: r => uptoBulkEntry x + uptoBulkEntries r
def uptoBulkEntry {H : Type} : Lit × DataW H → Nat
  | (.string bytes, d) => bytes.length + uptoBulk d + 1
  | (_, d) => uptoBulk d + 1
 end
def uptoSmall : (H : Type) → List (DataW H) → Bool := fun _ ds => decide (uptoBulkAll ds ≤ 1048576)
def OpenSpec.upto (s : _root_.Go.ChangeSpec) : _root_.Go.OpenSpec := { _root_.Go.OpenSpec.ofChange s with cond := some uptoSmall }

/-- 'banyanlaw28.GapPlays', WHERE WHAT IT READS IS OF BULK AT MOST 1048576: true; the input reads as it did. -/
def gapPlaysUptoRow : OpenClaim := { program := "ytgnnpfainoppeaa", sum := "5aa7a595a26de207367cfd9387490d1622fecd0ffb4bbbd0cb00359622d5ea31", func := "banyan/banyanlaw28.GapPlays", spec := "gapPlays", unfollowed := true, recurses := true, plainKeys := false, apart := false, narrowed := true }
def GapPlaysUptoSaid : Prop := gapPlaysUptoRow.holds Try.pinned (OpenSpec.upto gapPlaysSpec)

/-- 'banyanlaw28.GapTurns', WHERE WHAT IT READS IS OF BULK AT MOST 1048576: true; the input reads as it did. -/
def gapTurnsUptoRow : OpenClaim := { program := "ytgnnpfainoppeaa", sum := "5aa7a595a26de207367cfd9387490d1622fecd0ffb4bbbd0cb00359622d5ea31", func := "banyan/banyanlaw28.GapTurns", spec := "gapTurns", unfollowed := true, recurses := true, plainKeys := false, apart := false, narrowed := true }
def GapTurnsUptoSaid : Prop := gapTurnsUptoRow.holds Try.pinned (OpenSpec.upto gapTurnsSpec)

/-- 'banyanlaw28.GapNobody', WHERE WHAT IT READS IS OF BULK AT MOST 1048576: true; the input reads as it did. -/
def gapNobodyUptoRow : OpenClaim := { program := "ytgnnpfainoppeaa", sum := "5aa7a595a26de207367cfd9387490d1622fecd0ffb4bbbd0cb00359622d5ea31", func := "banyan/banyanlaw28.GapNobody", spec := "gapNobody", unfollowed := true, recurses := true, plainKeys := false, apart := false, narrowed := true }
def GapNobodyUptoSaid : Prop := gapNobodyUptoRow.holds Try.pinned (OpenSpec.upto gapNobodySpec)

end Rows
end Go.Proofs.Ytgnnpfainoppeaa
