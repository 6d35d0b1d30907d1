/-
  No cell of these rows narrows 'for every input' (looked for: loops, veiled, ifaces, maps, wideKeys, modest, calm, conditions, laid).
  DERIVED. THE GIVEN ROWS OF THIS SEAT. 7 by the template 'for every input the law returns true; each argument reads behind the call as it read before'; 0 by the template 'total and deterministic' (their statements: YtegmlekeielmoaaTotals.lean).
  GIVEN WITH THE SEED: the statements are not yours to turn. If you find one false, say at which input.
  Laid BY PROGRAM, IN A SANDBOX (cutbox-rows.mjs): the forced cells as the released guide's own fill.sh prints them over the translation 6d5c646e0dab87d1… (all of the seat's roots in one cut). By AI agents, Wed Nov 11 2026. No macro, syntax, notation, axiom, sorry.
-/
import Derived.Test.YtegmlekeielmoaaChecked
import GoSem.Claim
import GoSem.ClaimJoined
import GoSem.ClaimMapViews
import Derived.JoinedTies
import Derived.KernelRfl
namespace Go.Proofs.Ytegmlekeielmoaa
/- THE CELL 'sum', in the pinned program and in every row, IS THE sha256 OF THE DUMP (.gsa) THAT YtegmlekeielmoaaProg.lean LOADS. Nothing in Lean hashes anything: it is a label: what it is worth is what the hold of that sum in a sandbox is worth. -/
noncomputable def Try.pinned : Pinned := { name := "ytegmlekeielmoaa", sum := "6d5c646e0dab87d166fa007fd1193cc2ba012cfa1a08f85dd72721ed9bd93172", checked := Try.checked }
namespace Rows
def none {H : Type} : Left H := { results := [], args := [] }

/-- 'banyanlaw13.TablePlays': WHATEVER THE INPUT: true; the input reads as it did. -/
def tablePlaysSpec : ChangeSpec := { name := "tablePlays", fn := fun _ => fun
  | [d1, d2] => { results := [.lit (.bool true)], args := [d1, d2] }
  | _ => none }
def tablePlaysRow : OpenClaim := { program := "ytegmlekeielmoaa", sum := "6d5c646e0dab87d166fa007fd1193cc2ba012cfa1a08f85dd72721ed9bd93172", func := "banyan/banyanlaw13.TablePlays", spec := "tablePlays", unfollowed := true, recurses := true, plainKeys := false, apart := false }
def TablePlaysSaid : Prop := tablePlaysRow.holds Try.pinned (OpenSpec.ofChange tablePlaysSpec)

/-- ITS FALSE NEIGHBOUR: 'it returns false'. Refute it at one input. -/
def tablePlaysWrong : ChangeSpec := { name := "tablePlays", fn := fun _ => fun
  | [d1, d2] => { results := [.lit (.bool false)], args := [d1, d2] }
  | _ => none }
def TablePlaysWrongFalsely : Prop := tablePlaysRow.holds Try.pinned (OpenSpec.ofChange tablePlaysWrong)

/-- 'banyanlaw13.TableAbove': WHATEVER THE INPUT: true; the input reads as it did. -/
def tableAboveSpec : ChangeSpec := { name := "tableAbove", fn := fun _ => fun
  | [d1, d2, d3] => { results := [.lit (.bool true)], args := [d1, d2, d3] }
  | _ => none }
def tableAboveRow : OpenClaim := { program := "ytegmlekeielmoaa", sum := "6d5c646e0dab87d166fa007fd1193cc2ba012cfa1a08f85dd72721ed9bd93172", func := "banyan/banyanlaw13.TableAbove", spec := "tableAbove", unfollowed := true, recurses := true, plainKeys := false, apart := false }
def TableAboveSaid : Prop := tableAboveRow.holds Try.pinned (OpenSpec.ofChange tableAboveSpec)

/-- ITS FALSE NEIGHBOUR: 'it returns false'. Refute it at one input. -/
def tableAboveWrong : ChangeSpec := { name := "tableAbove", fn := fun _ => fun
  | [d1, d2, d3] => { results := [.lit (.bool false)], args := [d1, d2, d3] }
  | _ => none }
def TableAboveWrongFalsely : Prop := tableAboveRow.holds Try.pinned (OpenSpec.ofChange tableAboveWrong)

/-- 'banyanlaw13.TableClones': WHATEVER THE INPUT: true; the input reads as it did. -/
def tableClonesSpec : ChangeSpec := { name := "tableClones", fn := fun _ => fun
  | [d1, d2, d3] => { results := [.lit (.bool true)], args := [d1, d2, d3] }
  | _ => none }
def tableClonesRow : OpenClaim := { program := "ytegmlekeielmoaa", sum := "6d5c646e0dab87d166fa007fd1193cc2ba012cfa1a08f85dd72721ed9bd93172", func := "banyan/banyanlaw13.TableClones", spec := "tableClones", unfollowed := true, recurses := true, plainKeys := false, apart := false }
def TableClonesSaid : Prop := tableClonesRow.holds Try.pinned (OpenSpec.ofChange tableClonesSpec)

/-- ITS FALSE NEIGHBOUR: 'it returns false'. Refute it at one input. -/
def tableClonesWrong : ChangeSpec := { name := "tableClones", fn := fun _ => fun
  | [d1, d2, d3] => { results := [.lit (.bool false)], args := [d1, d2, d3] }
  | _ => none }
def TableClonesWrongFalsely : Prop := tableClonesRow.holds Try.pinned (OpenSpec.ofChange tableClonesWrong)

/-- 'banyanlaw13.TableNobody': WHATEVER THE INPUT: true; the input reads as it did. -/
def tableNobodySpec : ChangeSpec := { name := "tableNobody", fn := fun _ => fun
  | [d1, d2] => { results := [.lit (.bool true)], args := [d1, d2] }
  | _ => none }
def tableNobodyRow : OpenClaim := { program := "ytegmlekeielmoaa", sum := "6d5c646e0dab87d166fa007fd1193cc2ba012cfa1a08f85dd72721ed9bd93172", func := "banyan/banyanlaw13.TableNobody", spec := "tableNobody", unfollowed := true, recurses := true, plainKeys := false, apart := false }
def TableNobodySaid : Prop := tableNobodyRow.holds Try.pinned (OpenSpec.ofChange tableNobodySpec)

/-- ITS FALSE NEIGHBOUR: 'it returns false'. Refute it at one input. -/
def tableNobodyWrong : ChangeSpec := { name := "tableNobody", fn := fun _ => fun
  | [d1, d2] => { results := [.lit (.bool false)], args := [d1, d2] }
  | _ => none }
def TableNobodyWrongFalsely : Prop := tableNobodyRow.holds Try.pinned (OpenSpec.ofChange tableNobodyWrong)

/-- 'banyanlaw16.FateOnce': WHATEVER THE INPUT: true; the input reads as it did. -/
def fateOnceSpec : ChangeSpec := { name := "fateOnce", fn := fun _ => fun
  | [d] => { results := [.lit (.bool true)], args := [d] }
  | _ => none }
def fateOnceRow : OpenClaim := { program := "ytegmlekeielmoaa", sum := "6d5c646e0dab87d166fa007fd1193cc2ba012cfa1a08f85dd72721ed9bd93172", func := "banyan/banyanlaw16.FateOnce", spec := "fateOnce", unfollowed := true, recurses := true, plainKeys := false, apart := false }
def FateOnceSaid : Prop := fateOnceRow.holds Try.pinned (OpenSpec.ofChange fateOnceSpec)

/-- ITS FALSE NEIGHBOUR: 'it returns false'. Refute it at one input. -/
def fateOnceWrong : ChangeSpec := { name := "fateOnce", fn := fun _ => fun
  | [d] => { results := [.lit (.bool false)], args := [d] }
  | _ => none }
def FateOnceWrongFalsely : Prop := fateOnceRow.holds Try.pinned (OpenSpec.ofChange fateOnceWrong)

/-- 'banyanlaw16.FateTops': WHATEVER THE INPUT: true; the input reads as it did. -/
def fateTopsSpec : ChangeSpec := { name := "fateTops", fn := fun _ => fun
  | [d1, d2] => { results := [.lit (.bool true)], args := [d1, d2] }
  | _ => none }
def fateTopsRow : OpenClaim := { program := "ytegmlekeielmoaa", sum := "6d5c646e0dab87d166fa007fd1193cc2ba012cfa1a08f85dd72721ed9bd93172", func := "banyan/banyanlaw16.FateTops", spec := "fateTops", unfollowed := true, recurses := true, plainKeys := false, apart := false }
def FateTopsSaid : Prop := fateTopsRow.holds Try.pinned (OpenSpec.ofChange fateTopsSpec)

/-- ITS FALSE NEIGHBOUR: 'it returns false'. Refute it at one input. -/
def fateTopsWrong : ChangeSpec := { name := "fateTops", fn := fun _ => fun
  | [d1, d2] => { results := [.lit (.bool false)], args := [d1, d2] }
  | _ => none }
def FateTopsWrongFalsely : Prop := fateTopsRow.holds Try.pinned (OpenSpec.ofChange fateTopsWrong)

/-- 'banyanlaw16.FateNobody': WHATEVER THE INPUT: true; the input reads as it did. -/
def fateNobodySpec : ChangeSpec := { name := "fateNobody", fn := fun _ => fun
  | [d1, d2] => { results := [.lit (.bool true)], args := [d1, d2] }
  | _ => none }
def fateNobodyRow : OpenClaim := { program := "ytegmlekeielmoaa", sum := "6d5c646e0dab87d166fa007fd1193cc2ba012cfa1a08f85dd72721ed9bd93172", func := "banyan/banyanlaw16.FateNobody", spec := "fateNobody", unfollowed := true, recurses := true, plainKeys := false, apart := false }
def FateNobodySaid : Prop := fateNobodyRow.holds Try.pinned (OpenSpec.ofChange fateNobodySpec)

/-- ITS FALSE NEIGHBOUR: 'it returns false'. Refute it at one input. -/
def fateNobodyWrong : ChangeSpec := { name := "fateNobody", fn := fun _ => fun
  | [d1, d2] => { results := [.lit (.bool false)], args := [d1, d2] }
  | _ => none }
def FateNobodyWrongFalsely : Prop := fateNobodyRow.holds Try.pinned (OpenSpec.ofChange fateNobodyWrong)

/- THE SECOND FORM. 'bulk': how many values and letters a reading holds, each counted each time it is reached (what is shared counts as often as it is met; a slice's spare places count too). A statement '..UptoSaid' is the law's where the arguments, and the package variables that the reading takes, are together of bulk at most 1048576: NARROWER than '..Said'. Prove '..Said' where nothing that the law and all that it calls make is longer than what came in: it says more and counts as full. Else prove '..UptoSaid'. A law counts once. -/
mutual
def uptoBulk {H : Type} : DataW H → Nat
  | .lit (.string bytes) => bytes.length + 1
  | .lit _ => 1
  | .nil => 1
  | .ptr d => uptoBulk d + 1
  | .slice elems spare => uptoBulkAll elems + uptoBulkAll spare + 1
  | .agg parts => uptoBulkAll parts + 1
  | .iface _ d => uptoBulk d + 1
  | .map entries => uptoBulkEntries entries + 1
  | .held _ => 1
def uptoBulkAll {H : Type} : List (DataW H) → Nat
  | [] => 0
  | d :: r => uptoBulk d + uptoBulkAll r
def uptoBulkEntries {H : Type} : List (Lit × DataW H) → Nat
  | [] => 0
  | x :: r => uptoBulkEntry x + uptoBulkEntries r
def uptoBulkEntry {H : Type} : Lit × DataW H → Nat
  | (.string bytes, d) => bytes.length + uptoBulk d + 1
  | (_, d) => uptoBulk d + 1
 end
def uptoSmall : (H : Type) → List (DataW H) → Bool := fun _ ds => decide (uptoBulkAll ds ≤ 1048576)
def OpenSpec.upto (s : _root_.Go.ChangeSpec) : _root_.Go.OpenSpec := { _root_.Go.OpenSpec.ofChange s with cond := some uptoSmall }

/-- 'banyanlaw13.TablePlays', WHERE WHAT IT READS IS OF BULK AT MOST 1048576: true; the input reads as it did. -/
def tablePlaysUptoRow : OpenClaim := { program := "ytegmlekeielmoaa", sum := "6d5c646e0dab87d166fa007fd1193cc2ba012cfa1a08f85dd72721ed9bd93172", func := "banyan/banyanlaw13.TablePlays", spec := "tablePlays", unfollowed := true, recurses := true, plainKeys := false, apart := false, narrowed := true }
def TablePlaysUptoSaid : Prop := tablePlaysUptoRow.holds Try.pinned (OpenSpec.upto tablePlaysSpec)

/-- 'banyanlaw13.TableAbove', WHERE WHAT IT READS IS OF BULK AT MOST 1048576: true; the input reads as it did. -/
def tableAboveUptoRow : OpenClaim := { program := "ytegmlekeielmoaa", sum := "6d5c646e0dab87d166fa007fd1193cc2ba012cfa1a08f85dd72721ed9bd93172", func := "banyan/banyanlaw13.TableAbove", spec := "tableAbove", unfollowed := true, recurses := true, plainKeys := false, apart := false, narrowed := true }
def TableAboveUptoSaid : Prop := tableAboveUptoRow.holds Try.pinned (OpenSpec.upto tableAboveSpec)

/-- 'banyanlaw13.TableClones', WHERE WHAT IT READS IS OF BULK AT MOST 1048576: true; the input reads as it did. -/
def tableClonesUptoRow : OpenClaim := { program := "ytegmlekeielmoaa", sum := "6d5c646e0dab87d166fa007fd1193cc2ba012cfa1a08f85dd72721ed9bd93172", func := "banyan/banyanlaw13.TableClones", spec := "tableClones", unfollowed := true, recurses := true, plainKeys := false, apart := false, narrowed := true }
def TableClonesUptoSaid : Prop := tableClonesUptoRow.holds Try.pinned (OpenSpec.upto tableClonesSpec)

/-- 'banyanlaw13.TableNobody', WHERE WHAT IT READS IS OF BULK AT MOST 1048576: true; the input reads as it did. -/
def tableNobodyUptoRow : OpenClaim := { program := "ytegmlekeielmoaa", sum := "6d5c646e0dab87d166fa007fd1193cc2ba012cfa1a08f85dd72721ed9bd93172", func := "banyan/banyanlaw13.TableNobody", spec := "tableNobody", unfollowed := true, recurses := true, plainKeys := false, apart := false, narrowed := true }
def TableNobodyUptoSaid : Prop := tableNobodyUptoRow.holds Try.pinned (OpenSpec.upto tableNobodySpec)

/-- 'banyanlaw16.FateOnce', WHERE WHAT IT READS IS OF BULK AT MOST 1048576: true; the input reads as it did. -/
def fateOnceUptoRow : OpenClaim := { program := "ytegmlekeielmoaa", sum := "6d5c646e0dab87d166fa007fd1193cc2ba012cfa1a08f85dd72721ed9bd93172", func := "banyan/banyanlaw16.FateOnce", spec := "fateOnce", unfollowed := true, recurses := true, plainKeys := false, apart := false, narrowed := true }
def FateOnceUptoSaid : Prop := fateOnceUptoRow.holds Try.pinned (OpenSpec.upto fateOnceSpec)

/-- 'banyanlaw16.FateTops', WHERE WHAT IT READS IS OF BULK AT MOST 1048576: true; the input reads as it did. -/
def fateTopsUptoRow : OpenClaim := { program := "ytegmlekeielmoaa", sum := "6d5c646e0dab87d166fa007fd1193cc2ba012cfa1a08f85dd72721ed9bd93172", func := "banyan/banyanlaw16.FateTops", spec := "fateTops", unfollowed := true, recurses := true, plainKeys := false, apart := false, narrowed := true }
def FateTopsUptoSaid : Prop := fateTopsUptoRow.holds Try.pinned (OpenSpec.upto fateTopsSpec)

/-- 'banyanlaw16.FateNobody', WHERE WHAT IT READS IS OF BULK AT MOST 1048576: true; the input reads as it did. -/
def fateNobodyUptoRow : OpenClaim := { program := "ytegmlekeielmoaa", sum := "6d5c646e0dab87d166fa007fd1193cc2ba012cfa1a08f85dd72721ed9bd93172", func := "banyan/banyanlaw16.FateNobody", spec := "fateNobody", unfollowed := true, recurses := true, plainKeys := false, apart := false, narrowed := true }
def FateNobodyUptoSaid : Prop := fateNobodyUptoRow.holds Try.pinned (OpenSpec.upto fateNobodySpec)

end Rows
end Go.Proofs.Ytegmlekeielmoaa
