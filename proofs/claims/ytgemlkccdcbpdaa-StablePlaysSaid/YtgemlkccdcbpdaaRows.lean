/-
  No cell of these rows narrows 'for every input' (looked for: loops, veiled, ifaces, maps, wideKeys, modest, calm, conditions, laid).
  DERIVED. THE GIVEN ROWS OF THIS SEAT. 4 by the template 'for every input the law returns true; each argument reads behind the call as it read before'; 0 by the template 'total and deterministic' (their statements: YtgemlkccdcbpdaaTotals.lean).
  GIVEN WITH THE SEED: the statements are not yours to turn. If you find one false, say at which input.
  Laid BY PROGRAM, IN A SANDBOX (cutbox-rows.mjs): the forced cells as the released guide's own fill.sh prints them over the translation 22715ec734ffaddf… (all of the seat's roots in one cut). By AI agents, Wed Nov 11 2026. No macro, syntax, notation, axiom, sorry.
-/
import Derived.Test.YtgemlkccdcbpdaaChecked
import GoSem.Claim
import GoSem.ClaimJoined
import GoSem.ClaimMapViews
import Derived.JoinedTies
import Derived.KernelRfl
namespace Go.Proofs.Ytgemlkccdcbpdaa
/- THE CELL 'sum', in the pinned program and in every row, IS THE sha256 OF THE DUMP (.gsa) THAT YtgemlkccdcbpdaaProg.lean LOADS. Nothing in Lean hashes anything: it is a label: what it is worth is what the hold of that sum in a sandbox is worth. -/
noncomputable def Try.pinned : Pinned := { name := "ytgemlkccdcbpdaa", sum := "22715ec734ffaddf8bc4942bfec59c1e95b4fcdce16872a6d9440ac48b0819b2", checked := Try.checked }
namespace Rows
def none {H : Type} : Left H := { results := [], args := [] }

/-- 'banyanlaw29.StablePlays': WHATEVER THE INPUT: true; the input reads as it did. -/
def stablePlaysSpec : ChangeSpec := { name := "stablePlays", fn := fun _ => fun
  | [d1, d2, d3, d4] => { results := [.lit (.bool true)], args := [d1, d2, d3, d4] }
  | _ => none }
def stablePlaysRow : OpenClaim := { program := "ytgemlkccdcbpdaa", sum := "22715ec734ffaddf8bc4942bfec59c1e95b4fcdce16872a6d9440ac48b0819b2", func := "banyan/banyanlaw29.StablePlays", spec := "stablePlays", apart := false }
def StablePlaysSaid : Prop := stablePlaysRow.holds Try.pinned (OpenSpec.ofChange stablePlaysSpec)

/-- ITS FALSE NEIGHBOUR: 'it returns false'. Refute it at one input. -/
def stablePlaysWrong : ChangeSpec := { name := "stablePlays", fn := fun _ => fun
  | [d1, d2, d3, d4] => { results := [.lit (.bool false)], args := [d1, d2, d3, d4] }
  | _ => none }
def StablePlaysWrongFalsely : Prop := stablePlaysRow.holds Try.pinned (OpenSpec.ofChange stablePlaysWrong)

/-- 'banyanlaw29.StableRises': WHATEVER THE INPUT: true; the input reads as it did. -/
def stableRisesSpec : ChangeSpec := { name := "stableRises", fn := fun _ => fun
  | [d1, d2, d3] => { results := [.lit (.bool true)], args := [d1, d2, d3] }
  | _ => none }
def stableRisesRow : OpenClaim := { program := "ytgemlkccdcbpdaa", sum := "22715ec734ffaddf8bc4942bfec59c1e95b4fcdce16872a6d9440ac48b0819b2", func := "banyan/banyanlaw29.StableRises", spec := "stableRises", apart := false }
def StableRisesSaid : Prop := stableRisesRow.holds Try.pinned (OpenSpec.ofChange stableRisesSpec)

/-- ITS FALSE NEIGHBOUR: 'it returns false'. Refute it at one input. -/
def stableRisesWrong : ChangeSpec := { name := "stableRises", fn := fun _ => fun
  | [d1, d2, d3] => { results := [.lit (.bool false)], args := [d1, d2, d3] }
  | _ => none }
def StableRisesWrongFalsely : Prop := stableRisesRow.holds Try.pinned (OpenSpec.ofChange stableRisesWrong)

/-- 'banyanlaw29.StableSure': WHATEVER THE INPUT: true; the input reads as it did. -/
def stableSureSpec : ChangeSpec := { name := "stableSure", fn := fun _ => fun
  | [d1, d2, d3, d4] => { results := [.lit (.bool true)], args := [d1, d2, d3, d4] }
  | _ => none }
def stableSureRow : OpenClaim := { program := "ytgemlkccdcbpdaa", sum := "22715ec734ffaddf8bc4942bfec59c1e95b4fcdce16872a6d9440ac48b0819b2", func := "banyan/banyanlaw29.StableSure", spec := "stableSure", apart := false }
def StableSureSaid : Prop := stableSureRow.holds Try.pinned (OpenSpec.ofChange stableSureSpec)

/-- ITS FALSE NEIGHBOUR: 'it returns false'. Refute it at one input. -/
def stableSureWrong : ChangeSpec := { name := "stableSure", fn := fun _ => fun
  | [d1, d2, d3, d4] => { results := [.lit (.bool false)], args := [d1, d2, d3, d4] }
  | _ => none }
def StableSureWrongFalsely : Prop := stableSureRow.holds Try.pinned (OpenSpec.ofChange stableSureWrong)

/-- 'banyanlaw29.StableNobody': WHATEVER THE INPUT: true; the input reads as it did. -/
def stableNobodySpec : ChangeSpec := { name := "stableNobody", fn := fun _ => fun
  | [d] => { results := [.lit (.bool true)], args := [d] }
  | _ => none }
def stableNobodyRow : OpenClaim := { program := "ytgemlkccdcbpdaa", sum := "22715ec734ffaddf8bc4942bfec59c1e95b4fcdce16872a6d9440ac48b0819b2", func := "banyan/banyanlaw29.StableNobody", spec := "stableNobody", apart := false }
def StableNobodySaid : Prop := stableNobodyRow.holds Try.pinned (OpenSpec.ofChange stableNobodySpec)

/-- ITS FALSE NEIGHBOUR: 'it returns false'. Refute it at one input. -/
def stableNobodyWrong : ChangeSpec := { name := "stableNobody", fn := fun _ => fun
  | [d] => { results := [.lit (.bool false)], args := [d] }
  | _ => none }
def StableNobodyWrongFalsely : Prop := stableNobodyRow.holds Try.pinned (OpenSpec.ofChange stableNobodyWrong)

/- THE SECOND FORM. 'bulk': how many values and letters a reading holds, each counted each time it is reached (what is shared counts as often as it is met; a slice's spare places count too). A statement '..UptoSaid' is the law's where the arguments, and the package variables that the reading takes, are together of bulk at most 1048576: NARROWER than '..Said'. Prove '..Said' where nothing that the law and all that it calls make is longer than what came in: it says more and counts as full. Else prove '..UptoSaid'. A law counts once. -/
mutual
def uptoBulk {H : Type} : DataW H → Nat
  | .lit (.string bytes) => bytes.length + 1
  | .lit _ => 1
  | .nil => 1
  | .ptr d => uptoBulk d + 1
  | .slice elems spare => uptoBulkAll elems + uptoBulkAll spare + 1
  | .agg parts => uptoBulkAll parts + 1
  | .iface _ d => uptoBulk d + 1
  | .map entries => uptoBulkEntries entries + 1
  | .held _ => 1
def uptoBulkAll {H : Type} : List (DataW H) → Nat
  | [] => 0
  | d :: r => uptoBulk d + uptoBulkAll r
def uptoBulkEntries {H : Type} : List (Lit × DataW H) → Nat
  | [] => 0
  | x :: r => uptoBulkEntry x + uptoBulkEntries r
def uptoBulkEntry {H : Type} : Lit × DataW H → Nat
  | (.string bytes, d) => bytes.length + uptoBulk d + 1
  | (_, d) => uptoBulk d + 1
 end
def uptoSmall : (H : Type) → List (DataW H) → Bool := fun _ ds => decide (uptoBulkAll ds ≤ 1048576)
def OpenSpec.upto (s : _root_.Go.ChangeSpec) : _root_.Go.OpenSpec := { _root_.Go.OpenSpec.ofChange s with cond := some uptoSmall }

/-- 'banyanlaw29.StablePlays', WHERE WHAT IT READS IS OF BULK AT MOST 1048576: true; the input reads as it did. -/
def stablePlaysUptoRow : OpenClaim := { program := "ytgemlkccdcbpdaa", sum := "22715ec734ffaddf8bc4942bfec59c1e95b4fcdce16872a6d9440ac48b0819b2", func := "banyan/banyanlaw29.StablePlays", spec := "stablePlays", apart := false, narrowed := true }
def StablePlaysUptoSaid : Prop := stablePlaysUptoRow.holds Try.pinned (OpenSpec.upto stablePlaysSpec)

/-- 'banyanlaw29.StableRises', WHERE WHAT IT READS IS OF BULK AT MOST 1048576: true; the input reads as it did. -/
def stableRisesUptoRow : OpenClaim := { program := "ytgemlkccdcbpdaa", sum := "22715ec734ffaddf8bc4942bfec59c1e95b4fcdce16872a6d9440ac48b0819b2", func := "banyan/banyanlaw29.StableRises", spec := "stableRises", apart := false, narrowed := true }
def StableRisesUptoSaid : Prop := stableRisesUptoRow.holds Try.pinned (OpenSpec.upto stableRisesSpec)

/-- 'banyanlaw29.StableSure', WHERE WHAT IT READS IS OF BULK AT MOST 1048576: true; the input reads as it did. -/
def stableSureUptoRow : OpenClaim := { program := "ytgemlkccdcbpdaa", sum := "22715ec734ffaddf8bc4942bfec59c1e95b4fcdce16872a6d9440ac48b0819b2", func := "banyan/banyanlaw29.StableSure", spec := "stableSure", apart := false, narrowed := true }
def StableSureUptoSaid : Prop := stableSureUptoRow.holds Try.pinned (OpenSpec.upto stableSureSpec)

/-- 'banyanlaw29.StableNobody', WHERE WHAT IT READS IS OF BULK AT MOST 1048576: true; the input reads as it did. -/
def stableNobodyUptoRow : OpenClaim := { program := "ytgemlkccdcbpdaa", sum := "22715ec734ffaddf8bc4942bfec59c1e95b4fcdce16872a6d9440ac48b0819b2", func := "banyan/banyanlaw29.StableNobody", spec := "stableNobody", apart := false, narrowed := true }
def StableNobodyUptoSaid : Prop := stableNobodyUptoRow.holds Try.pinned (OpenSpec.upto stableNobodySpec)

end Rows
end Go.Proofs.Ytgemlkccdcbpdaa
