/-
  No cell of these rows narrows 'for every input' (looked for: loops, veiled, ifaces, maps, wideKeys, modest, calm, conditions, laid).
  DERIVED. THE GIVEN ROWS OF THIS SEAT. 4 by the template 'for every input the law returns true; each argument reads behind the call as it read before'; 0 by the template 'total and deterministic' (their statements: YthbliaohaakbiaaTotals.lean).
  GIVEN WITH THE SEED: the statements are not yours to turn. If you find one false, say at which input.
  Laid BY PROGRAM, IN A SANDBOX (cutbox-rows.mjs): the forced cells as the released guide's own fill.sh prints them over the translation ec5e88c17fa0545a… (all of the seat's roots in one cut). By AI agents, Wed Nov 11 2026. No macro, syntax, notation, axiom, sorry.
-/
import Derived.Test.YthbliaohaakbiaaChecked
import GoSem.Claim
import GoSem.ClaimJoined
import GoSem.ClaimMapViews
import Derived.JoinedTies
import Derived.KernelRfl
namespace Go.Proofs.Ythbliaohaakbiaa
/- THE CELL 'sum', in the pinned program and in every row, IS THE sha256 OF THE DUMP (.gsa) THAT YthbliaohaakbiaaProg.lean LOADS. Nothing in Lean hashes anything: it is a label: what it is worth is what the hold of that sum in a sandbox is worth. -/
noncomputable def Try.pinned : Pinned := { name := "ythbliaohaakbiaa", sum := "ec5e88c17fa0545a74fc827c28cd1abe64c48ec328f65ac8c4b8e34880a5e4ec", checked := Try.checked }
namespace Rows
def none {H : Type} : Left H := { results := [], args := [] }

/-- 'banyanlaw17.GroupTells': WHATEVER THE INPUT: true; the input reads as it did. -/
def groupTellsSpec : ChangeSpec := { name := "groupTells", fn := fun _ => fun
  | [d] => { results := [.lit (.bool true)], args := [d] }
  | _ => none }
def groupTellsRow : OpenClaim := { program := "ythbliaohaakbiaa", sum := "ec5e88c17fa0545a74fc827c28cd1abe64c48ec328f65ac8c4b8e34880a5e4ec", func := "banyan/banyanlaw17.GroupTells", spec := "groupTells", unfollowed := true, recurses := true, apart := false }
def GroupTellsSaid : Prop := groupTellsRow.holds Try.pinned (OpenSpec.ofChange groupTellsSpec)

/-- ITS FALSE NEIGHBOUR: 'it returns false'. Refute it at one input. -/
def groupTellsWrong : ChangeSpec := { name := "groupTells", fn := fun _ => fun
  | [d] => { results := [.lit (.bool false)], args := [d] }
  | _ => none }
def GroupTellsWrongFalsely : Prop := groupTellsRow.holds Try.pinned (OpenSpec.ofChange groupTellsWrong)

/-- 'banyanlaw17.GroupItems': WHATEVER THE INPUT: true; the input reads as it did. -/
def groupItemsSpec : ChangeSpec := { name := "groupItems", fn := fun _ => fun
  | [d] => { results := [.lit (.bool true)], args := [d] }
  | _ => none }
def groupItemsRow : OpenClaim := { program := "ythbliaohaakbiaa", sum := "ec5e88c17fa0545a74fc827c28cd1abe64c48ec328f65ac8c4b8e34880a5e4ec", func := "banyan/banyanlaw17.GroupItems", spec := "groupItems", unfollowed := true, recurses := true, apart := false }
def GroupItemsSaid : Prop := groupItemsRow.holds Try.pinned (OpenSpec.ofChange groupItemsSpec)

/-- ITS FALSE NEIGHBOUR: 'it returns false'. Refute it at one input. -/
def groupItemsWrong : ChangeSpec := { name := "groupItems", fn := fun _ => fun
  | [d] => { results := [.lit (.bool false)], args := [d] }
  | _ => none }
def GroupItemsWrongFalsely : Prop := groupItemsRow.holds Try.pinned (OpenSpec.ofChange groupItemsWrong)

/-- 'banyanlaw17.GroupOrder': WHATEVER THE INPUT: true; the input reads as it did. -/
def groupOrderSpec : ChangeSpec := { name := "groupOrder", fn := fun _ => fun
  | [d1, d2] => { results := [.lit (.bool true)], args := [d1, d2] }
  | _ => none }
def groupOrderRow : OpenClaim := { program := "ythbliaohaakbiaa", sum := "ec5e88c17fa0545a74fc827c28cd1abe64c48ec328f65ac8c4b8e34880a5e4ec", func := "banyan/banyanlaw17.GroupOrder", spec := "groupOrder", unfollowed := true, recurses := true, apart := false }
def GroupOrderSaid : Prop := groupOrderRow.holds Try.pinned (OpenSpec.ofChange groupOrderSpec)

/-- ITS FALSE NEIGHBOUR: 'it returns false'. Refute it at one input. -/
def groupOrderWrong : ChangeSpec := { name := "groupOrder", fn := fun _ => fun
  | [d1, d2] => { results := [.lit (.bool false)], args := [d1, d2] }
  | _ => none }
def GroupOrderWrongFalsely : Prop := groupOrderRow.holds Try.pinned (OpenSpec.ofChange groupOrderWrong)

/-- 'banyanlaw17.GroupSame': WHATEVER THE INPUT: true; the input reads as it did. -/
def groupSameSpec : ChangeSpec := { name := "groupSame", fn := fun _ => fun
  | [d1, d2] => { results := [.lit (.bool true)], args := [d1, d2] }
  | _ => none }
def groupSameRow : OpenClaim := { program := "ythbliaohaakbiaa", sum := "ec5e88c17fa0545a74fc827c28cd1abe64c48ec328f65ac8c4b8e34880a5e4ec", func := "banyan/banyanlaw17.GroupSame", spec := "groupSame", unfollowed := true, recurses := true, apart := false }
def GroupSameSaid : Prop := groupSameRow.holds Try.pinned (OpenSpec.ofChange groupSameSpec)

/-- ITS FALSE NEIGHBOUR: 'it returns false'. Refute it at one input. -/
def groupSameWrong : ChangeSpec := { name := "groupSame", fn := fun _ => fun
  | [d1, d2] => { results := [.lit (.bool false)], args := [d1, d2] }
  | _ => none }
def GroupSameWrongFalsely : Prop := groupSameRow.holds Try.pinned (OpenSpec.ofChange groupSameWrong)

/- THE SECOND FORM. 'bulk': how many values and letters a reading holds, each counted each time it is reached (what is shared counts as often as it is met; a slice's spare places count too). A statement '..UptoSaid' is the law's where the arguments, and the package variables that the reading takes, are together of bulk at most 1048576: NARROWER than '..Said'. Prove '..Said' where nothing that the law and all that it calls make is longer than what came in: it says more and counts as full. Else prove '..UptoSaid'. A law counts once. -/
mutual
def uptoBulk {H : Type} : DataW H → Nat
  | .lit (.string bytes) => bytes.length + 1
  | .lit _ => 1
  | .nil => 1
  | .ptr d => uptoBulk d + 1
  | .slice elems spare => uptoBulkAll elems + uptoBulkAll spare + 1
  | .agg parts => uptoBulkAll parts + 1
  | .iface _ d => uptoBulk d + 1
  | .map entries => uptoBulkEntries entries + 1
  | .held _ => 1
def uptoBulkAll {H : Type} : List (DataW H) → Nat
  | [] => 0
  | d :: r => uptoBulk d + uptoBulkAll r
def uptoBulkEntries {H : Type} : List (Lit × DataW H) → Nat
  | [] => 0
  | x :: r => uptoBulkEntry x + uptoBulkEntries r
def uptoBulkEntry {H : Type} : Lit × DataW H → Nat
  | (.string bytes, d) => bytes.length + uptoBulk d + 1
  | (_, d) => uptoBulk d + 1
 end
def uptoSmall : (H : Type) → List (DataW H) → Bool := fun _ ds => decide (uptoBulkAll ds ≤ 1048576)
def OpenSpec.upto (s : _root_.Go.ChangeSpec) : _root_.Go.OpenSpec := { _root_.Go.OpenSpec.ofChange s with cond := some uptoSmall }

/-- 'banyanlaw17.GroupTells', WHERE WHAT IT READS IS OF BULK AT MOST 1048576: true; the input reads as it did. -/
def groupTellsUptoRow : OpenClaim := { program := "ythbliaohaakbiaa", sum := "ec5e88c17fa0545a74fc827c28cd1abe64c48ec328f65ac8c4b8e34880a5e4ec", func := "banyan/banyanlaw17.GroupTells", spec := "groupTells", unfollowed := true, recurses := true, apart := false, narrowed := true }
def GroupTellsUptoSaid : Prop := groupTellsUptoRow.holds Try.pinned (OpenSpec.upto groupTellsSpec)

/-- 'banyanlaw17.GroupItems', WHERE WHAT IT READS IS OF BULK AT MOST 1048576: true; the input reads as it did. -/
def groupItemsUptoRow : OpenClaim := { program := "ythbliaohaakbiaa", sum := "ec5e88c17fa0545a74fc827c28cd1abe64c48ec328f65ac8c4b8e34880a5e4ec", func := "banyan/banyanlaw17.GroupItems", spec := "groupItems", unfollowed := true, recurses := true, apart := false, narrowed := true }
def GroupItemsUptoSaid : Prop := groupItemsUptoRow.holds Try.pinned (OpenSpec.upto groupItemsSpec)

/-- 'banyanlaw17.GroupOrder', WHERE WHAT IT READS IS OF BULK AT MOST 1048576: true; the input reads as it did. -/
def groupOrderUptoRow : OpenClaim := { program := "ythbliaohaakbiaa", sum := "ec5e88c17fa0545a74fc827c28cd1abe64c48ec328f65ac8c4b8e34880a5e4ec", func := "banyan/banyanlaw17.GroupOrder", spec := "groupOrder", unfollowed := true, recurses := true, apart := false, narrowed := true }
def GroupOrderUptoSaid : Prop := groupOrderUptoRow.holds Try.pinned (OpenSpec.upto groupOrderSpec)

/-- 'banyanlaw17.GroupSame', WHERE WHAT IT READS IS OF BULK AT MOST 1048576: true; the input reads as it did. -/
def groupSameUptoRow : OpenClaim := { program := "ythbliaohaakbiaa", sum := "ec5e88c17fa0545a74fc827c28cd1abe64c48ec328f65ac8c4b8e34880a5e4ec", func := "banyan/banyanlaw17.GroupSame", spec := "groupSame", unfollowed := true, recurses := true, apart := false, narrowed := true }
def GroupSameUptoSaid : Prop := groupSameUptoRow.holds Try.pinned (OpenSpec.upto groupSameSpec)

end Rows
end Go.Proofs.Ythbliaohaakbiaa
