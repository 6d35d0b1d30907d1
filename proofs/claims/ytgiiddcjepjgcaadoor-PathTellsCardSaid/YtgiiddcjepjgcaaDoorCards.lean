/-
  DERIVED. GIVEN WITH THE SEED: THE CARDS: each row of YtgiiddcjepjgcaaDoorRows.lean that lists a variable, with what it lists TIED to the program's text (the seventh form; the later family's looks); each row that meets fmt, with fmt's text TOLD by the authors' own Lean function (tested against real Go, not proved from fmt's source: count such statements apart). THE CARD IS WHAT COUNTS. Prove the row's statement (the work); the ties are given (YtgiiddcjepjgcaaDoorTie.lean); close each card by the builder's one call (the guide's Derived/Test/ToyasCard.lean, 'card_holds'). Laid BY PROGRAM, IN A SANDBOX (cutbox-door.mjs). By AI agents, Wed Nov 11 2026. No macro, syntax, notation, axiom, sorry.
-/
import Derived.Test.YtgiiddcjepjgcaaDoorRows
import GoSem.ClaimSeven
namespace Go.Proofs.YtgiiddcjepjgcaaDoor
namespace Rows

/-- THE TIED CARD OF 'banyanlaw22.PathTells'. -/
def pathTellsCard : Claim7 := { stood := { row := pathTellsRow, standIns := [], harness := (true, "7588f006597eda2e53fd3703aefe27a117c9921025abfd610b4865da3d8e7253"), looks := false }, kinds := [], alts := [], laidByText := true, laidKinds := [.data, .pinned], laidTests := true, laidLooks := .later }
def PathTellsCardSaid : Prop := Claim7.holds Tryd.pinned (.plain (OpenSpec.ofChange pathTellsSpec)) pathTellsCard

/-- THE TIED CARD OF 'banyanlaw22.PathSelves'. -/
def pathSelvesCard : Claim7 := { stood := { row := pathSelvesRow, standIns := [], harness := (true, "7588f006597eda2e53fd3703aefe27a117c9921025abfd610b4865da3d8e7253"), looks := false }, kinds := [], alts := [], laidByText := true, laidKinds := [.data, .pinned], laidTests := true, laidLooks := .later }
def PathSelvesCardSaid : Prop := Claim7.holds Tryd.pinned (.plain (OpenSpec.ofChange pathSelvesSpec)) pathSelvesCard

/-- THE SECOND FORM's CARD OF 'banyanlaw22.PathTells'. -/
def pathTellsUptoCard : Claim7 := { stood := { row := pathTellsUptoRow, standIns := [], harness := (true, "7588f006597eda2e53fd3703aefe27a117c9921025abfd610b4865da3d8e7253"), looks := false }, kinds := [], alts := [], laidByText := true, laidKinds := [.data, .pinned], laidTests := true, laidLooks := .later }
def PathTellsUptoCardSaid : Prop := Claim7.holds Tryd.pinned (.plain (OpenSpec.upto pathTellsSpec)) pathTellsUptoCard

/-- THE SECOND FORM's CARD OF 'banyanlaw22.PathSelves'. -/
def pathSelvesUptoCard : Claim7 := { stood := { row := pathSelvesUptoRow, standIns := [], harness := (true, "7588f006597eda2e53fd3703aefe27a117c9921025abfd610b4865da3d8e7253"), looks := false }, kinds := [], alts := [], laidByText := true, laidKinds := [.data, .pinned], laidTests := true, laidLooks := .later }
def PathSelvesUptoCardSaid : Prop := Claim7.holds Tryd.pinned (.plain (OpenSpec.upto pathSelvesSpec)) pathSelvesUptoCard
end Rows
end Go.Proofs.YtgiiddcjepjgcaaDoor
