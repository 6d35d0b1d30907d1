/-
  DERIVED. GIVEN WITH THE SEED: THE CARDS: each row of YtbeodechhneeeaaDoorRows.lean that lists a variable, with what it lists TIED to the program's text (the seventh form; the later family's looks); each row that meets fmt, with fmt's text TOLD by the authors' own Lean function (tested against real Go, not proved from fmt's source: count such statements apart). THE CARD IS WHAT COUNTS. Prove the row's statement (the work); the ties are given (YtbeodechhneeeaaDoorTie.lean); close each card by the builder's one call (the guide's Derived/Test/ToyasCard.lean, 'card_holds'). Laid BY PROGRAM, IN A SANDBOX (cutbox-door.mjs). By AI agents, Wed Nov 11 2026. No macro, syntax, notation, axiom, sorry.
-/
import Derived.Test.YtbeodechhneeeaaDoorRows
import GoSem.ClaimSeven
namespace Go.Proofs.YtbeodechhneeeaaDoor
namespace Rows

/-- THE TIED CARD OF 'banyanlaw15.FoldTells'. -/
def foldTellsCard : Claim7 := { stood := { row := foldTellsRow, standIns := [], harness := (true, "5b1d95e866fffda7539ee42da2c4d3e48d683afc59f651b802bc44e4e21aba89"), looks := false }, kinds := [], alts := [], laidByText := true, laidKinds := [.data, .data, .data], laidTests := true, laidLooks := .later }
def FoldTellsCardSaid : Prop := Claim7.holds Tryd.pinned (.plain (OpenSpec.ofChange foldTellsSpec)) foldTellsCard

/-- THE TIED CARD OF 'banyanlaw15.FoldTables'. -/
def foldTablesCard : Claim7 := { stood := { row := foldTablesRow, standIns := [], harness := (true, "5b1d95e866fffda7539ee42da2c4d3e48d683afc59f651b802bc44e4e21aba89"), looks := false }, kinds := [], alts := [], laidByText := true, laidKinds := [.data, .data, .data], laidTests := true, laidLooks := .later }
def FoldTablesCardSaid : Prop := Claim7.holds Tryd.pinned (.plain (OpenSpec.ofChange foldTablesSpec)) foldTablesCard

/-- THE SECOND FORM's CARD OF 'banyanlaw15.FoldTells'. -/
def foldTellsUptoCard : Claim7 := { stood := { row := foldTellsUptoRow, standIns := [], harness := (true, "5b1d95e866fffda7539ee42da2c4d3e48d683afc59f651b802bc44e4e21aba89"), looks := false }, kinds := [], alts := [], laidByText := true, laidKinds := [.data, .data, .data], laidTests := true, laidLooks := .later }
def FoldTellsUptoCardSaid : Prop := Claim7.holds Tryd.pinned (.plain (OpenSpec.upto foldTellsSpec)) foldTellsUptoCard

/-- THE SECOND FORM's CARD OF 'banyanlaw15.FoldTables'. -/
def foldTablesUptoCard : Claim7 := { stood := { row := foldTablesUptoRow, standIns := [], harness := (true, "5b1d95e866fffda7539ee42da2c4d3e48d683afc59f651b802bc44e4e21aba89"), looks := false }, kinds := [], alts := [], laidByText := true, laidKinds := [.data, .data, .data], laidTests := true, laidLooks := .later }
def FoldTablesUptoCardSaid : Prop := Claim7.holds Tryd.pinned (.plain (OpenSpec.upto foldTablesSpec)) foldTablesUptoCard
end Rows
end Go.Proofs.YtbeodechhneeeaaDoor
