/-
  DERIVED. GIVEN WITH THE SEED: THE CARDS: each row of YthpolhlhpdhomaaDoorRows.lean that lists a variable, with what it lists TIED to the program's text (the seventh form; the later family's looks); each row that meets fmt, with fmt's text TOLD by the authors' own Lean function (tested against real Go, not proved from fmt's source: count such statements apart). THE CARD IS WHAT COUNTS. Prove the row's statement (the work); the ties are given (YthpolhlhpdhomaaDoorTie.lean); close each card by the builder's one call (the guide's Derived/Test/ToyasCard.lean, 'card_holds'). Laid BY PROGRAM, IN A SANDBOX (cutbox-door.mjs). By AI agents, Wed Nov 11 2026. No macro, syntax, notation, axiom, sorry.
-/
import Derived.Test.YthpolhlhpdhomaaDoorRows
import GoSem.ClaimSeven
namespace Go.Proofs.YthpolhlhpdhomaaDoor
namespace Rows

/-- THE TIED CARD OF 'banyanlaw03.StampTells'. -/
def stampTellsCard : Claim7 := { stood := { row := stampTellsRow, standIns := [], harness := (true, "6dd8b9d491318ba5a56bd8512d87a2e3034b6055b68d60c42b7f55264e741377"), looks := false }, kinds := [], alts := [], laidByText := true, laidKinds := [.data, .data, .data], laidTests := true, laidLooks := .later }
def StampTellsCardSaid : Prop := Claim7.holds Tryd.pinned (.plain (OpenSpec.ofChange stampTellsSpec)) stampTellsCard

/-- THE TIED CARD OF 'banyanlaw03.StampBack'. -/
def stampBackCard : Claim7 := { stood := { row := stampBackRow, standIns := [], harness := (true, "6dd8b9d491318ba5a56bd8512d87a2e3034b6055b68d60c42b7f55264e741377"), looks := false }, kinds := [], alts := [], laidByText := true, laidKinds := [.data, .data, .data], laidTests := true, laidLooks := .later }
def StampBackCardSaid : Prop := Claim7.holds Tryd.pinned (.plain (OpenSpec.ofChange stampBackSpec)) stampBackCard

/-- THE TIED CARD OF 'banyanlaw03.StampLists'. -/
def stampListsCard : Claim7 := { stood := { row := stampListsRow, standIns := [], harness := (true, "6dd8b9d491318ba5a56bd8512d87a2e3034b6055b68d60c42b7f55264e741377"), looks := false }, kinds := [], alts := [], laidByText := true, laidKinds := [.data, .data, .data], laidTests := true, laidLooks := .later }
def StampListsCardSaid : Prop := Claim7.holds Tryd.pinned (.plain (OpenSpec.ofChange stampListsSpec)) stampListsCard

/-- THE TIED CARD OF 'banyanlaw03.StampClocks'. -/
def stampClocksCard : Claim7 := { stood := { row := stampClocksRow, standIns := [], harness := (true, "6dd8b9d491318ba5a56bd8512d87a2e3034b6055b68d60c42b7f55264e741377"), looks := false }, kinds := [], alts := [], laidByText := true, laidKinds := [.data, .data, .data], laidTests := true, laidLooks := .later }
def StampClocksCardSaid : Prop := Claim7.holds Tryd.pinned (.plain (OpenSpec.ofChange stampClocksSpec)) stampClocksCard

/-- THE TIED CARD OF 'banyanlaw03.StampNobody'. -/
def stampNobodyCard : Claim7 := { stood := { row := stampNobodyRow, standIns := [], harness := (true, "6dd8b9d491318ba5a56bd8512d87a2e3034b6055b68d60c42b7f55264e741377"), looks := false }, kinds := [], alts := [], laidByText := true, laidKinds := [.data, .data, .data], laidTests := true, laidLooks := .later }
def StampNobodyCardSaid : Prop := Claim7.holds Tryd.pinned (.plain (OpenSpec.ofChange stampNobodySpec)) stampNobodyCard

/-- THE SECOND FORM's CARD OF 'banyanlaw03.StampTells'. -/
def stampTellsUptoCard : Claim7 := { stood := { row := stampTellsUptoRow, standIns := [], harness := (true, "6dd8b9d491318ba5a56bd8512d87a2e3034b6055b68d60c42b7f55264e741377"), looks := false }, kinds := [], alts := [], laidByText := true, laidKinds := [.data, .data, .data], laidTests := true, laidLooks := .later }
def StampTellsUptoCardSaid : Prop := Claim7.holds Tryd.pinned (.plain (OpenSpec.upto stampTellsSpec)) stampTellsUptoCard

/-- THE SECOND FORM's CARD OF 'banyanlaw03.StampBack'. -/
def stampBackUptoCard : Claim7 := { stood := { row := stampBackUptoRow, standIns := [], harness := (true, "6dd8b9d491318ba5a56bd8512d87a2e3034b6055b68d60c42b7f55264e741377"), looks := false }, kinds := [], alts := [], laidByText := true, laidKinds := [.data, .data, .data], laidTests := true, laidLooks := .later }
def StampBackUptoCardSaid : Prop := Claim7.holds Tryd.pinned (.plain (OpenSpec.upto stampBackSpec)) stampBackUptoCard

/-- THE SECOND FORM's CARD OF 'banyanlaw03.StampLists'. -/
def stampListsUptoCard : Claim7 := { stood := { row := stampListsUptoRow, standIns := [], harness := (true, "6dd8b9d491318ba5a56bd8512d87a2e3034b6055b68d60c42b7f55264e741377"), looks := false }, kinds := [], alts := [], laidByText := true, laidKinds := [.data, .data, .data], laidTests := true, laidLooks := .later }
def StampListsUptoCardSaid : Prop := Claim7.holds Tryd.pinned (.plain (OpenSpec.upto stampListsSpec)) stampListsUptoCard

/-- THE SECOND FORM's CARD OF 'banyanlaw03.StampClocks'. -/
def stampClocksUptoCard : Claim7 := { stood := { row := stampClocksUptoRow, standIns := [], harness := (true, "6dd8b9d491318ba5a56bd8512d87a2e3034b6055b68d60c42b7f55264e741377"), looks := false }, kinds := [], alts := [], laidByText := true, laidKinds := [.data, .data, .data], laidTests := true, laidLooks := .later }
def StampClocksUptoCardSaid : Prop := Claim7.holds Tryd.pinned (.plain (OpenSpec.upto stampClocksSpec)) stampClocksUptoCard

/-- THE SECOND FORM's CARD OF 'banyanlaw03.StampNobody'. -/
def stampNobodyUptoCard : Claim7 := { stood := { row := stampNobodyUptoRow, standIns := [], harness := (true, "6dd8b9d491318ba5a56bd8512d87a2e3034b6055b68d60c42b7f55264e741377"), looks := false }, kinds := [], alts := [], laidByText := true, laidKinds := [.data, .data, .data], laidTests := true, laidLooks := .later }
def StampNobodyUptoCardSaid : Prop := Claim7.holds Tryd.pinned (.plain (OpenSpec.upto stampNobodySpec)) stampNobodyUptoCard
end Rows
end Go.Proofs.YthpolhlhpdhomaaDoor
