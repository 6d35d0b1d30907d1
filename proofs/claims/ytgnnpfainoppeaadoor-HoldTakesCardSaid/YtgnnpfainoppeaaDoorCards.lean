/-
  DERIVED. GIVEN WITH THE SEED: THE CARDS: each row of YtgnnpfainoppeaaDoorRows.lean that lists a variable, with what it lists TIED to the program's text (the seventh form; the later family's looks); each row that meets fmt, with fmt's text TOLD by the authors' own Lean function (tested against real Go, not proved from fmt's source: count such statements apart). THE CARD IS WHAT COUNTS. Prove the row's statement (the work); the ties are given (YtgnnpfainoppeaaDoorTie.lean); close each card by the builder's one call (the guide's Derived/Test/ToyasCard.lean, 'card_holds'). Laid BY PROGRAM, IN A SANDBOX (cutbox-door.mjs). By AI agents, Wed Nov 11 2026. No macro, syntax, notation, axiom, sorry.
-/
import Derived.Test.YtgnnpfainoppeaaDoorRows
import GoSem.ClaimSeven
namespace Go.Proofs.YtgnnpfainoppeaaDoor
namespace Rows

/-- THE TIED CARD OF 'banyanlaw27.HoldPlays'. -/
def holdPlaysCard : Claim7 := { stood := { row := holdPlaysRow, standIns := [], harness := (true, "b46c8f1afb1c50d53dba86f314b5fef6f8db32404739d597ed3bd7c9bd1cac3d"), looks := false }, kinds := [], alts := [], laidByText := true, laidKinds := [.data, .data, .data], laidTests := true, laidLooks := .later }
def HoldPlaysCardSaid : Prop := Claim7.holds Tryd.pinned (.plain (OpenSpec.ofChange holdPlaysSpec)) holdPlaysCard

/-- THE TIED CARD OF 'banyanlaw27.HoldTakes'. -/
def holdTakesCard : Claim7 := { stood := { row := holdTakesRow, standIns := [], harness := (true, "b46c8f1afb1c50d53dba86f314b5fef6f8db32404739d597ed3bd7c9bd1cac3d"), looks := false }, kinds := [], alts := [], laidByText := true, laidKinds := [.data, .data, .data], laidTests := true, laidLooks := .later }
def HoldTakesCardSaid : Prop := Claim7.holds Tryd.pinned (.plain (OpenSpec.ofChange holdTakesSpec)) holdTakesCard

/-- THE TIED CARD OF 'banyanlaw27.HoldCatches'. -/
def holdCatchesCard : Claim7 := { stood := { row := holdCatchesRow, standIns := [], harness := (true, "b46c8f1afb1c50d53dba86f314b5fef6f8db32404739d597ed3bd7c9bd1cac3d"), looks := false }, kinds := [], alts := [], laidByText := true, laidKinds := [.data, .data, .data], laidTests := true, laidLooks := .later }
def HoldCatchesCardSaid : Prop := Claim7.holds Tryd.pinned (.plain (OpenSpec.ofChange holdCatchesSpec)) holdCatchesCard

/-- THE TIED CARD OF 'banyanlaw27.HoldNobody'. -/
def holdNobodyCard : Claim7 := { stood := { row := holdNobodyRow, standIns := [], harness := (true, "b46c8f1afb1c50d53dba86f314b5fef6f8db32404739d597ed3bd7c9bd1cac3d"), looks := false }, kinds := [], alts := [], laidByText := true, laidKinds := [.data, .data, .data], laidTests := true, laidLooks := .later }
def HoldNobodyCardSaid : Prop := Claim7.holds Tryd.pinned (.plain (OpenSpec.ofChange holdNobodySpec)) holdNobodyCard

/-- THE SECOND FORM's CARD OF 'banyanlaw27.HoldPlays'. -/
def holdPlaysUptoCard : Claim7 := { stood := { row := holdPlaysUptoRow, standIns := [], harness := (true, "b46c8f1afb1c50d53dba86f314b5fef6f8db32404739d597ed3bd7c9bd1cac3d"), looks := false }, kinds := [], alts := [], laidByText := true, laidKinds := [.data, .data, .data], laidTests := true, laidLooks := .later }
def HoldPlaysUptoCardSaid : Prop := Claim7.holds Tryd.pinned (.plain (OpenSpec.upto holdPlaysSpec)) holdPlaysUptoCard

/-- THE SECOND FORM's CARD OF 'banyanlaw27.HoldTakes'. -/
def holdTakesUptoCard : Claim7 := { stood := { row := holdTakesUptoRow, standIns := [], harness := (true, "b46c8f1afb1c50d53dba86f314b5fef6f8db32404739d597ed3bd7c9bd1cac3d"), looks := false }, kinds := [], alts := [], laidByText := true, laidKinds := [.data, .data, .data], laidTests := true, laidLooks := .later }
def HoldTakesUptoCardSaid : Prop := Claim7.holds Tryd.pinned (.plain (OpenSpec.upto holdTakesSpec)) holdTakesUptoCard

/-- THE SECOND FORM's CARD OF 'banyanlaw27.HoldCatches'. -/
def holdCatchesUptoCard : Claim7 := { stood := { row := holdCatchesUptoRow, standIns := [], harness := (true, "b46c8f1afb1c50d53dba86f314b5fef6f8db32404739d597ed3bd7c9bd1cac3d"), looks := false }, kinds := [], alts := [], laidByText := true, laidKinds := [.data, .data, .data], laidTests := true, laidLooks := .later }
def HoldCatchesUptoCardSaid : Prop := Claim7.holds Tryd.pinned (.plain (OpenSpec.upto holdCatchesSpec)) holdCatchesUptoCard

/-- THE SECOND FORM's CARD OF 'banyanlaw27.HoldNobody'. -/
def holdNobodyUptoCard : Claim7 := { stood := { row := holdNobodyUptoRow, standIns := [], harness := (true, "b46c8f1afb1c50d53dba86f314b5fef6f8db32404739d597ed3bd7c9bd1cac3d"), looks := false }, kinds := [], alts := [], laidByText := true, laidKinds := [.data, .data, .data], laidTests := true, laidLooks := .later }
def HoldNobodyUptoCardSaid : Prop := Claim7.holds Tryd.pinned (.plain (OpenSpec.upto holdNobodySpec)) holdNobodyUptoCard
end Rows
end Go.Proofs.YtgnnpfainoppeaaDoor
