/-
  DERIVED. GIVEN WITH THE SEED: THE CARDS: each row of YtkkeemhbokpngaaDoorRows.lean that lists a variable, with what it lists TIED to the program's text (the seventh form; the later family's looks); each row that meets fmt, with fmt's text TOLD by the authors' own Lean function (tested against real Go, not proved from fmt's source: count such statements apart). THE CARD IS WHAT COUNTS. Prove the row's statement (the work); the ties are given (YtkkeemhbokpngaaDoorTie.lean); close each card by the builder's one call (the guide's Derived/Test/ToyasCard.lean, 'card_holds'). Laid BY PROGRAM, IN A SANDBOX (cutbox-door.mjs). By AI agents, Wed Nov 11 2026. No macro, syntax, notation, axiom, sorry.
-/
import Derived.Test.YtkkeemhbokpngaaDoorRows
import GoSem.ClaimSeven
namespace Go.Proofs.YtkkeemhbokpngaaDoor
namespace Rows

/-- THE TIED CARD OF 'banyanlaw18.UniqueNames'. -/
def uniqueNamesCard : Claim7 := { stood := { row := uniqueNamesRow, standIns := [], harness := (true, "4c4384f6bb241311b380619e081d7dad7892b35c25157fc8e57e33d9b3110601"), looks := false }, kinds := [], alts := [], laidByText := true, laidKinds := [.data, .data, .data], laidTests := true, laidLooks := .later }
def UniqueNamesCardSaid : Prop := Claim7.holds Tryd.pinned (.plain (OpenSpec.ofChange uniqueNamesSpec)) uniqueNamesCard

/-- THE TIED CARD OF 'banyanlaw18.UniqueApart'. -/
def uniqueApartCard : Claim7 := { stood := { row := uniqueApartRow, standIns := [], harness := (true, "4c4384f6bb241311b380619e081d7dad7892b35c25157fc8e57e33d9b3110601"), looks := false }, kinds := [], alts := [], laidByText := true, laidKinds := [.data, .data, .data], laidTests := true, laidLooks := .later }
def UniqueApartCardSaid : Prop := Claim7.holds Tryd.pinned (.plain (OpenSpec.ofChange uniqueApartSpec)) uniqueApartCard

/-- THE TIED CARD OF 'banyanlaw18.UniqueStays'. -/
def uniqueStaysCard : Claim7 := { stood := { row := uniqueStaysRow, standIns := [], harness := (true, "4c4384f6bb241311b380619e081d7dad7892b35c25157fc8e57e33d9b3110601"), looks := false }, kinds := [], alts := [], laidByText := true, laidKinds := [.data, .data, .data], laidTests := true, laidLooks := .later }
def UniqueStaysCardSaid : Prop := Claim7.holds Tryd.pinned (.plain (OpenSpec.ofChange uniqueStaysSpec)) uniqueStaysCard

/-- THE SECOND FORM's CARD OF 'banyanlaw18.UniqueNames'. -/
def uniqueNamesUptoCard : Claim7 := { stood := { row := uniqueNamesUptoRow, standIns := [], harness := (true, "4c4384f6bb241311b380619e081d7dad7892b35c25157fc8e57e33d9b3110601"), looks := false }, kinds := [], alts := [], laidByText := true, laidKinds := [.data, .data, .data], laidTests := true, laidLooks := .later }
def UniqueNamesUptoCardSaid : Prop := Claim7.holds Tryd.pinned (.plain (OpenSpec.upto uniqueNamesSpec)) uniqueNamesUptoCard

/-- THE SECOND FORM's CARD OF 'banyanlaw18.UniqueApart'. -/
def uniqueApartUptoCard : Claim7 := { stood := { row := uniqueApartUptoRow, standIns := [], harness := (true, "4c4384f6bb241311b380619e081d7dad7892b35c25157fc8e57e33d9b3110601"), looks := false }, kinds := [], alts := [], laidByText := true, laidKinds := [.data, .data, .data], laidTests := true, laidLooks := .later }
def UniqueApartUptoCardSaid : Prop := Claim7.holds Tryd.pinned (.plain (OpenSpec.upto uniqueApartSpec)) uniqueApartUptoCard

/-- THE SECOND FORM's CARD OF 'banyanlaw18.UniqueStays'. -/
def uniqueStaysUptoCard : Claim7 := { stood := { row := uniqueStaysUptoRow, standIns := [], harness := (true, "4c4384f6bb241311b380619e081d7dad7892b35c25157fc8e57e33d9b3110601"), looks := false }, kinds := [], alts := [], laidByText := true, laidKinds := [.data, .data, .data], laidTests := true, laidLooks := .later }
def UniqueStaysUptoCardSaid : Prop := Claim7.holds Tryd.pinned (.plain (OpenSpec.upto uniqueStaysSpec)) uniqueStaysUptoCard
end Rows
end Go.Proofs.YtkkeemhbokpngaaDoor
