/-
  DERIVED. GIVEN WITH THE SEED: THE CARDS: each row of YtbeodechhneeeaaGreatDoorRows.lean that lists a variable, with what it lists TIED to the program's text (the seventh form; the later family's looks); each row that meets fmt, with fmt's text TOLD by the authors' own Lean function (tested against real Go, not proved from fmt's source: count such statements apart). THE CARD IS WHAT COUNTS. Prove the row's statement (the work); the ties are given (YtbeodechhneeeaaGreatDoorTie.lean); close each card by the builder's one call (the guide's Derived/Test/ToyasCard.lean, 'card_holds'). Laid BY PROGRAM, IN A SANDBOX (cutbox-door.mjs). By AI agents, Wed Nov 11 2026. No macro, syntax, notation, axiom, sorry.
-/
import Derived.Test.YtbeodechhneeeaaGreatDoorRows
import GoSem.ClaimSeven
namespace Go.Proofs.YtbeodechhneeeaaGreatDoor
namespace Rows

/-- THE TIED CARD OF 'banyanlaw15.FoldTrees'. -/
def foldTreesCard : Claim7 := { stood := { row := foldTreesRow, standIns := [], harness := (true, "4e6810ab48df2d7438cdb017313df1a819d605e97d966c034b874e5537b34042"), looks := false }, kinds := [], alts := [], laidByText := true, laidKinds := [.data, .data, .data], laidTests := true, laidLooks := .later }
def FoldTreesCardSaid : Prop := Claim7.holds Tryz.pinned (.plain (OpenSpec.ofChange foldTreesSpec)) foldTreesCard

/-- THE TIED CARD OF 'banyanlaw15.FoldHonest'. -/
def foldHonestCard : Claim7 := { stood := { row := foldHonestRow, standIns := [], harness := (true, "4e6810ab48df2d7438cdb017313df1a819d605e97d966c034b874e5537b34042"), looks := false }, kinds := [], alts := [], laidByText := true, laidKinds := [.data, .data, .data], laidTests := true, laidLooks := .later }
def FoldHonestCardSaid : Prop := Claim7.holds Tryz.pinned (.plain (OpenSpec.ofChange foldHonestSpec)) foldHonestCard

/-- THE TIED CARD OF 'banyanlaw15.FoldOrder'. -/
def foldOrderCard : Claim7 := { stood := { row := foldOrderRow, standIns := [], harness := (true, "4e6810ab48df2d7438cdb017313df1a819d605e97d966c034b874e5537b34042"), looks := false }, kinds := [], alts := [], laidByText := true, laidKinds := [.data, .data, .data], laidTests := true, laidLooks := .later }
def FoldOrderCardSaid : Prop := Claim7.holds Tryz.pinned (.plain (OpenSpec.ofChange foldOrderSpec)) foldOrderCard

/-- THE SECOND FORM's CARD OF 'banyanlaw15.FoldTrees'. -/
def foldTreesUptoCard : Claim7 := { stood := { row := foldTreesUptoRow, standIns := [], harness := (true, "4e6810ab48df2d7438cdb017313df1a819d605e97d966c034b874e5537b34042"), looks := false }, kinds := [], alts := [], laidByText := true, laidKinds := [.data, .data, .data], laidTests := true, laidLooks := .later }
def FoldTreesUptoCardSaid : Prop := Claim7.holds Tryz.pinned (.plain (OpenSpec.upto foldTreesSpec)) foldTreesUptoCard

/-- THE SECOND FORM's CARD OF 'banyanlaw15.FoldHonest'. -/
def foldHonestUptoCard : Claim7 := { stood := { row := foldHonestUptoRow, standIns := [], harness := (true, "4e6810ab48df2d7438cdb017313df1a819d605e97d966c034b874e5537b34042"), looks := false }, kinds := [], alts := [], laidByText := true, laidKinds := [.data, .data, .data], laidTests := true, laidLooks := .later }
def FoldHonestUptoCardSaid : Prop := Claim7.holds Tryz.pinned (.plain (OpenSpec.upto foldHonestSpec)) foldHonestUptoCard

/-- THE SECOND FORM's CARD OF 'banyanlaw15.FoldOrder'. -/
def foldOrderUptoCard : Claim7 := { stood := { row := foldOrderUptoRow, standIns := [], harness := (true, "4e6810ab48df2d7438cdb017313df1a819d605e97d966c034b874e5537b34042"), looks := false }, kinds := [], alts := [], laidByText := true, laidKinds := [.data, .data, .data], laidTests := true, laidLooks := .later }
def FoldOrderUptoCardSaid : Prop := Claim7.holds Tryz.pinned (.plain (OpenSpec.upto foldOrderSpec)) foldOrderUptoCard
end Rows
end Go.Proofs.YtbeodechhneeeaaGreatDoor
