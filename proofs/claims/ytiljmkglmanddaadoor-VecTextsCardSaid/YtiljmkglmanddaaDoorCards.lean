/-
  DERIVED. GIVEN WITH THE SEED: THE CARDS: each row of YtiljmkglmanddaaDoorRows.lean that lists a variable, with what it lists TIED to the program's text (the seventh form; the later family's looks); each row that meets fmt, with fmt's text TOLD by the authors' own Lean function (tested against real Go, not proved from fmt's source: count such statements apart). THE CARD IS WHAT COUNTS. Prove the row's statement (the work); the ties are given (YtiljmkglmanddaaDoorTie.lean); close each card by the builder's one call (the guide's Derived/Test/ToyasCard.lean, 'card_holds'). Laid BY PROGRAM, IN A SANDBOX (cutbox-door.mjs). By AI agents, Wed Nov 11 2026. No macro, syntax, notation, axiom, sorry.
-/
import Derived.Test.YtiljmkglmanddaaDoorRows
import GoSem.ClaimSeven
namespace Go.Proofs.YtiljmkglmanddaaDoor
namespace Rows

/-- THE TIED CARD OF 'banyanlaw04.VecTells'. -/
def vecTellsCard : Claim7 := { stood := { row := vecTellsRow, standIns := [], harness := (true, "625e20affd4bf9a409ccbc550a2ce81c43cd437ebbffcb8e90540d7201ea4b47"), looks := false }, kinds := [], alts := [], laidByText := true, laidKinds := [.data, .data, .data, .data, .pinned], laidTests := true, laidLooks := .later }
def VecTellsCardSaid : Prop := Claim7.holds Tryd.pinned (.plain (OpenSpec.ofChange vecTellsSpec)) vecTellsCard

/-- THE TIED CARD OF 'banyanlaw04.VecLacks'. -/
def vecLacksCard : Claim7 := { stood := { row := vecLacksRow, standIns := [], harness := (true, "625e20affd4bf9a409ccbc550a2ce81c43cd437ebbffcb8e90540d7201ea4b47"), looks := false }, kinds := [], alts := [], laidByText := true, laidKinds := [.data, .data, .data, .data, .pinned], laidTests := true, laidLooks := .later }
def VecLacksCardSaid : Prop := Claim7.holds Tryd.pinned (.plain (OpenSpec.ofChange vecLacksSpec)) vecLacksCard

/-- THE TIED CARD OF 'banyanlaw04.VecTexts'. -/
def vecTextsCard : Claim7 := { stood := { row := vecTextsRow, standIns := [], harness := (true, "625e20affd4bf9a409ccbc550a2ce81c43cd437ebbffcb8e90540d7201ea4b47"), looks := false }, kinds := [], alts := [], laidByText := true, laidKinds := [.data, .data, .data, .data, .pinned], laidTests := true, laidLooks := .later }
def VecTextsCardSaid : Prop := Claim7.holds Tryd.pinned (.plain (OpenSpec.ofChange vecTextsSpec)) vecTextsCard

/-- THE TIED CARD OF 'banyanlaw04.VecRows'. -/
def vecRowsCard : Claim7 := { stood := { row := vecRowsRow, standIns := [], harness := (true, "625e20affd4bf9a409ccbc550a2ce81c43cd437ebbffcb8e90540d7201ea4b47"), looks := false }, kinds := [], alts := [], laidByText := true, laidKinds := [.data, .data, .data, .data, .pinned], laidTests := true, laidLooks := .later }
def VecRowsCardSaid : Prop := Claim7.holds Tryd.pinned (.plain (OpenSpec.ofChange vecRowsSpec)) vecRowsCard

/-- THE SECOND FORM's CARD OF 'banyanlaw04.VecTells'. -/
def vecTellsUptoCard : Claim7 := { stood := { row := vecTellsUptoRow, standIns := [], harness := (true, "625e20affd4bf9a409ccbc550a2ce81c43cd437ebbffcb8e90540d7201ea4b47"), looks := false }, kinds := [], alts := [], laidByText := true, laidKinds := [.data, .data, .data, .data, .pinned], laidTests := true, laidLooks := .later }
def VecTellsUptoCardSaid : Prop := Claim7.holds Tryd.pinned (.plain (OpenSpec.upto vecTellsSpec)) vecTellsUptoCard

/-- THE SECOND FORM's CARD OF 'banyanlaw04.VecLacks'. -/
def vecLacksUptoCard : Claim7 := { stood := { row := vecLacksUptoRow, standIns := [], harness := (true, "625e20affd4bf9a409ccbc550a2ce81c43cd437ebbffcb8e90540d7201ea4b47"), looks := false }, kinds := [], alts := [], laidByText := true, laidKinds := [.data, .data, .data, .data, .pinned], laidTests := true, laidLooks := .later }
def VecLacksUptoCardSaid : Prop := Claim7.holds Tryd.pinned (.plain (OpenSpec.upto vecLacksSpec)) vecLacksUptoCard

/-- THE SECOND FORM's CARD OF 'banyanlaw04.VecTexts'. -/
def vecTextsUptoCard : Claim7 := { stood := { row := vecTextsUptoRow, standIns := [], harness := (true, "625e20affd4bf9a409ccbc550a2ce81c43cd437ebbffcb8e90540d7201ea4b47"), looks := false }, kinds := [], alts := [], laidByText := true, laidKinds := [.data, .data, .data, .data, .pinned], laidTests := true, laidLooks := .later }
def VecTextsUptoCardSaid : Prop := Claim7.holds Tryd.pinned (.plain (OpenSpec.upto vecTextsSpec)) vecTextsUptoCard

/-- THE SECOND FORM's CARD OF 'banyanlaw04.VecRows'. -/
def vecRowsUptoCard : Claim7 := { stood := { row := vecRowsUptoRow, standIns := [], harness := (true, "625e20affd4bf9a409ccbc550a2ce81c43cd437ebbffcb8e90540d7201ea4b47"), looks := false }, kinds := [], alts := [], laidByText := true, laidKinds := [.data, .data, .data, .data, .pinned], laidTests := true, laidLooks := .later }
def VecRowsUptoCardSaid : Prop := Claim7.holds Tryd.pinned (.plain (OpenSpec.upto vecRowsSpec)) vecRowsUptoCard
end Rows
end Go.Proofs.YtiljmkglmanddaaDoor
