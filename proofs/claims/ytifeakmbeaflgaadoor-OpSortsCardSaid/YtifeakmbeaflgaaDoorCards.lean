/-
  DERIVED. GIVEN WITH THE SEED: THE CARDS: each row of YtifeakmbeaflgaaDoorRows.lean that lists a variable, with what it lists TIED to the program's text (the seventh form; the later family's looks); each row that meets fmt, with fmt's text TOLD by the authors' own Lean function (tested against real Go, not proved from fmt's source: count such statements apart). THE CARD IS WHAT COUNTS. Prove the row's statement (the work); the ties are given (YtifeakmbeaflgaaDoorTie.lean); close each card by the builder's one call (the guide's Derived/Test/ToyasCard.lean, 'card_holds'). Laid BY PROGRAM, IN A SANDBOX (cutbox-door.mjs). By AI agents, Wed Nov 11 2026. No macro, syntax, notation, axiom, sorry.
-/
import Derived.Test.YtifeakmbeaflgaaDoorRows
import GoSem.ClaimSeven
namespace Go.Proofs.YtifeakmbeaflgaaDoor
namespace Rows

/-- THE TIED CARD OF 'banyanlaw07.OpTells'. -/
def opTellsCard : Claim7 := { stood := { row := opTellsRow, standIns := [], harness := (true, "93c024e94870ac6825ef181f96b5397e89e8306cad4d646add34984e16161462"), looks := false }, kinds := [], alts := [], laidByText := true, laidKinds := [.data, .data, .data], laidTests := true, laidLooks := .later }
def OpTellsCardSaid : Prop := Claim7.holds Tryd.pinned (.plain (OpenSpec.ofChange opTellsSpec)) opTellsCard

/-- THE TIED CARD OF 'banyanlaw07.OpBack'. -/
def opBackCard : Claim7 := { stood := { row := opBackRow, standIns := [], harness := (true, "93c024e94870ac6825ef181f96b5397e89e8306cad4d646add34984e16161462"), looks := false }, kinds := [], alts := [], laidByText := true, laidKinds := [.data, .data, .data], laidTests := true, laidLooks := .later }
def OpBackCardSaid : Prop := Claim7.holds Tryd.pinned (.plain (OpenSpec.ofChange opBackSpec)) opBackCard

/-- THE TIED CARD OF 'banyanlaw07.OpParses'. -/
def opParsesCard : Claim7 := { stood := { row := opParsesRow, standIns := [], harness := (true, "93c024e94870ac6825ef181f96b5397e89e8306cad4d646add34984e16161462"), looks := false }, kinds := [], alts := [], laidByText := true, laidKinds := [.data, .data, .data], laidTests := true, laidLooks := .later }
def OpParsesCardSaid : Prop := Claim7.holds Tryd.pinned (.plain (OpenSpec.ofChange opParsesSpec)) opParsesCard

/-- THE TIED CARD OF 'banyanlaw07.OpOnce'. -/
def opOnceCard : Claim7 := { stood := { row := opOnceRow, standIns := [], harness := (true, "93c024e94870ac6825ef181f96b5397e89e8306cad4d646add34984e16161462"), looks := false }, kinds := [], alts := [], laidByText := true, laidKinds := [.data, .data, .data], laidTests := true, laidLooks := .later }
def OpOnceCardSaid : Prop := Claim7.holds Tryd.pinned (.plain (OpenSpec.ofChange opOnceSpec)) opOnceCard

/-- THE TIED CARD OF 'banyanlaw07.OpSorts'. -/
def opSortsCard : Claim7 := { stood := { row := opSortsRow, standIns := [], harness := (true, "93c024e94870ac6825ef181f96b5397e89e8306cad4d646add34984e16161462"), looks := false }, kinds := [], alts := [], laidByText := true, laidKinds := [.data, .data, .data], laidTests := true, laidLooks := .later }
def OpSortsCardSaid : Prop := Claim7.holds Tryd.pinned (.plain (OpenSpec.ofChange opSortsSpec)) opSortsCard

/-- THE SECOND FORM's CARD OF 'banyanlaw07.OpTells'. -/
def opTellsUptoCard : Claim7 := { stood := { row := opTellsUptoRow, standIns := [], harness := (true, "93c024e94870ac6825ef181f96b5397e89e8306cad4d646add34984e16161462"), looks := false }, kinds := [], alts := [], laidByText := true, laidKinds := [.data, .data, .data], laidTests := true, laidLooks := .later }
def OpTellsUptoCardSaid : Prop := Claim7.holds Tryd.pinned (.plain (OpenSpec.upto opTellsSpec)) opTellsUptoCard

/-- THE SECOND FORM's CARD OF 'banyanlaw07.OpBack'. -/
def opBackUptoCard : Claim7 := { stood := { row := opBackUptoRow, standIns := [], harness := (true, "93c024e94870ac6825ef181f96b5397e89e8306cad4d646add34984e16161462"), looks := false }, kinds := [], alts := [], laidByText := true, laidKinds := [.data, .data, .data], laidTests := true, laidLooks := .later }
def OpBackUptoCardSaid : Prop := Claim7.holds Tryd.pinned (.plain (OpenSpec.upto opBackSpec)) opBackUptoCard

/-- THE SECOND FORM's CARD OF 'banyanlaw07.OpParses'. -/
def opParsesUptoCard : Claim7 := { stood := { row := opParsesUptoRow, standIns := [], harness := (true, "93c024e94870ac6825ef181f96b5397e89e8306cad4d646add34984e16161462"), looks := false }, kinds := [], alts := [], laidByText := true, laidKinds := [.data, .data, .data], laidTests := true, laidLooks := .later }
def OpParsesUptoCardSaid : Prop := Claim7.holds Tryd.pinned (.plain (OpenSpec.upto opParsesSpec)) opParsesUptoCard

/-- THE SECOND FORM's CARD OF 'banyanlaw07.OpOnce'. -/
def opOnceUptoCard : Claim7 := { stood := { row := opOnceUptoRow, standIns := [], harness := (true, "93c024e94870ac6825ef181f96b5397e89e8306cad4d646add34984e16161462"), looks := false }, kinds := [], alts := [], laidByText := true, laidKinds := [.data, .data, .data], laidTests := true, laidLooks := .later }
def OpOnceUptoCardSaid : Prop := Claim7.holds Tryd.pinned (.plain (OpenSpec.upto opOnceSpec)) opOnceUptoCard

/-- THE SECOND FORM's CARD OF 'banyanlaw07.OpSorts'. -/
def opSortsUptoCard : Claim7 := { stood := { row := opSortsUptoRow, standIns := [], harness := (true, "93c024e94870ac6825ef181f96b5397e89e8306cad4d646add34984e16161462"), looks := false }, kinds := [], alts := [], laidByText := true, laidKinds := [.data, .data, .data], laidTests := true, laidLooks := .later }
def OpSortsUptoCardSaid : Prop := Claim7.holds Tryd.pinned (.plain (OpenSpec.upto opSortsSpec)) opSortsUptoCard
end Rows
end Go.Proofs.YtifeakmbeaflgaaDoor
