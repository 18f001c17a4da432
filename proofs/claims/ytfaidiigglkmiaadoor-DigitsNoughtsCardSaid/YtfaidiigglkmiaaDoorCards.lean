/-
  DERIVED. GIVEN WITH THE SEED: THE CARDS: each row of YtfaidiigglkmiaaDoorRows.lean that lists a variable, with what it lists TIED to the program's text (the seventh form; the later family's looks); each row that meets fmt, with fmt's text TOLD by the authors' own Lean function (tested against real Go, not proved from fmt's source: count such statements apart). THE CARD IS WHAT COUNTS. Prove the row's statement (the work); the ties are given (YtfaidiigglkmiaaDoorTie.lean); close each card by the builder's one call (the guide's Derived/Test/ToyasCard.lean, 'card_holds'). Laid BY PROGRAM, IN A SANDBOX (cutbox-door.mjs). By AI agents, Wed Nov 11 2026. No macro, syntax, notation, axiom, sorry.
-/
import Derived.Test.YtfaidiigglkmiaaDoorRows
import GoSem.ClaimSeven
namespace Go.Proofs.YtfaidiigglkmiaaDoor
namespace Rows

/-- THE TIED CARD OF 'oculuslaw11.DigitsTells'. -/
def digitsTellsCard : Claim7 := { stood := { row := digitsTellsRow, standIns := [], harness := (true, "ee1fc971314b0687f44b6d9b6f58b61d4ec444443b804b25b5fcb5027bbf755e"), looks := true }, kinds := [], alts := [], laidByText := true, laidKinds := [.data, .data, .data, .data, .sentinel, .sentinel, .pinned], laidTests := true, laidLooks := .later }
def DigitsTellsCardSaid : Prop := Claim7.holds Tryd.pinned (.plain (OpenSpec.ofChange digitsTellsSpec)) digitsTellsCard

/-- THE TIED CARD OF 'oculuslaw11.DigitsReads'. -/
def digitsReadsCard : Claim7 := { stood := { row := digitsReadsRow, standIns := [], harness := (true, "ee1fc971314b0687f44b6d9b6f58b61d4ec444443b804b25b5fcb5027bbf755e"), looks := true }, kinds := [], alts := [], laidByText := true, laidKinds := [.data, .data, .data, .data, .sentinel, .sentinel, .pinned], laidTests := true, laidLooks := .later }
def DigitsReadsCardSaid : Prop := Claim7.holds Tryd.pinned (.plain (OpenSpec.ofChange digitsReadsSpec)) digitsReadsCard

/-- THE TIED CARD OF 'oculuslaw11.DigitsNoughts'. -/
def digitsNoughtsCard : Claim7 := { stood := { row := digitsNoughtsRow, standIns := [], harness := (true, "ee1fc971314b0687f44b6d9b6f58b61d4ec444443b804b25b5fcb5027bbf755e"), looks := true }, kinds := [], alts := [], laidByText := true, laidKinds := [.data, .data, .data, .data, .sentinel, .sentinel, .pinned], laidTests := true, laidLooks := .later }
def DigitsNoughtsCardSaid : Prop := Claim7.holds Tryd.pinned (.plain (OpenSpec.ofChange digitsNoughtsSpec)) digitsNoughtsCard

/-- THE SECOND FORM's CARD OF 'oculuslaw11.DigitsTells'. -/
def digitsTellsUptoCard : Claim7 := { stood := { row := digitsTellsUptoRow, standIns := [], harness := (true, "ee1fc971314b0687f44b6d9b6f58b61d4ec444443b804b25b5fcb5027bbf755e"), looks := true }, kinds := [], alts := [], laidByText := true, laidKinds := [.data, .data, .data, .data, .sentinel, .sentinel, .pinned], laidTests := true, laidLooks := .later }
def DigitsTellsUptoCardSaid : Prop := Claim7.holds Tryd.pinned (.plain (OpenSpec.upto digitsTellsSpec)) digitsTellsUptoCard

/-- THE SECOND FORM's CARD OF 'oculuslaw11.DigitsReads'. -/
def digitsReadsUptoCard : Claim7 := { stood := { row := digitsReadsUptoRow, standIns := [], harness := (true, "ee1fc971314b0687f44b6d9b6f58b61d4ec444443b804b25b5fcb5027bbf755e"), looks := true }, kinds := [], alts := [], laidByText := true, laidKinds := [.data, .data, .data, .data, .sentinel, .sentinel, .pinned], laidTests := true, laidLooks := .later }
def DigitsReadsUptoCardSaid : Prop := Claim7.holds Tryd.pinned (.plain (OpenSpec.upto digitsReadsSpec)) digitsReadsUptoCard

/-- THE SECOND FORM's CARD OF 'oculuslaw11.DigitsNoughts'. -/
def digitsNoughtsUptoCard : Claim7 := { stood := { row := digitsNoughtsUptoRow, standIns := [], harness := (true, "ee1fc971314b0687f44b6d9b6f58b61d4ec444443b804b25b5fcb5027bbf755e"), looks := true }, kinds := [], alts := [], laidByText := true, laidKinds := [.data, .data, .data, .data, .sentinel, .sentinel, .pinned], laidTests := true, laidLooks := .later }
def DigitsNoughtsUptoCardSaid : Prop := Claim7.holds Tryd.pinned (.plain (OpenSpec.upto digitsNoughtsSpec)) digitsNoughtsUptoCard
end Rows
end Go.Proofs.YtfaidiigglkmiaaDoor
