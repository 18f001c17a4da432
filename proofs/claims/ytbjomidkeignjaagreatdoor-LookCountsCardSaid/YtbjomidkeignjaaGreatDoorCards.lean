/-
  DERIVED. GIVEN WITH THE SEED: THE CARDS: each row of YtbjomidkeignjaaGreatDoorRows.lean that lists a variable, with what it lists TIED to the program's text (the seventh form; the later family's looks); each row that meets fmt, with fmt's text TOLD by the authors' own Lean function (tested against real Go, not proved from fmt's source: count such statements apart). THE CARD IS WHAT COUNTS. Prove the row's statement (the work); the ties are given (YtbjomidkeignjaaGreatDoorTie.lean); close each card by the builder's one call (the guide's Derived/Test/ToyasCard.lean, 'card_holds'). Laid BY PROGRAM, IN A SANDBOX (cutbox-door.mjs). By AI agents, Wed Nov 11 2026. No macro, syntax, notation, axiom, sorry.
-/
import Derived.Test.YtbjomidkeignjaaGreatDoorRows
import GoSem.ClaimSeven
namespace Go.Proofs.YtbjomidkeignjaaGreatDoor
namespace Rows

/-- THE TIED CARD OF 'oculuslaw18.LookFinds'. -/
def lookFindsCard : Claim7 := { stood := { row := lookFindsRow, standIns := [], harness := (true, "dd6e8bb0fdc4be75604ddca438958ec6a65d17cd0232c26ac092b5a099ada324"), looks := true }, kinds := [], alts := [], laidByText := true, laidKinds := [.data, .data, .data, .data, .sentinel, .sentinel, .data, .pinned], laidTests := true, laidLooks := .later }
def LookFindsCardSaid : Prop := Claim7.holds Tryz.pinned (.plain (OpenSpec.ofChange lookFindsSpec)) lookFindsCard

/-- THE TIED CARD OF 'oculuslaw18.LookAcross'. -/
def lookAcrossCard : Claim7 := { stood := { row := lookAcrossRow, standIns := [], harness := (true, "dd6e8bb0fdc4be75604ddca438958ec6a65d17cd0232c26ac092b5a099ada324"), looks := true }, kinds := [], alts := [], laidByText := true, laidKinds := [.data, .data, .data, .data, .sentinel, .sentinel, .data, .pinned], laidTests := true, laidLooks := .later }
def LookAcrossCardSaid : Prop := Claim7.holds Tryz.pinned (.plain (OpenSpec.ofChange lookAcrossSpec)) lookAcrossCard

/-- THE TIED CARD OF 'oculuslaw18.LookCounts'. -/
def lookCountsCard : Claim7 := { stood := { row := lookCountsRow, standIns := [], harness := (true, "dd6e8bb0fdc4be75604ddca438958ec6a65d17cd0232c26ac092b5a099ada324"), looks := true }, kinds := [], alts := [], laidByText := true, laidKinds := [.data, .data, .data, .data, .sentinel, .sentinel, .data, .pinned], laidTests := true, laidLooks := .later }
def LookCountsCardSaid : Prop := Claim7.holds Tryz.pinned (.plain (OpenSpec.ofChange lookCountsSpec)) lookCountsCard

/-- THE TIED CARD OF 'oculuslaw18.LookProducts'. -/
def lookProductsCard : Claim7 := { stood := { row := lookProductsRow, standIns := [], harness := (true, "dd6e8bb0fdc4be75604ddca438958ec6a65d17cd0232c26ac092b5a099ada324"), looks := true }, kinds := [], alts := [], laidByText := true, laidKinds := [.data, .data, .data, .data, .sentinel, .sentinel, .data, .pinned], laidTests := true, laidLooks := .later }
def LookProductsCardSaid : Prop := Claim7.holds Tryz.pinned (.plain (OpenSpec.ofChange lookProductsSpec)) lookProductsCard

/-- THE SECOND FORM's CARD OF 'oculuslaw18.LookFinds'. -/
def lookFindsUptoCard : Claim7 := { stood := { row := lookFindsUptoRow, standIns := [], harness := (true, "dd6e8bb0fdc4be75604ddca438958ec6a65d17cd0232c26ac092b5a099ada324"), looks := true }, kinds := [], alts := [], laidByText := true, laidKinds := [.data, .data, .data, .data, .sentinel, .sentinel, .data, .pinned], laidTests := true, laidLooks := .later }
def LookFindsUptoCardSaid : Prop := Claim7.holds Tryz.pinned (.plain (OpenSpec.upto lookFindsSpec)) lookFindsUptoCard

/-- THE SECOND FORM's CARD OF 'oculuslaw18.LookAcross'. -/
def lookAcrossUptoCard : Claim7 := { stood := { row := lookAcrossUptoRow, standIns := [], harness := (true, "dd6e8bb0fdc4be75604ddca438958ec6a65d17cd0232c26ac092b5a099ada324"), looks := true }, kinds := [], alts := [], laidByText := true, laidKinds := [.data, .data, .data, .data, .sentinel, .sentinel, .data, .pinned], laidTests := true, laidLooks := .later }
def LookAcrossUptoCardSaid : Prop := Claim7.holds Tryz.pinned (.plain (OpenSpec.upto lookAcrossSpec)) lookAcrossUptoCard

/-- THE SECOND FORM's CARD OF 'oculuslaw18.LookCounts'. -/
def lookCountsUptoCard : Claim7 := { stood := { row := lookCountsUptoRow, standIns := [], harness := (true, "dd6e8bb0fdc4be75604ddca438958ec6a65d17cd0232c26ac092b5a099ada324"), looks := true }, kinds := [], alts := [], laidByText := true, laidKinds := [.data, .data, .data, .data, .sentinel, .sentinel, .data, .pinned], laidTests := true, laidLooks := .later }
def LookCountsUptoCardSaid : Prop := Claim7.holds Tryz.pinned (.plain (OpenSpec.upto lookCountsSpec)) lookCountsUptoCard

/-- THE SECOND FORM's CARD OF 'oculuslaw18.LookProducts'. -/
def lookProductsUptoCard : Claim7 := { stood := { row := lookProductsUptoRow, standIns := [], harness := (true, "dd6e8bb0fdc4be75604ddca438958ec6a65d17cd0232c26ac092b5a099ada324"), looks := true }, kinds := [], alts := [], laidByText := true, laidKinds := [.data, .data, .data, .data, .sentinel, .sentinel, .data, .pinned], laidTests := true, laidLooks := .later }
def LookProductsUptoCardSaid : Prop := Claim7.holds Tryz.pinned (.plain (OpenSpec.upto lookProductsSpec)) lookProductsUptoCard
end Rows
end Go.Proofs.YtbjomidkeignjaaGreatDoor
