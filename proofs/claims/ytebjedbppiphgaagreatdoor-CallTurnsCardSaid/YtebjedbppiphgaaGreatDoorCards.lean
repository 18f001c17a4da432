/-
  DERIVED. GIVEN WITH THE SEED: THE CARDS: each row of YtebjedbppiphgaaGreatDoorRows.lean that lists a variable, with what it lists TIED to the program's text (the seventh form; the later family's looks); each row that meets fmt, with fmt's text TOLD by the authors' own Lean function (tested against real Go, not proved from fmt's source: count such statements apart). THE CARD IS WHAT COUNTS. Prove the row's statement (the work); the ties are given (YtebjedbppiphgaaGreatDoorTie.lean); close each card by the builder's one call (the guide's Derived/Test/ToyasCard.lean, 'card_holds'). Laid BY PROGRAM, IN A SANDBOX (cutbox-door.mjs). By AI agents, Wed Nov 11 2026. No macro, syntax, notation, axiom, sorry.
-/
import Derived.Test.YtebjedbppiphgaaGreatDoorRows
import GoSem.ClaimSeven
namespace Go.Proofs.YtebjedbppiphgaaGreatDoor
namespace Rows

/-- THE TIED CARD OF 'oculuslaw20.CallOperates'. -/
def callOperatesCard : Claim7 := { stood := { row := callOperatesRow, standIns := [], harness := (true, "8acb18fd71af083da4ee99f090d75e8ccee08c1d715c20bcb22609a44548a3a8"), looks := true }, kinds := [], alts := [], laidByText := true, laidKinds := [.data, .data, .data, .data, .sentinel, .sentinel, .data, .pinned], laidTests := true, laidLooks := .later }
def CallOperatesCardSaid : Prop := Claim7.holds Tryz.pinned (.plain (OpenSpec.ofChange callOperatesSpec)) callOperatesCard

/-- THE TIED CARD OF 'oculuslaw20.CallCalls'. -/
def callCallsCard : Claim7 := { stood := { row := callCallsRow, standIns := [], harness := (true, "8acb18fd71af083da4ee99f090d75e8ccee08c1d715c20bcb22609a44548a3a8"), looks := true }, kinds := [], alts := [], laidByText := true, laidKinds := [.data, .data, .data, .data, .sentinel, .sentinel, .data, .pinned], laidTests := true, laidLooks := .later }
def CallCallsCardSaid : Prop := Claim7.holds Tryz.pinned (.plain (OpenSpec.ofChange callCallsSpec)) callCallsCard

/-- THE TIED CARD OF 'oculuslaw20.CallFaults'. -/
def callFaultsCard : Claim7 := { stood := { row := callFaultsRow, standIns := [], harness := (true, "8acb18fd71af083da4ee99f090d75e8ccee08c1d715c20bcb22609a44548a3a8"), looks := true }, kinds := [], alts := [], laidByText := true, laidKinds := [.data, .data, .data, .data, .sentinel, .sentinel, .data, .pinned], laidTests := true, laidLooks := .later }
def CallFaultsCardSaid : Prop := Claim7.holds Tryz.pinned (.plain (OpenSpec.ofChange callFaultsSpec)) callFaultsCard

/-- THE TIED CARD OF 'oculuslaw20.CallTurns'. -/
def callTurnsCard : Claim7 := { stood := { row := callTurnsRow, standIns := [], harness := (true, "8acb18fd71af083da4ee99f090d75e8ccee08c1d715c20bcb22609a44548a3a8"), looks := true }, kinds := [], alts := [], laidByText := true, laidKinds := [.data, .data, .data, .data, .sentinel, .sentinel, .data, .pinned], laidTests := true, laidLooks := .later }
def CallTurnsCardSaid : Prop := Claim7.holds Tryz.pinned (.plain (OpenSpec.ofChange callTurnsSpec)) callTurnsCard

/-- THE SECOND FORM's CARD OF 'oculuslaw20.CallOperates'. -/
def callOperatesUptoCard : Claim7 := { stood := { row := callOperatesUptoRow, standIns := [], harness := (true, "8acb18fd71af083da4ee99f090d75e8ccee08c1d715c20bcb22609a44548a3a8"), looks := true }, kinds := [], alts := [], laidByText := true, laidKinds := [.data, .data, .data, .data, .sentinel, .sentinel, .data, .pinned], laidTests := true, laidLooks := .later }
def CallOperatesUptoCardSaid : Prop := Claim7.holds Tryz.pinned (.plain (OpenSpec.upto callOperatesSpec)) callOperatesUptoCard

/-- THE SECOND FORM's CARD OF 'oculuslaw20.CallCalls'. -/
def callCallsUptoCard : Claim7 := { stood := { row := callCallsUptoRow, standIns := [], harness := (true, "8acb18fd71af083da4ee99f090d75e8ccee08c1d715c20bcb22609a44548a3a8"), looks := true }, kinds := [], alts := [], laidByText := true, laidKinds := [.data, .data, .data, .data, .sentinel, .sentinel, .data, .pinned], laidTests := true, laidLooks := .later }
def CallCallsUptoCardSaid : Prop := Claim7.holds Tryz.pinned (.plain (OpenSpec.upto callCallsSpec)) callCallsUptoCard

/-- THE SECOND FORM's CARD OF 'oculuslaw20.CallFaults'. -/
def callFaultsUptoCard : Claim7 := { stood := { row := callFaultsUptoRow, standIns := [], harness := (true, "8acb18fd71af083da4ee99f090d75e8ccee08c1d715c20bcb22609a44548a3a8"), looks := true }, kinds := [], alts := [], laidByText := true, laidKinds := [.data, .data, .data, .data, .sentinel, .sentinel, .data, .pinned], laidTests := true, laidLooks := .later }
def CallFaultsUptoCardSaid : Prop := Claim7.holds Tryz.pinned (.plain (OpenSpec.upto callFaultsSpec)) callFaultsUptoCard

/-- THE SECOND FORM's CARD OF 'oculuslaw20.CallTurns'. -/
def callTurnsUptoCard : Claim7 := { stood := { row := callTurnsUptoRow, standIns := [], harness := (true, "8acb18fd71af083da4ee99f090d75e8ccee08c1d715c20bcb22609a44548a3a8"), looks := true }, kinds := [], alts := [], laidByText := true, laidKinds := [.data, .data, .data, .data, .sentinel, .sentinel, .data, .pinned], laidTests := true, laidLooks := .later }
def CallTurnsUptoCardSaid : Prop := Claim7.holds Tryz.pinned (.plain (OpenSpec.upto callTurnsSpec)) callTurnsUptoCard
end Rows
end Go.Proofs.YtebjedbppiphgaaGreatDoor
