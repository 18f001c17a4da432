/-
  DERIVED. GIVEN WITH THE SEED: THE CARDS: each row of YtckcoogmfgegeaaDoorRows.lean that lists a variable, with what it lists TIED to the program's text (the seventh form; the later family's looks); each row that meets fmt, with fmt's text TOLD by the authors' own Lean function (tested against real Go, not proved from fmt's source: count such statements apart). THE CARD IS WHAT COUNTS. Prove the row's statement (the work); the ties are given (YtckcoogmfgegeaaDoorTie.lean); close each card by the builder's one call (the guide's Derived/Test/ToyasCard.lean, 'card_holds'). Laid BY PROGRAM, IN A SANDBOX (cutbox-door.mjs). By AI agents, Wed Nov 11 2026. No macro, syntax, notation, axiom, sorry.
-/
import Derived.Test.YtckcoogmfgegeaaDoorRows
import GoSem.ClaimSeven
namespace Go.Proofs.YtckcoogmfgegeaaDoor
namespace Rows

/-- THE TIED CARD OF 'oculuslaw14.TextTurns'. -/
def textTurnsCard : Claim7 := { stood := { row := textTurnsRow, standIns := [], harness := (true, "abec2176db5a839ae123f4b9b8d1c34e46c51cc82a34fc39f39bd838de95925e"), looks := false }, kinds := [], alts := [], laidByText := true, laidKinds := [.data, .data, .data, .data, .pinned], laidTests := true, laidLooks := .later }
def TextTurnsCardSaid : Prop := Claim7.holds Tryd.pinned (.plain (OpenSpec.ofChange textTurnsSpec)) textTurnsCard

/-- THE TIED CARD OF 'oculuslaw14.TextPuts'. -/
def textPutsCard : Claim7 := { stood := { row := textPutsRow, standIns := [], harness := (true, "abec2176db5a839ae123f4b9b8d1c34e46c51cc82a34fc39f39bd838de95925e"), looks := false }, kinds := [], alts := [], laidByText := true, laidKinds := [.data, .data, .data, .data, .pinned], laidTests := true, laidLooks := .later }
def TextPutsCardSaid : Prop := Claim7.holds Tryd.pinned (.plain (OpenSpec.ofChange textPutsSpec)) textPutsCard

/-- THE TIED CARD OF 'oculuslaw14.TextJoins'. -/
def textJoinsCard : Claim7 := { stood := { row := textJoinsRow, standIns := [], harness := (true, "abec2176db5a839ae123f4b9b8d1c34e46c51cc82a34fc39f39bd838de95925e"), looks := false }, kinds := [], alts := [], laidByText := true, laidKinds := [.data, .data, .data, .data, .pinned], laidTests := true, laidLooks := .later }
def TextJoinsCardSaid : Prop := Claim7.holds Tryd.pinned (.plain (OpenSpec.ofChange textJoinsSpec)) textJoinsCard

/-- THE TIED CARD OF 'oculuslaw14.TextFixes'. -/
def textFixesCard : Claim7 := { stood := { row := textFixesRow, standIns := [], harness := (true, "abec2176db5a839ae123f4b9b8d1c34e46c51cc82a34fc39f39bd838de95925e"), looks := false }, kinds := [], alts := [], laidByText := true, laidKinds := [.data, .data, .data, .data, .pinned], laidTests := true, laidLooks := .later }
def TextFixesCardSaid : Prop := Claim7.holds Tryd.pinned (.plain (OpenSpec.ofChange textFixesSpec)) textFixesCard

/-- THE SECOND FORM's CARD OF 'oculuslaw14.TextTurns'. -/
def textTurnsUptoCard : Claim7 := { stood := { row := textTurnsUptoRow, standIns := [], harness := (true, "abec2176db5a839ae123f4b9b8d1c34e46c51cc82a34fc39f39bd838de95925e"), looks := false }, kinds := [], alts := [], laidByText := true, laidKinds := [.data, .data, .data, .data, .pinned], laidTests := true, laidLooks := .later }
def TextTurnsUptoCardSaid : Prop := Claim7.holds Tryd.pinned (.plain (OpenSpec.upto textTurnsSpec)) textTurnsUptoCard

/-- THE SECOND FORM's CARD OF 'oculuslaw14.TextPuts'. -/
def textPutsUptoCard : Claim7 := { stood := { row := textPutsUptoRow, standIns := [], harness := (true, "abec2176db5a839ae123f4b9b8d1c34e46c51cc82a34fc39f39bd838de95925e"), looks := false }, kinds := [], alts := [], laidByText := true, laidKinds := [.data, .data, .data, .data, .pinned], laidTests := true, laidLooks := .later }
def TextPutsUptoCardSaid : Prop := Claim7.holds Tryd.pinned (.plain (OpenSpec.upto textPutsSpec)) textPutsUptoCard

/-- THE SECOND FORM's CARD OF 'oculuslaw14.TextJoins'. -/
def textJoinsUptoCard : Claim7 := { stood := { row := textJoinsUptoRow, standIns := [], harness := (true, "abec2176db5a839ae123f4b9b8d1c34e46c51cc82a34fc39f39bd838de95925e"), looks := false }, kinds := [], alts := [], laidByText := true, laidKinds := [.data, .data, .data, .data, .pinned], laidTests := true, laidLooks := .later }
def TextJoinsUptoCardSaid : Prop := Claim7.holds Tryd.pinned (.plain (OpenSpec.upto textJoinsSpec)) textJoinsUptoCard

/-- THE SECOND FORM's CARD OF 'oculuslaw14.TextFixes'. -/
def textFixesUptoCard : Claim7 := { stood := { row := textFixesUptoRow, standIns := [], harness := (true, "abec2176db5a839ae123f4b9b8d1c34e46c51cc82a34fc39f39bd838de95925e"), looks := false }, kinds := [], alts := [], laidByText := true, laidKinds := [.data, .data, .data, .data, .pinned], laidTests := true, laidLooks := .later }
def TextFixesUptoCardSaid : Prop := Claim7.holds Tryd.pinned (.plain (OpenSpec.upto textFixesSpec)) textFixesUptoCard
end Rows
end Go.Proofs.YtckcoogmfgegeaaDoor
