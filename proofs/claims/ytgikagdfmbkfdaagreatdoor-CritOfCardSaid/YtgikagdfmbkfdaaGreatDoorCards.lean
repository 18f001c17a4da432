/-
  DERIVED. GIVEN WITH THE SEED: THE CARDS: each row of YtgikagdfmbkfdaaGreatDoorRows.lean that lists a variable, with what it lists TIED to the program's text (the seventh form; the later family's looks); each row that meets fmt, with fmt's text TOLD by the authors' own Lean function (tested against real Go, not proved from fmt's source: count such statements apart). THE CARD IS WHAT COUNTS. Prove the row's statement (the work); the ties are given (YtgikagdfmbkfdaaGreatDoorTie.lean); close each card by the builder's one call (the guide's Derived/Test/ToyasCard.lean, 'card_holds'). Laid BY PROGRAM, IN A SANDBOX (cutbox-door.mjs). By AI agents, Wed Nov 11 2026. No macro, syntax, notation, axiom, sorry.
-/
import Derived.Test.YtgikagdfmbkfdaaGreatDoorRows
import GoSem.ClaimSeven
namespace Go.Proofs.YtgikagdfmbkfdaaGreatDoor
namespace Rows

/-- THE TIED CARD OF 'oculuslaw17.CritOf'. -/
def critOfCard : Claim7 := { stood := { row := critOfRow, standIns := [], harness := (true, "a768bf367bf8dd491d88dddb5d74469ca4b669331c6299c89c0d8a42c23eaba2"), looks := true }, kinds := [], alts := [], laidByText := true, laidKinds := [.data, .data, .data, .data, .sentinel, .sentinel, .data, .pinned], laidTests := true, laidLooks := .later }
def CritOfCardSaid : Prop := Claim7.holds Tryz.pinned (.plain (OpenSpec.ofChange critOfSpec)) critOfCard

/-- THE TIED CARD OF 'oculuslaw17.CritLike'. -/
def critLikeCard : Claim7 := { stood := { row := critLikeRow, standIns := [], harness := (true, "a768bf367bf8dd491d88dddb5d74469ca4b669331c6299c89c0d8a42c23eaba2"), looks := true }, kinds := [], alts := [], laidByText := true, laidKinds := [.data, .data, .data, .data, .sentinel, .sentinel, .data, .pinned], laidTests := true, laidLooks := .later }
def CritLikeCardSaid : Prop := Claim7.holds Tryz.pinned (.plain (OpenSpec.ofChange critLikeSpec)) critLikeCard

/-- THE TIED CARD OF 'oculuslaw17.CritHits'. -/
def critHitsCard : Claim7 := { stood := { row := critHitsRow, standIns := [], harness := (true, "a768bf367bf8dd491d88dddb5d74469ca4b669331c6299c89c0d8a42c23eaba2"), looks := true }, kinds := [], alts := [], laidByText := true, laidKinds := [.data, .data, .data, .data, .sentinel, .sentinel, .data, .pinned], laidTests := true, laidLooks := .later }
def CritHitsCardSaid : Prop := Claim7.holds Tryz.pinned (.plain (OpenSpec.ofChange critHitsSpec)) critHitsCard

/-- THE SECOND FORM's CARD OF 'oculuslaw17.CritOf'. -/
def critOfUptoCard : Claim7 := { stood := { row := critOfUptoRow, standIns := [], harness := (true, "a768bf367bf8dd491d88dddb5d74469ca4b669331c6299c89c0d8a42c23eaba2"), looks := true }, kinds := [], alts := [], laidByText := true, laidKinds := [.data, .data, .data, .data, .sentinel, .sentinel, .data, .pinned], laidTests := true, laidLooks := .later }
def CritOfUptoCardSaid : Prop := Claim7.holds Tryz.pinned (.plain (OpenSpec.upto critOfSpec)) critOfUptoCard

/-- THE SECOND FORM's CARD OF 'oculuslaw17.CritLike'. -/
def critLikeUptoCard : Claim7 := { stood := { row := critLikeUptoRow, standIns := [], harness := (true, "a768bf367bf8dd491d88dddb5d74469ca4b669331c6299c89c0d8a42c23eaba2"), looks := true }, kinds := [], alts := [], laidByText := true, laidKinds := [.data, .data, .data, .data, .sentinel, .sentinel, .data, .pinned], laidTests := true, laidLooks := .later }
def CritLikeUptoCardSaid : Prop := Claim7.holds Tryz.pinned (.plain (OpenSpec.upto critLikeSpec)) critLikeUptoCard

/-- THE SECOND FORM's CARD OF 'oculuslaw17.CritHits'. -/
def critHitsUptoCard : Claim7 := { stood := { row := critHitsUptoRow, standIns := [], harness := (true, "a768bf367bf8dd491d88dddb5d74469ca4b669331c6299c89c0d8a42c23eaba2"), looks := true }, kinds := [], alts := [], laidByText := true, laidKinds := [.data, .data, .data, .data, .sentinel, .sentinel, .data, .pinned], laidTests := true, laidLooks := .later }
def CritHitsUptoCardSaid : Prop := Claim7.holds Tryz.pinned (.plain (OpenSpec.upto critHitsSpec)) critHitsUptoCard
end Rows
end Go.Proofs.YtgikagdfmbkfdaaGreatDoor
