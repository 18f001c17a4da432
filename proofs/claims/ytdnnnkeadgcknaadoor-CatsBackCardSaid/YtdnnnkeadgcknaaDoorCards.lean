/-
  DERIVED. GIVEN WITH THE SEED: THE CARDS: each row of YtdnnnkeadgcknaaDoorRows.lean that lists a variable, with what it lists TIED to the program's text (the seventh form; the later family's looks); each row that meets fmt, with fmt's text TOLD by the authors' own Lean function (tested against real Go, not proved from fmt's source: count such statements apart). THE CARD IS WHAT COUNTS. Prove the row's statement (the work); the ties are given (YtdnnnkeadgcknaaDoorTie.lean); close each card by the builder's one call (the guide's Derived/Test/ToyasCard.lean, 'card_holds'). Laid BY PROGRAM, IN A SANDBOX (cutbox-door.mjs). By AI agents, Wed Nov 11 2026. No macro, syntax, notation, axiom, sorry.
-/
import Derived.Test.YtdnnnkeadgcknaaDoorRows
import GoSem.ClaimSeven
namespace Go.Proofs.YtdnnnkeadgcknaaDoor
namespace Rows

/-- THE TIED CARD OF 'oculuslaw01.CatsTells'. -/
def catsTellsCard : Claim7 := { stood := { row := catsTellsRow, standIns := [], harness := (true, "ca560adce77e5b1c19a23beab3c0d374deb8e8a8976722b3f867f73f39698042"), looks := false }, kinds := [], alts := [], laidByText := true, laidKinds := [.data, .data, .data], laidTests := true, laidLooks := .later }
def CatsTellsCardSaid : Prop := Claim7.holds Tryd.pinned (.plain (OpenSpec.ofChange catsTellsSpec)) catsTellsCard

/-- THE TIED CARD OF 'oculuslaw01.CatsWithin'. -/
def catsWithinCard : Claim7 := { stood := { row := catsWithinRow, standIns := [], harness := (true, "ca560adce77e5b1c19a23beab3c0d374deb8e8a8976722b3f867f73f39698042"), looks := false }, kinds := [], alts := [], laidByText := true, laidKinds := [.data, .data, .data], laidTests := true, laidLooks := .later }
def CatsWithinCardSaid : Prop := Claim7.holds Tryd.pinned (.plain (OpenSpec.ofChange catsWithinSpec)) catsWithinCard

/-- THE TIED CARD OF 'oculuslaw01.CatsOf'. -/
def catsOfCard : Claim7 := { stood := { row := catsOfRow, standIns := [], harness := (true, "ca560adce77e5b1c19a23beab3c0d374deb8e8a8976722b3f867f73f39698042"), looks := false }, kinds := [], alts := [], laidByText := true, laidKinds := [.data, .data, .data], laidTests := true, laidLooks := .later }
def CatsOfCardSaid : Prop := Claim7.holds Tryd.pinned (.plain (OpenSpec.ofChange catsOfSpec)) catsOfCard

/-- THE TIED CARD OF 'oculuslaw01.CatsBack'. -/
def catsBackCard : Claim7 := { stood := { row := catsBackRow, standIns := [], harness := (true, "ca560adce77e5b1c19a23beab3c0d374deb8e8a8976722b3f867f73f39698042"), looks := false }, kinds := [], alts := [], laidByText := true, laidKinds := [.data, .data, .data], laidTests := true, laidLooks := .later }
def CatsBackCardSaid : Prop := Claim7.holds Tryd.pinned (.plain (OpenSpec.ofChange catsBackSpec)) catsBackCard

/-- THE SECOND FORM's CARD OF 'oculuslaw01.CatsTells'. -/
def catsTellsUptoCard : Claim7 := { stood := { row := catsTellsUptoRow, standIns := [], harness := (true, "ca560adce77e5b1c19a23beab3c0d374deb8e8a8976722b3f867f73f39698042"), looks := false }, kinds := [], alts := [], laidByText := true, laidKinds := [.data, .data, .data], laidTests := true, laidLooks := .later }
def CatsTellsUptoCardSaid : Prop := Claim7.holds Tryd.pinned (.plain (OpenSpec.upto catsTellsSpec)) catsTellsUptoCard

/-- THE SECOND FORM's CARD OF 'oculuslaw01.CatsWithin'. -/
def catsWithinUptoCard : Claim7 := { stood := { row := catsWithinUptoRow, standIns := [], harness := (true, "ca560adce77e5b1c19a23beab3c0d374deb8e8a8976722b3f867f73f39698042"), looks := false }, kinds := [], alts := [], laidByText := true, laidKinds := [.data, .data, .data], laidTests := true, laidLooks := .later }
def CatsWithinUptoCardSaid : Prop := Claim7.holds Tryd.pinned (.plain (OpenSpec.upto catsWithinSpec)) catsWithinUptoCard

/-- THE SECOND FORM's CARD OF 'oculuslaw01.CatsOf'. -/
def catsOfUptoCard : Claim7 := { stood := { row := catsOfUptoRow, standIns := [], harness := (true, "ca560adce77e5b1c19a23beab3c0d374deb8e8a8976722b3f867f73f39698042"), looks := false }, kinds := [], alts := [], laidByText := true, laidKinds := [.data, .data, .data], laidTests := true, laidLooks := .later }
def CatsOfUptoCardSaid : Prop := Claim7.holds Tryd.pinned (.plain (OpenSpec.upto catsOfSpec)) catsOfUptoCard

/-- THE SECOND FORM's CARD OF 'oculuslaw01.CatsBack'. -/
def catsBackUptoCard : Claim7 := { stood := { row := catsBackUptoRow, standIns := [], harness := (true, "ca560adce77e5b1c19a23beab3c0d374deb8e8a8976722b3f867f73f39698042"), looks := false }, kinds := [], alts := [], laidByText := true, laidKinds := [.data, .data, .data], laidTests := true, laidLooks := .later }
def CatsBackUptoCardSaid : Prop := Claim7.holds Tryd.pinned (.plain (OpenSpec.upto catsBackSpec)) catsBackUptoCard
end Rows
end Go.Proofs.YtdnnnkeadgcknaaDoor
