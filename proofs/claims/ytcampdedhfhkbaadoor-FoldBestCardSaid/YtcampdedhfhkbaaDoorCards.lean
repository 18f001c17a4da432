/-
  DERIVED. GIVEN WITH THE SEED: THE CARDS: each row of YtcampdedhfhkbaaDoorRows.lean that lists a variable, with what it lists TIED to the program's text (the seventh form; the later family's looks); each row that meets fmt, with fmt's text TOLD by the authors' own Lean function (tested against real Go, not proved from fmt's source: count such statements apart). THE CARD IS WHAT COUNTS. Prove the row's statement (the work); the ties are given (YtcampdedhfhkbaaDoorTie.lean); close each card by the builder's one call (the guide's Derived/Test/ToyasCard.lean, 'card_holds'). Laid BY PROGRAM, IN A SANDBOX (cutbox-door.mjs). By AI agents, Wed Nov 11 2026. No macro, syntax, notation, axiom, sorry.
-/
import Derived.Test.YtcampdedhfhkbaaDoorRows
import GoSem.ClaimSeven
namespace Go.Proofs.YtcampdedhfhkbaaDoor
namespace Rows

/-- THE TIED CARD OF 'oculuslaw15.FoldSums'. -/
def foldSumsCard : Claim7 := { stood := { row := foldSumsRow, standIns := [], harness := (true, "be5e0243ff39cab2438fe01310a51ea99e6a82fe09f68aa21578528dbd975bf0"), looks := false }, kinds := [], alts := [], laidByText := true, laidKinds := [.data, .data, .data, .data, .pinned], laidTests := true, laidLooks := .later }
def FoldSumsCardSaid : Prop := Claim7.holds Tryd.pinned (.plain (OpenSpec.ofChange foldSumsSpec)) foldSumsCard

/-- THE TIED CARD OF 'oculuslaw15.FoldBest'. -/
def foldBestCard : Claim7 := { stood := { row := foldBestRow, standIns := [], harness := (true, "be5e0243ff39cab2438fe01310a51ea99e6a82fe09f68aa21578528dbd975bf0"), looks := false }, kinds := [], alts := [], laidByText := true, laidKinds := [.data, .data, .data, .data, .pinned], laidTests := true, laidLooks := .later }
def FoldBestCardSaid : Prop := Claim7.holds Tryd.pinned (.plain (OpenSpec.ofChange foldBestSpec)) foldBestCard

/-- THE TIED CARD OF 'oculuslaw15.FoldTexts'. -/
def foldTextsCard : Claim7 := { stood := { row := foldTextsRow, standIns := [], harness := (true, "be5e0243ff39cab2438fe01310a51ea99e6a82fe09f68aa21578528dbd975bf0"), looks := false }, kinds := [], alts := [], laidByText := true, laidKinds := [.data, .data, .data, .data, .pinned], laidTests := true, laidLooks := .later }
def FoldTextsCardSaid : Prop := Claim7.holds Tryd.pinned (.plain (OpenSpec.ofChange foldTextsSpec)) foldTextsCard

/-- THE TIED CARD OF 'oculuslaw15.FoldOrder'. -/
def foldOrderCard : Claim7 := { stood := { row := foldOrderRow, standIns := [], harness := (true, "be5e0243ff39cab2438fe01310a51ea99e6a82fe09f68aa21578528dbd975bf0"), looks := false }, kinds := [], alts := [], laidByText := true, laidKinds := [.data, .data, .data, .data, .pinned], laidTests := true, laidLooks := .later }
def FoldOrderCardSaid : Prop := Claim7.holds Tryd.pinned (.plain (OpenSpec.ofChange foldOrderSpec)) foldOrderCard

/-- THE SECOND FORM's CARD OF 'oculuslaw15.FoldSums'. -/
def foldSumsUptoCard : Claim7 := { stood := { row := foldSumsUptoRow, standIns := [], harness := (true, "be5e0243ff39cab2438fe01310a51ea99e6a82fe09f68aa21578528dbd975bf0"), looks := false }, kinds := [], alts := [], laidByText := true, laidKinds := [.data, .data, .data, .data, .pinned], laidTests := true, laidLooks := .later }
def FoldSumsUptoCardSaid : Prop := Claim7.holds Tryd.pinned (.plain (OpenSpec.upto foldSumsSpec)) foldSumsUptoCard

/-- THE SECOND FORM's CARD OF 'oculuslaw15.FoldBest'. -/
def foldBestUptoCard : Claim7 := { stood := { row := foldBestUptoRow, standIns := [], harness := (true, "be5e0243ff39cab2438fe01310a51ea99e6a82fe09f68aa21578528dbd975bf0"), looks := false }, kinds := [], alts := [], laidByText := true, laidKinds := [.data, .data, .data, .data, .pinned], laidTests := true, laidLooks := .later }
def FoldBestUptoCardSaid : Prop := Claim7.holds Tryd.pinned (.plain (OpenSpec.upto foldBestSpec)) foldBestUptoCard

/-- THE SECOND FORM's CARD OF 'oculuslaw15.FoldTexts'. -/
def foldTextsUptoCard : Claim7 := { stood := { row := foldTextsUptoRow, standIns := [], harness := (true, "be5e0243ff39cab2438fe01310a51ea99e6a82fe09f68aa21578528dbd975bf0"), looks := false }, kinds := [], alts := [], laidByText := true, laidKinds := [.data, .data, .data, .data, .pinned], laidTests := true, laidLooks := .later }
def FoldTextsUptoCardSaid : Prop := Claim7.holds Tryd.pinned (.plain (OpenSpec.upto foldTextsSpec)) foldTextsUptoCard

/-- THE SECOND FORM's CARD OF 'oculuslaw15.FoldOrder'. -/
def foldOrderUptoCard : Claim7 := { stood := { row := foldOrderUptoRow, standIns := [], harness := (true, "be5e0243ff39cab2438fe01310a51ea99e6a82fe09f68aa21578528dbd975bf0"), looks := false }, kinds := [], alts := [], laidByText := true, laidKinds := [.data, .data, .data, .data, .pinned], laidTests := true, laidLooks := .later }
def FoldOrderUptoCardSaid : Prop := Claim7.holds Tryd.pinned (.plain (OpenSpec.upto foldOrderSpec)) foldOrderUptoCard
end Rows
end Go.Proofs.YtcampdedhfhkbaaDoor
