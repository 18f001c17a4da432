/-
  No cell of these rows narrows 'for every input' (looked for: loops, veiled, ifaces, maps, wideKeys, modest, calm, conditions, laid).
  DERIVED. THE GIVEN ROWS OF THIS SEAT. 4 by the template 'for every input the law returns true; each argument reads behind the call as it read before'; 0 by the template 'total and deterministic' (their statements: YtkbibkadofeamaaTotals.lean).
  GIVEN WITH THE SEED: the statements are not yours to turn. If you find one false, say at which input.
  Laid BY PROGRAM, IN A SANDBOX (cutbox-rows.mjs): the forced cells as the released guide's own fill.sh prints them over the translation fe6b3cab0c90734c… (all of the seat's roots in one cut). By AI agents, Wed Nov 11 2026. No macro, syntax, notation, axiom, sorry.
-/
import Derived.Test.YtkbibkadofeamaaChecked
import GoSem.Claim
import GoSem.ClaimJoined
import GoSem.ClaimMapViews
import Derived.JoinedTies
import Derived.KernelRfl
namespace Go.Proofs.Ytkbibkadofeamaa
/- THE CELL 'sum', in the pinned program and in every row, IS THE sha256 OF THE DUMP (.gsa) THAT YtkbibkadofeamaaProg.lean LOADS. Nothing in Lean hashes anything: it is a label: what it is worth is what the hold of that sum in a sandbox is worth. -/
noncomputable def Try.pinned : Pinned := { name := "ytkbibkadofeamaa", sum := "fe6b3cab0c90734c5bb179139bd691bfecb9dd3fadb38020c1cc6a689c416a4b", checked := Try.checked }
namespace Rows
def none {H : Type} : Left H := { results := [], args := [] }

/-- 'oculuslaw13.RunesCut': WHATEVER THE INPUT: true; the input reads as it did. -/
def runesCutSpec : ChangeSpec := { name := "runesCut", fn := fun _ => fun
  | [d1, d2, d3] => { results := [.lit (.bool true)], args := [d1, d2, d3] }
  | _ => none }
def runesCutRow : OpenClaim := { program := "ytkbibkadofeamaa", sum := "fe6b3cab0c90734c5bb179139bd691bfecb9dd3fadb38020c1cc6a689c416a4b", func := "oculus/oculuslaw13.RunesCut", spec := "runesCut", apart := false }
def RunesCutSaid : Prop := runesCutRow.holds Try.pinned (OpenSpec.ofChange runesCutSpec)

/-- ITS FALSE NEIGHBOUR: 'it returns false'. Refute it at one input. -/
def runesCutWrong : ChangeSpec := { name := "runesCut", fn := fun _ => fun
  | [d1, d2, d3] => { results := [.lit (.bool false)], args := [d1, d2, d3] }
  | _ => none }
def RunesCutWrongFalsely : Prop := runesCutRow.holds Try.pinned (OpenSpec.ofChange runesCutWrong)

/-- 'oculuslaw13.RunesSplit': WHATEVER THE INPUT: true; the input reads as it did. -/
def runesSplitSpec : ChangeSpec := { name := "runesSplit", fn := fun _ => fun
  | [d1, d2] => { results := [.lit (.bool true)], args := [d1, d2] }
  | _ => none }
def runesSplitRow : OpenClaim := { program := "ytkbibkadofeamaa", sum := "fe6b3cab0c90734c5bb179139bd691bfecb9dd3fadb38020c1cc6a689c416a4b", func := "oculus/oculuslaw13.RunesSplit", spec := "runesSplit", apart := false }
def RunesSplitSaid : Prop := runesSplitRow.holds Try.pinned (OpenSpec.ofChange runesSplitSpec)

/-- ITS FALSE NEIGHBOUR: 'it returns false'. Refute it at one input. -/
def runesSplitWrong : ChangeSpec := { name := "runesSplit", fn := fun _ => fun
  | [d1, d2] => { results := [.lit (.bool false)], args := [d1, d2] }
  | _ => none }
def RunesSplitWrongFalsely : Prop := runesSplitRow.holds Try.pinned (OpenSpec.ofChange runesSplitWrong)

/-- 'oculuslaw13.RunesFinds': WHATEVER THE INPUT: true; the input reads as it did. -/
def runesFindsSpec : ChangeSpec := { name := "runesFinds", fn := fun _ => fun
  | [d1, d2] => { results := [.lit (.bool true)], args := [d1, d2] }
  | _ => none }
def runesFindsRow : OpenClaim := { program := "ytkbibkadofeamaa", sum := "fe6b3cab0c90734c5bb179139bd691bfecb9dd3fadb38020c1cc6a689c416a4b", func := "oculus/oculuslaw13.RunesFinds", spec := "runesFinds", apart := false }
def RunesFindsSaid : Prop := runesFindsRow.holds Try.pinned (OpenSpec.ofChange runesFindsSpec)

/-- ITS FALSE NEIGHBOUR: 'it returns false'. Refute it at one input. -/
def runesFindsWrong : ChangeSpec := { name := "runesFinds", fn := fun _ => fun
  | [d1, d2] => { results := [.lit (.bool false)], args := [d1, d2] }
  | _ => none }
def RunesFindsWrongFalsely : Prop := runesFindsRow.holds Try.pinned (OpenSpec.ofChange runesFindsWrong)

/-- 'oculuslaw13.RunesTurn': WHATEVER THE INPUT: true; the input reads as it did. -/
def runesTurnSpec : ChangeSpec := { name := "runesTurn", fn := fun _ => fun
  | [d1, d2] => { results := [.lit (.bool true)], args := [d1, d2] }
  | _ => none }
def runesTurnRow : OpenClaim := { program := "ytkbibkadofeamaa", sum := "fe6b3cab0c90734c5bb179139bd691bfecb9dd3fadb38020c1cc6a689c416a4b", func := "oculus/oculuslaw13.RunesTurn", spec := "runesTurn", apart := false }
def RunesTurnSaid : Prop := runesTurnRow.holds Try.pinned (OpenSpec.ofChange runesTurnSpec)

/-- ITS FALSE NEIGHBOUR: 'it returns false'. Refute it at one input. -/
def runesTurnWrong : ChangeSpec := { name := "runesTurn", fn := fun _ => fun
  | [d1, d2] => { results := [.lit (.bool false)], args := [d1, d2] }
  | _ => none }
def RunesTurnWrongFalsely : Prop := runesTurnRow.holds Try.pinned (OpenSpec.ofChange runesTurnWrong)

/- THE SECOND FORM. 'bulk': how many values and letters a reading holds, each counted each time it is reached (what is shared counts as often as it is met; a slice's spare places count too). A statement '..UptoSaid' is the law's where the arguments, and the package variables that the reading takes, are together of bulk at most 1048576: NARROWER than '..Said'. Prove '..Said' where nothing that the law and all that it calls make is longer than what came in: it says more and counts as full. Else prove '..UptoSaid'. A law counts once. -/
mutual
def uptoBulk {H : Type} : DataW H → Nat
  | .lit (.string bytes) => bytes.length + 1
  | .lit _ => 1
  | .nil => 1
  | .ptr d => uptoBulk d + 1
  | .slice elems spare => uptoBulkAll elems + uptoBulkAll spare + 1
  | .agg parts => uptoBulkAll parts + 1
  | .iface _ d => uptoBulk d + 1
  | .map entries => uptoBulkEntries entries + 1
  | .held _ => 1
def uptoBulkAll {H : Type} : List (DataW H) → Nat
  | [] => 0
  | d :: r => uptoBulk d + uptoBulkAll r
def uptoBulkEntries {H : Type} : List (Lit × DataW H) → Nat
  | [] => 0
  | x :: r => uptoBulkEntry x + uptoBulkEntries r
def uptoBulkEntry {H : Type} : Lit × DataW H → Nat
  | (.string bytes, d) => bytes.length + uptoBulk d + 1
  | (_, d) => uptoBulk d + 1
 end
def uptoSmall : (H : Type) → List (DataW H) → Bool := fun _ ds => decide (uptoBulkAll ds ≤ 1048576)
def OpenSpec.upto (s : _root_.Go.ChangeSpec) : _root_.Go.OpenSpec := { _root_.Go.OpenSpec.ofChange s with cond := some uptoSmall }

/-- 'oculuslaw13.RunesCut', WHERE WHAT IT READS IS OF BULK AT MOST 1048576: true; the input reads as it did. -/
def runesCutUptoRow : OpenClaim := { program := "ytkbibkadofeamaa", sum := "fe6b3cab0c90734c5bb179139bd691bfecb9dd3fadb38020c1cc6a689c416a4b", func := "oculus/oculuslaw13.RunesCut", spec := "runesCut", apart := false, narrowed := true }
def RunesCutUptoSaid : Prop := runesCutUptoRow.holds Try.pinned (OpenSpec.upto runesCutSpec)

/-- 'oculuslaw13.RunesSplit', WHERE WHAT IT READS IS OF BULK AT MOST 1048576: true; the input reads as it did. -/
def runesSplitUptoRow : OpenClaim := { program := "ytkbibkadofeamaa", sum := "fe6b3cab0c90734c5bb179139bd691bfecb9dd3fadb38020c1cc6a689c416a4b", func := "oculus/oculuslaw13.RunesSplit", spec := "runesSplit", apart := false, narrowed := true }
def RunesSplitUptoSaid : Prop := runesSplitUptoRow.holds Try.pinned (OpenSpec.upto runesSplitSpec)

/-- 'oculuslaw13.RunesFinds', WHERE WHAT IT READS IS OF BULK AT MOST 1048576: true; the input reads as it did. -/
def runesFindsUptoRow : OpenClaim := { program := "ytkbibkadofeamaa", sum := "fe6b3cab0c90734c5bb179139bd691bfecb9dd3fadb38020c1cc6a689c416a4b", func := "oculus/oculuslaw13.RunesFinds", spec := "runesFinds", apart := false, narrowed := true }
def RunesFindsUptoSaid : Prop := runesFindsUptoRow.holds Try.pinned (OpenSpec.upto runesFindsSpec)

/-- 'oculuslaw13.RunesTurn', WHERE WHAT IT READS IS OF BULK AT MOST 1048576: true; the input reads as it did. -/
def runesTurnUptoRow : OpenClaim := { program := "ytkbibkadofeamaa", sum := "fe6b3cab0c90734c5bb179139bd691bfecb9dd3fadb38020c1cc6a689c416a4b", func := "oculus/oculuslaw13.RunesTurn", spec := "runesTurn", apart := false, narrowed := true }
def RunesTurnUptoSaid : Prop := runesTurnUptoRow.holds Try.pinned (OpenSpec.upto runesTurnSpec)

end Rows
end Go.Proofs.Ytkbibkadofeamaa
