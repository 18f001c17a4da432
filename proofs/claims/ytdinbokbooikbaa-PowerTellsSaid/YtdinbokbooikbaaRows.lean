/-
  No cell of these rows narrows 'for every input' (looked for: loops, veiled, ifaces, maps, wideKeys, modest, calm, conditions, laid).
  DERIVED. THE GIVEN ROWS OF THIS SEAT. 4 by the template 'for every input the law returns true; each argument reads behind the call as it read before'; 0 by the template 'total and deterministic' (their statements: YtdinbokbooikbaaTotals.lean).
  GIVEN WITH THE SEED: the statements are not yours to turn. If you find one false, say at which input.
  Laid BY PROGRAM, IN A SANDBOX (cutbox-rows.mjs): the forced cells as the released guide's own fill.sh prints them over the translation 17c146b3b9686917… (all of the seat's roots in one cut). By AI agents, Wed Nov 11 2026. No macro, syntax, notation, axiom, sorry.
-/
import Derived.Test.YtdinbokbooikbaaChecked
import GoSem.Claim
import GoSem.ClaimJoined
import GoSem.ClaimMapViews
import Derived.JoinedTies
import Derived.KernelRfl
namespace Go.Proofs.Ytdinbokbooikbaa
/- THE CELL 'sum', in the pinned program and in every row, IS THE sha256 OF THE DUMP (.gsa) THAT YtdinbokbooikbaaProg.lean LOADS. Nothing in Lean hashes anything: it is a label: what it is worth is what the hold of that sum in a sandbox is worth. -/
noncomputable def Try.pinned : Pinned := { name := "ytdinbokbooikbaa", sum := "17c146b3b9686917157773c697edaffd9ea0ffa6ec4ac25ed8668cc50f9f92f4", checked := Try.checked }
namespace Rows
def none {H : Type} : Left H := { results := [], args := [] }

/-- 'oculuslaw10.PowerTells': WHATEVER THE INPUT: true; the input reads as it did. -/
def powerTellsSpec : ChangeSpec := { name := "powerTells", fn := fun _ => fun
  | [d1, d2] => { results := [.lit (.bool true)], args := [d1, d2] }
  | _ => none }
def powerTellsRow : OpenClaim := { program := "ytdinbokbooikbaa", sum := "17c146b3b9686917157773c697edaffd9ea0ffa6ec4ac25ed8668cc50f9f92f4", func := "oculus/oculuslaw10.PowerTells", spec := "powerTells", named := ["math/bits.divideError", "math/bits.overflowError"], apart := false }
def PowerTellsSaid : Prop := powerTellsRow.holds Try.pinned (OpenSpec.ofChange powerTellsSpec)

/-- ITS FALSE NEIGHBOUR: 'it returns false'. Refute it at one input. -/
def powerTellsWrong : ChangeSpec := { name := "powerTells", fn := fun _ => fun
  | [d1, d2] => { results := [.lit (.bool false)], args := [d1, d2] }
  | _ => none }
def PowerTellsWrongFalsely : Prop := powerTellsRow.holds Try.pinned (OpenSpec.ofChange powerTellsWrong)

/-- 'oculuslaw10.PowerRoots': WHATEVER THE INPUT: true; the input reads as it did. -/
def powerRootsSpec : ChangeSpec := { name := "powerRoots", fn := fun _ => fun
  | [d] => { results := [.lit (.bool true)], args := [d] }
  | _ => none }
def powerRootsRow : OpenClaim := { program := "ytdinbokbooikbaa", sum := "17c146b3b9686917157773c697edaffd9ea0ffa6ec4ac25ed8668cc50f9f92f4", func := "oculus/oculuslaw10.PowerRoots", spec := "powerRoots", named := ["math/bits.divideError", "math/bits.overflowError"], apart := false }
def PowerRootsSaid : Prop := powerRootsRow.holds Try.pinned (OpenSpec.ofChange powerRootsSpec)

/-- ITS FALSE NEIGHBOUR: 'it returns false'. Refute it at one input. -/
def powerRootsWrong : ChangeSpec := { name := "powerRoots", fn := fun _ => fun
  | [d] => { results := [.lit (.bool false)], args := [d] }
  | _ => none }
def PowerRootsWrongFalsely : Prop := powerRootsRow.holds Try.pinned (OpenSpec.ofChange powerRootsWrong)

/-- 'oculuslaw10.PowerDivides': WHATEVER THE INPUT: true; the input reads as it did. -/
def powerDividesSpec : ChangeSpec := { name := "powerDivides", fn := fun _ => fun
  | [d1, d2] => { results := [.lit (.bool true)], args := [d1, d2] }
  | _ => none }
def powerDividesRow : OpenClaim := { program := "ytdinbokbooikbaa", sum := "17c146b3b9686917157773c697edaffd9ea0ffa6ec4ac25ed8668cc50f9f92f4", func := "oculus/oculuslaw10.PowerDivides", spec := "powerDivides", named := ["math/bits.divideError", "math/bits.overflowError"], apart := false }
def PowerDividesSaid : Prop := powerDividesRow.holds Try.pinned (OpenSpec.ofChange powerDividesSpec)

/-- ITS FALSE NEIGHBOUR: 'it returns false'. Refute it at one input. -/
def powerDividesWrong : ChangeSpec := { name := "powerDivides", fn := fun _ => fun
  | [d1, d2] => { results := [.lit (.bool false)], args := [d1, d2] }
  | _ => none }
def PowerDividesWrongFalsely : Prop := powerDividesRow.holds Try.pinned (OpenSpec.ofChange powerDividesWrong)

/-- 'oculuslaw10.PowerChooses': WHATEVER THE INPUT: true; the input reads as it did. -/
def powerChoosesSpec : ChangeSpec := { name := "powerChooses", fn := fun _ => fun
  | [d1, d2] => { results := [.lit (.bool true)], args := [d1, d2] }
  | _ => none }
def powerChoosesRow : OpenClaim := { program := "ytdinbokbooikbaa", sum := "17c146b3b9686917157773c697edaffd9ea0ffa6ec4ac25ed8668cc50f9f92f4", func := "oculus/oculuslaw10.PowerChooses", spec := "powerChooses", named := ["math/bits.divideError", "math/bits.overflowError"], apart := false }
def PowerChoosesSaid : Prop := powerChoosesRow.holds Try.pinned (OpenSpec.ofChange powerChoosesSpec)

/-- ITS FALSE NEIGHBOUR: 'it returns false'. Refute it at one input. -/
def powerChoosesWrong : ChangeSpec := { name := "powerChooses", fn := fun _ => fun
  | [d1, d2] => { results := [.lit (.bool false)], args := [d1, d2] }
  | _ => none }
def PowerChoosesWrongFalsely : Prop := powerChoosesRow.holds Try.pinned (OpenSpec.ofChange powerChoosesWrong)

/- THE SECOND FORM. 'bulk': how many values and letters a reading holds, each counted each time it is reached (what is shared counts as often as it is met; a slice's spare places count too). A statement '..UptoSaid' is the law's where the arguments, and the package variables that the reading takes, are together of bulk at most 1048576: NARROWER than '..Said'. Prove '..Said' where nothing that the law and all that it calls make is longer than what came in: it says more and counts as full. Else prove '..UptoSaid'. A law counts once. -/
mutual
def uptoBulk {H : Type} : DataW H → Nat
  | .lit (.string bytes) => bytes.length + 1
  | .lit _ => 1
  | .nil => 1
  | .ptr d => uptoBulk d + 1
  | .slice elems spare => uptoBulkAll elems + uptoBulkAll spare + 1
  | .agg parts => uptoBulkAll parts + 1
  | .iface _ d => uptoBulk d + 1
  | .map entries => uptoBulkEntries entries + 1
  | .held _ => 1
def uptoBulkAll {H : Type} : List (DataW H) → Nat
  | [] => 0
  | d :: r => uptoBulk d + uptoBulkAll r
def uptoBulkEntries {H : Type} : List (Lit × DataW H) → Nat
  | [] => 0
  | x :: r => uptoBulkEntry x + uptoBulkEntries r
def uptoBulkEntry {H : Type} : Lit × DataW H → Nat
  | (.string bytes, d) => bytes.length + uptoBulk d + 1
  | (_, d) => uptoBulk d + 1
 end
def uptoSmall : (H : Type) → List (DataW H) → Bool := fun _ ds => decide (uptoBulkAll ds ≤ 1048576)
def OpenSpec.upto (s : _root_.Go.ChangeSpec) : _root_.Go.OpenSpec := { _root_.Go.OpenSpec.ofChange s with cond := some uptoSmall }

/-- 'oculuslaw10.PowerTells', WHERE WHAT IT READS IS OF BULK AT MOST 1048576: true; the input reads as it did. -/
def powerTellsUptoRow : OpenClaim := { program := "ytdinbokbooikbaa", sum := "17c146b3b9686917157773c697edaffd9ea0ffa6ec4ac25ed8668cc50f9f92f4", func := "oculus/oculuslaw10.PowerTells", spec := "powerTells", named := ["math/bits.divideError", "math/bits.overflowError"], apart := false, narrowed := true }
def PowerTellsUptoSaid : Prop := powerTellsUptoRow.holds Try.pinned (OpenSpec.upto powerTellsSpec)

/-- 'oculuslaw10.PowerRoots', WHERE WHAT IT READS IS OF BULK AT MOST 1048576: true; the input reads as it did. -/
def powerRootsUptoRow : OpenClaim := { program := "ytdinbokbooikbaa", sum := "17c146b3b9686917157773c697edaffd9ea0ffa6ec4ac25ed8668cc50f9f92f4", func := "oculus/oculuslaw10.PowerRoots", spec := "powerRoots", named := ["math/bits.divideError", "math/bits.overflowError"], apart := false, narrowed := true }
def PowerRootsUptoSaid : Prop := powerRootsUptoRow.holds Try.pinned (OpenSpec.upto powerRootsSpec)

/-- 'oculuslaw10.PowerDivides', WHERE WHAT IT READS IS OF BULK AT MOST 1048576: true; the input reads as it did. -/
def powerDividesUptoRow : OpenClaim := { program := "ytdinbokbooikbaa", sum := "17c146b3b9686917157773c697edaffd9ea0ffa6ec4ac25ed8668cc50f9f92f4", func := "oculus/oculuslaw10.PowerDivides", spec := "powerDivides", named := ["math/bits.divideError", "math/bits.overflowError"], apart := false, narrowed := true }
def PowerDividesUptoSaid : Prop := powerDividesUptoRow.holds Try.pinned (OpenSpec.upto powerDividesSpec)

/-- 'oculuslaw10.PowerChooses', WHERE WHAT IT READS IS OF BULK AT MOST 1048576: true; the input reads as it did. -/
def powerChoosesUptoRow : OpenClaim := { program := "ytdinbokbooikbaa", sum := "17c146b3b9686917157773c697edaffd9ea0ffa6ec4ac25ed8668cc50f9f92f4", func := "oculus/oculuslaw10.PowerChooses", spec := "powerChooses", named := ["math/bits.divideError", "math/bits.overflowError"], apart := false, narrowed := true }
def PowerChoosesUptoSaid : Prop := powerChoosesUptoRow.holds Try.pinned (OpenSpec.upto powerChoosesSpec)

end Rows
end Go.Proofs.Ytdinbokbooikbaa
