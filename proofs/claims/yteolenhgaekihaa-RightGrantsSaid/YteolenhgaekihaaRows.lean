/-
  No cell of these rows narrows 'for every input' (looked for: loops, veiled, ifaces, maps, wideKeys, modest, calm, conditions, laid).
  DERIVED. THE GIVEN ROWS OF THIS SEAT. 4 by the template 'for every input the law returns true; each argument reads behind the call as it read before'; 0 by the template 'total and deterministic' (their statements: YteolenhgaekihaaTotals.lean).
  GIVEN WITH THE SEED: the statements are not yours to turn. If you find one false, say at which input.
  Laid BY PROGRAM, IN A SANDBOX (cutbox-rows.mjs): the forced cells as the released guide's own fill.sh prints them over the translation ef9714b08154f8a6… (all of the seat's roots in one cut). By AI agents, Wed Nov 11 2026. No macro, syntax, notation, axiom, sorry.
-/
import Derived.Test.YteolenhgaekihaaChecked
import GoSem.Claim
import GoSem.ClaimJoined
import GoSem.ClaimMapViews
import Derived.JoinedTies
import Derived.KernelRfl
namespace Go.Proofs.Yteolenhgaekihaa
/- THE CELL 'sum', in the pinned program and in every row, IS THE sha256 OF THE DUMP (.gsa) THAT YteolenhgaekihaaProg.lean LOADS. Nothing in Lean hashes anything: it is a label: what it is worth is what the hold of that sum in a sandbox is worth. -/
noncomputable def Try.pinned : Pinned := { name := "yteolenhgaekihaa", sum := "ef9714b08154f8a6ba99129387cb9c4f11a55f517a210a5ca3c6e36a3322015e", checked := Try.checked }
namespace Rows
def none {H : Type} : Left H := { results := [], args := [] }

/-- 'oculuslaw06.RightActs': WHATEVER THE INPUT: true; the input reads as it did. -/
def rightActsSpec : ChangeSpec := { name := "rightActs", fn := fun _ => fun
  | [d1, d2, d3] => { results := [.lit (.bool true)], args := [d1, d2, d3] }
  | _ => none }
def rightActsRow : OpenClaim := { program := "yteolenhgaekihaa", sum := "ef9714b08154f8a6ba99129387cb9c4f11a55f517a210a5ca3c6e36a3322015e", func := "oculus/oculuslaw06.RightActs", spec := "rightActs", apart := false }
def RightActsSaid : Prop := rightActsRow.holds Try.pinned (OpenSpec.ofChange rightActsSpec)

/-- ITS FALSE NEIGHBOUR: 'it returns false'. Refute it at one input. -/
def rightActsWrong : ChangeSpec := { name := "rightActs", fn := fun _ => fun
  | [d1, d2, d3] => { results := [.lit (.bool false)], args := [d1, d2, d3] }
  | _ => none }
def RightActsWrongFalsely : Prop := rightActsRow.holds Try.pinned (OpenSpec.ofChange rightActsWrong)

/-- 'oculuslaw06.RightLowers': WHATEVER THE INPUT: true; the input reads as it did. -/
def rightLowersSpec : ChangeSpec := { name := "rightLowers", fn := fun _ => fun
  | [d1, d2, d3] => { results := [.lit (.bool true)], args := [d1, d2, d3] }
  | _ => none }
def rightLowersRow : OpenClaim := { program := "yteolenhgaekihaa", sum := "ef9714b08154f8a6ba99129387cb9c4f11a55f517a210a5ca3c6e36a3322015e", func := "oculus/oculuslaw06.RightLowers", spec := "rightLowers", apart := false }
def RightLowersSaid : Prop := rightLowersRow.holds Try.pinned (OpenSpec.ofChange rightLowersSpec)

/-- ITS FALSE NEIGHBOUR: 'it returns false'. Refute it at one input. -/
def rightLowersWrong : ChangeSpec := { name := "rightLowers", fn := fun _ => fun
  | [d1, d2, d3] => { results := [.lit (.bool false)], args := [d1, d2, d3] }
  | _ => none }
def RightLowersWrongFalsely : Prop := rightLowersRow.holds Try.pinned (OpenSpec.ofChange rightLowersWrong)

/-- 'oculuslaw06.RightBound': WHATEVER THE INPUT: true; the input reads as it did. -/
def rightBoundSpec : ChangeSpec := { name := "rightBound", fn := fun _ => fun
  | [d1, d2, d3] => { results := [.lit (.bool true)], args := [d1, d2, d3] }
  | _ => none }
def rightBoundRow : OpenClaim := { program := "yteolenhgaekihaa", sum := "ef9714b08154f8a6ba99129387cb9c4f11a55f517a210a5ca3c6e36a3322015e", func := "oculus/oculuslaw06.RightBound", spec := "rightBound", apart := false }
def RightBoundSaid : Prop := rightBoundRow.holds Try.pinned (OpenSpec.ofChange rightBoundSpec)

/-- ITS FALSE NEIGHBOUR: 'it returns false'. Refute it at one input. -/
def rightBoundWrong : ChangeSpec := { name := "rightBound", fn := fun _ => fun
  | [d1, d2, d3] => { results := [.lit (.bool false)], args := [d1, d2, d3] }
  | _ => none }
def RightBoundWrongFalsely : Prop := rightBoundRow.holds Try.pinned (OpenSpec.ofChange rightBoundWrong)

/-- 'oculuslaw06.RightGrants': WHATEVER THE INPUT: true; the input reads as it did. -/
def rightGrantsSpec : ChangeSpec := { name := "rightGrants", fn := fun _ => fun
  | [d1, d2] => { results := [.lit (.bool true)], args := [d1, d2] }
  | _ => none }
def rightGrantsRow : OpenClaim := { program := "yteolenhgaekihaa", sum := "ef9714b08154f8a6ba99129387cb9c4f11a55f517a210a5ca3c6e36a3322015e", func := "oculus/oculuslaw06.RightGrants", spec := "rightGrants", apart := false }
def RightGrantsSaid : Prop := rightGrantsRow.holds Try.pinned (OpenSpec.ofChange rightGrantsSpec)

/-- ITS FALSE NEIGHBOUR: 'it returns false'. Refute it at one input. -/
def rightGrantsWrong : ChangeSpec := { name := "rightGrants", fn := fun _ => fun
  | [d1, d2] => { results := [.lit (.bool false)], args := [d1, d2] }
  | _ => none }
def RightGrantsWrongFalsely : Prop := rightGrantsRow.holds Try.pinned (OpenSpec.ofChange rightGrantsWrong)

/- THE SECOND FORM. 'bulk': how many values and letters a reading holds, each counted each time it is reached (what is shared counts as often as it is met; a slice's spare places count too). A statement '..UptoSaid' is the law's where the arguments, and the package variables that the reading takes, are together of bulk at most 1048576: NARROWER than '..Said'. Prove '..Said' where nothing that the law and all that it calls make is longer than what came in: it says more and counts as full. Else prove '..UptoSaid'. A law counts once. -/
mutual
def uptoBulk {H : Type} : DataW H → Nat
  | .lit (.string bytes) => bytes.length + 1
  | .lit _ => 1
  | .nil => 1
  | .ptr d => uptoBulk d + 1
  | .slice elems spare => uptoBulkAll elems + uptoBulkAll spare + 1
  | .agg parts => uptoBulkAll parts + 1
  | .iface _ d => uptoBulk d + 1
  | .map entries => uptoBulkEntries entries + 1
  | .held _ => 1
def uptoBulkAll {H : Type} : List (DataW H) → Nat
  | [] => 0
  | d :: r => uptoBulk d + uptoBulkAll r
def uptoBulkEntries {H : Type} : List (Lit × DataW H) → Nat
  | [] => 0
  | x :: r => uptoBulkEntry x + uptoBulkEntries r
def uptoBulkEntry {H : Type} : Lit × DataW H → Nat
  | (.string bytes, d) => bytes.length + uptoBulk d + 1
  | (_, d) => uptoBulk d + 1
 end
def uptoSmall : (H : Type) → List (DataW H) → Bool := fun _ ds => decide (uptoBulkAll ds ≤ 1048576)
def OpenSpec.upto (s : _root_.Go.ChangeSpec) : _root_.Go.OpenSpec := { _root_.Go.OpenSpec.ofChange s with cond := some uptoSmall }

/-- 'oculuslaw06.RightActs', WHERE WHAT IT READS IS OF BULK AT MOST 1048576: true; the input reads as it did. -/
def rightActsUptoRow : OpenClaim := { program := "yteolenhgaekihaa", sum := "ef9714b08154f8a6ba99129387cb9c4f11a55f517a210a5ca3c6e36a3322015e", func := "oculus/oculuslaw06.RightActs", spec := "rightActs", apart := false, narrowed := true }
def RightActsUptoSaid : Prop := rightActsUptoRow.holds Try.pinned (OpenSpec.upto rightActsSpec)

/-- 'oculuslaw06.RightLowers', WHERE WHAT IT READS IS OF BULK AT MOST 1048576: true; the input reads as it did. -/
def rightLowersUptoRow : OpenClaim := { program := "yteolenhgaekihaa", sum := "ef9714b08154f8a6ba99129387cb9c4f11a55f517a210a5ca3c6e36a3322015e", func := "oculus/oculuslaw06.RightLowers", spec := "rightLowers", apart := false, narrowed := true }
def RightLowersUptoSaid : Prop := rightLowersUptoRow.holds Try.pinned (OpenSpec.upto rightLowersSpec)

/-- 'oculuslaw06.RightBound', WHERE WHAT IT READS IS OF BULK AT MOST 1048576: true; the input reads as it did. -/
def rightBoundUptoRow : OpenClaim := { program := "yteolenhgaekihaa", sum := "ef9714b08154f8a6ba99129387cb9c4f11a55f517a210a5ca3c6e36a3322015e", func := "oculus/oculuslaw06.RightBound", spec := "rightBound", apart := false, narrowed := true }
def RightBoundUptoSaid : Prop := rightBoundUptoRow.holds Try.pinned (OpenSpec.upto rightBoundSpec)

/-- 'oculuslaw06.RightGrants', WHERE WHAT IT READS IS OF BULK AT MOST 1048576: true; the input reads as it did. -/
def rightGrantsUptoRow : OpenClaim := { program := "yteolenhgaekihaa", sum := "ef9714b08154f8a6ba99129387cb9c4f11a55f517a210a5ca3c6e36a3322015e", func := "oculus/oculuslaw06.RightGrants", spec := "rightGrants", apart := false, narrowed := true }
def RightGrantsUptoSaid : Prop := rightGrantsUptoRow.holds Try.pinned (OpenSpec.upto rightGrantsSpec)

end Rows
end Go.Proofs.Yteolenhgaekihaa
