/-
  No cell of these rows narrows 'for every input' (looked for: loops, veiled, ifaces, maps, wideKeys, modest, calm, conditions, laid).
  DERIVED. THE GIVEN ROWS OF THIS SEAT. 4 by the template 'for every input the law returns true; each argument reads behind the call as it read before'; 0 by the template 'total and deterministic' (their statements: YtplaacmieonimaaTotals.lean).
  GIVEN WITH THE SEED: the statements are not yours to turn. If you find one false, say at which input.
  Laid BY PROGRAM, IN A SANDBOX (cutbox-rows.mjs): the forced cells as the released guide's own fill.sh prints them over the translation f1d36940952227c5… (all of the seat's roots in one cut). By AI agents, Wed Nov 11 2026. No macro, syntax, notation, axiom, sorry.
-/
import Derived.Test.YtplaacmieonimaaChecked
import GoSem.Claim
import GoSem.ClaimJoined
import GoSem.ClaimMapViews
import Derived.JoinedTies
import Derived.KernelRfl
namespace Go.Proofs.Ytplaacmieonimaa
/- THE CELL 'sum', in the pinned program and in every row, IS THE sha256 OF THE DUMP (.gsa) THAT YtplaacmieonimaaProg.lean LOADS. Nothing in Lean hashes anything: it is a label: what it is worth is what the hold of that sum in a sandbox is worth. -/
noncomputable def Try.pinned : Pinned := { name := "ytplaacmieonimaa", sum := "f1d36940952227c5fa6584f3d8afffd75d2150a316ef0c3cdb33044d14d5743c", checked := Try.checked }
namespace Rows
def none {H : Type} : Left H := { results := [], args := [] }

/-- 'oculuslaw08.DecAdds': WHATEVER THE INPUT: true; the input reads as it did. -/
def decAddsSpec : ChangeSpec := { name := "decAdds", fn := fun _ => fun
  | [d1, d2] => { results := [.lit (.bool true)], args := [d1, d2] }
  | _ => none }
def decAddsRow : OpenClaim := { program := "ytplaacmieonimaa", sum := "f1d36940952227c5fa6584f3d8afffd75d2150a316ef0c3cdb33044d14d5743c", func := "oculus/oculuslaw08.DecAdds", spec := "decAdds", named := ["math/bits.divideError", "math/bits.overflowError"], apart := false }
def DecAddsSaid : Prop := decAddsRow.holds Try.pinned (OpenSpec.ofChange decAddsSpec)

/-- ITS FALSE NEIGHBOUR: 'it returns false'. Refute it at one input. -/
def decAddsWrong : ChangeSpec := { name := "decAdds", fn := fun _ => fun
  | [d1, d2] => { results := [.lit (.bool false)], args := [d1, d2] }
  | _ => none }
def DecAddsWrongFalsely : Prop := decAddsRow.holds Try.pinned (OpenSpec.ofChange decAddsWrong)

/-- 'oculuslaw08.DecScales': WHATEVER THE INPUT: true; the input reads as it did. -/
def decScalesSpec : ChangeSpec := { name := "decScales", fn := fun _ => fun
  | [d1, d2, d3] => { results := [.lit (.bool true)], args := [d1, d2, d3] }
  | _ => none }
def decScalesRow : OpenClaim := { program := "ytplaacmieonimaa", sum := "f1d36940952227c5fa6584f3d8afffd75d2150a316ef0c3cdb33044d14d5743c", func := "oculus/oculuslaw08.DecScales", spec := "decScales", named := ["math/bits.divideError", "math/bits.overflowError"], apart := false }
def DecScalesSaid : Prop := decScalesRow.holds Try.pinned (OpenSpec.ofChange decScalesSpec)

/-- ITS FALSE NEIGHBOUR: 'it returns false'. Refute it at one input. -/
def decScalesWrong : ChangeSpec := { name := "decScales", fn := fun _ => fun
  | [d1, d2, d3] => { results := [.lit (.bool false)], args := [d1, d2, d3] }
  | _ => none }
def DecScalesWrongFalsely : Prop := decScalesRow.holds Try.pinned (OpenSpec.ofChange decScalesWrong)

/-- 'oculuslaw08.DecNear': WHATEVER THE INPUT: true; the input reads as it did. -/
def decNearSpec : ChangeSpec := { name := "decNear", fn := fun _ => fun
  | [d1, d2] => { results := [.lit (.bool true)], args := [d1, d2] }
  | _ => none }
def decNearRow : OpenClaim := { program := "ytplaacmieonimaa", sum := "f1d36940952227c5fa6584f3d8afffd75d2150a316ef0c3cdb33044d14d5743c", func := "oculus/oculuslaw08.DecNear", spec := "decNear", named := ["math/bits.divideError", "math/bits.overflowError"], apart := false }
def DecNearSaid : Prop := decNearRow.holds Try.pinned (OpenSpec.ofChange decNearSpec)

/-- ITS FALSE NEIGHBOUR: 'it returns false'. Refute it at one input. -/
def decNearWrong : ChangeSpec := { name := "decNear", fn := fun _ => fun
  | [d1, d2] => { results := [.lit (.bool false)], args := [d1, d2] }
  | _ => none }
def DecNearWrongFalsely : Prop := decNearRow.holds Try.pinned (OpenSpec.ofChange decNearWrong)

/-- 'oculuslaw08.DecUnits': WHATEVER THE INPUT: true; the input reads as it did. -/
def decUnitsSpec : ChangeSpec := { name := "decUnits", fn := fun _ => fun
  | [d] => { results := [.lit (.bool true)], args := [d] }
  | _ => none }
def decUnitsRow : OpenClaim := { program := "ytplaacmieonimaa", sum := "f1d36940952227c5fa6584f3d8afffd75d2150a316ef0c3cdb33044d14d5743c", func := "oculus/oculuslaw08.DecUnits", spec := "decUnits", named := ["math/bits.divideError", "math/bits.overflowError"], apart := false }
def DecUnitsSaid : Prop := decUnitsRow.holds Try.pinned (OpenSpec.ofChange decUnitsSpec)

/-- ITS FALSE NEIGHBOUR: 'it returns false'. Refute it at one input. -/
def decUnitsWrong : ChangeSpec := { name := "decUnits", fn := fun _ => fun
  | [d] => { results := [.lit (.bool false)], args := [d] }
  | _ => none }
def DecUnitsWrongFalsely : Prop := decUnitsRow.holds Try.pinned (OpenSpec.ofChange decUnitsWrong)

/- THE SECOND FORM. 'bulk': how many values and letters a reading holds, each counted each time it is reached (what is shared counts as often as it is met; a slice's spare places count too). A statement '..UptoSaid' is the law's where the arguments, and the package variables that the reading takes, are together of bulk at most 1048576: NARROWER than '..Said'. Prove '..Said' where nothing that the law and all that it calls make is longer than what came in: it says more and counts as full. Else prove '..UptoSaid'. A law counts once. -/
mutual
def uptoBulk {H : Type} : DataW H → Nat
  | .lit (.string bytes) => bytes.length + 1
  | .lit _ => 1
  | .nil => 1
  | .ptr d => uptoBulk d + 1
  | .slice elems spare => uptoBulkAll elems + uptoBulkAll spare + 1
  | .agg parts => uptoBulkAll parts + 1
  | .iface _ d => uptoBulk d + 1
  | .map entries => uptoBulkEntries entries + 1
  | .held _ => 1
def uptoBulkAll {H : Type} : List (DataW H) → Nat
  | [] => 0
  | d :: r => uptoBulk d + uptoBulkAll r
def uptoBulkEntries {H : Type} : List (Lit × DataW H) → Nat
  | [] => 0
  | x :: r => uptoBulkEntry x + uptoBulkEntries r
def uptoBulkEntry {H : Type} : Lit × DataW H → Nat
  | (.string bytes, d) => bytes.length + uptoBulk d + 1
  | (_, d) => uptoBulk d + 1
 end
def uptoSmall : (H : Type) → List (DataW H) → Bool := fun _ ds => decide (uptoBulkAll ds ≤ 1048576)
def OpenSpec.upto (s : _root_.Go.ChangeSpec) : _root_.Go.OpenSpec := { _root_.Go.OpenSpec.ofChange s with cond := some uptoSmall }

/-- 'oculuslaw08.DecAdds', WHERE WHAT IT READS IS OF BULK AT MOST 1048576: true; the input reads as it did. -/
def decAddsUptoRow : OpenClaim := { program := "ytplaacmieonimaa", sum := "f1d36940952227c5fa6584f3d8afffd75d2150a316ef0c3cdb33044d14d5743c", func := "oculus/oculuslaw08.DecAdds", spec := "decAdds", named := ["math/bits.divideError", "math/bits.overflowError"], apart := false, narrowed := true }
def DecAddsUptoSaid : Prop := decAddsUptoRow.holds Try.pinned (OpenSpec.upto decAddsSpec)

/-- 'oculuslaw08.DecScales', WHERE WHAT IT READS IS OF BULK AT MOST 1048576: true; the input reads as it did. -/
def decScalesUptoRow : OpenClaim := { program := "ytplaacmieonimaa", sum := "f1d36940952227c5fa6584f3d8afffd75d2150a316ef0c3cdb33044d14d5743c", func := "oculus/oculuslaw08.DecScales", spec := "decScales", named := ["math/bits.divideError", "math/bits.overflowError"], apart := false, narrowed := true }
def DecScalesUptoSaid : Prop := decScalesUptoRow.holds Try.pinned (OpenSpec.upto decScalesSpec)

/-- 'oculuslaw08.DecNear', WHERE WHAT IT READS IS OF BULK AT MOST 1048576: true; the input reads as it did. -/
def decNearUptoRow : OpenClaim := { program := "ytplaacmieonimaa", sum := "f1d36940952227c5fa6584f3d8afffd75d2150a316ef0c3cdb33044d14d5743c", func := "oculus/oculuslaw08.DecNear", spec := "decNear", named := ["math/bits.divideError", "math/bits.overflowError"], apart := false, narrowed := true }
def DecNearUptoSaid : Prop := decNearUptoRow.holds Try.pinned (OpenSpec.upto decNearSpec)

/-- 'oculuslaw08.DecUnits', WHERE WHAT IT READS IS OF BULK AT MOST 1048576: true; the input reads as it did. -/
def decUnitsUptoRow : OpenClaim := { program := "ytplaacmieonimaa", sum := "f1d36940952227c5fa6584f3d8afffd75d2150a316ef0c3cdb33044d14d5743c", func := "oculus/oculuslaw08.DecUnits", spec := "decUnits", named := ["math/bits.divideError", "math/bits.overflowError"], apart := false, narrowed := true }
def DecUnitsUptoSaid : Prop := decUnitsUptoRow.holds Try.pinned (OpenSpec.upto decUnitsSpec)

end Rows
end Go.Proofs.Ytplaacmieonimaa
