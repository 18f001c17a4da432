/- CallOperates, of the program's own contracts. -/
import Derived.Test.YtebjedbppiphgaaGreatDoorKop49
import Derived.Test.YtebjedbppiphgaaGreatDoorKop48
namespace Go.Proofs.YtebjedbppiphgaaGreatDoor.Cal
open Go.RowKit Kit Reg Dec Dig Val Fld
open Crt (CLibs)
theorem operates_c (op ak an : Int) (at_ : ByteArray) (bk bn : Int) (bt : ByteArray) (fa1 : -9223372036854775808 ≤ an) (fa2 : an ≤ 9223372036854775807) (fb1 : -9223372036854775808 ≤ bn) (fb2 : bn ≤ 9223372036854775807) (w : World) (hL : CLibs w) :
    Calls Tryz.prog 3 #[.int .i64 op, .agg #[.int .i64 ak, .int .i64 an, .string at_], .agg #[.int .i64 bk, .int .i64 bn, .string bt]] w fun e w' => e = .returned (.bool true) ∧ Below w.heap.size w w' :=
  operates_law op ⟨ak, an, at_⟩ ⟨bk, bn, bt⟩ ⟨fa1, fa2⟩ ⟨fb1, fb2⟩ w (fun oa ob w1 h => bin_c op _ _ oa ob w1 h.1) (fun oa w1 h => minus_c _ oa w1 h.1) (fun w1 h => alive_c w1 h) hL
end Go.Proofs.YtebjedbppiphgaaGreatDoor.Cal
