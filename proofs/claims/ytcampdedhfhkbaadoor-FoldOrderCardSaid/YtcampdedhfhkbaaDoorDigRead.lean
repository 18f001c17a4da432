/- What the program's Read and Lead answer (over the landed text of package digits): for every text below 2^47 bytes. -/
import Derived.Lib.QuietBelow
import Derived.Test.YtcampdedhfhkbaaDoorDigGo
namespace Go.Proofs.YtcampdedhfhkbaaDoor.Dig
open Go.RowKit Kit Dec

/-- three results -/
def ThreeB (n : Int) (m : Nat) (b : Bool) (w : World) : Ending → World → Prop := fun e w' => e = .returned (.tuple #[.int .i64 n, .int .i64 m, .bool b]) ∧ Below w.heap.size w w'
end Go.Proofs.YtcampdedhfhkbaaDoor.Dig
