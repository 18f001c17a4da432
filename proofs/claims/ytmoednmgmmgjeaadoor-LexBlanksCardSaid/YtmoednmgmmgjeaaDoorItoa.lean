/- What strconv.Itoa answers, at every int. Its condition: the library's table of powers of ten reads as it is laid. -/
import Derived.Test.YtmoednmgmmgjeaaDoorKit
import Derived.Test.YtmoednmgmmgjeaaDoorShelf
import Derived.WalkSmall
namespace Go.Proofs.YtmoednmgmmgjeaaDoor.Kit
open Go.RowKit

/-- the table of powers of ten reads as it is laid -/
def Pows (w : World) : Prop := Lib.TabIs Tryd.prog w "internal/strconv.uint64pow10" .u64 Lib.pow10Tab
theorem Pows.grown {w w' : World} (h : Pows w) (hb : Below w.heap.size w w') : Pows w' := by
  have hg : Tryd.prog.globalNamed "internal/strconv.uint64pow10" = some 1 := by kernel_rfl
  have hc := Lib.TabIs.cell h hg 0 (by rw [Lib.pow10Tab_length]; omega)
  exact var?_below hb hg (block_lt_of_cell hc) h
theorem itoa_all (n : Int) (h0 : -9223372036854775808 ≤ n) (h1 : n ≤ 9223372036854775807) (w : World) (hP : Pows w) :
    Calls Tryd.prog 85 #[.int .i64 n] w fun e w' => e = .returned (.string ⟨(Lib.itoa n).toArray⟩) ∧ Below w.heap.size w w' :=
  (Tryd.strconv_Itoa n h0 h1 w hP).mono fun e w' ⟨he, k, os, hw⟩ => ⟨he, by subst hw; exact below_regrown w (w.drawn + k) os⟩
theorem itoa_nat (n : Nat) (h1 : n ≤ 9223372036854775807) (w : World) (hP : Pows w) :
    Calls Tryd.prog 85 #[.int .i64 n] w fun e w' => e = .returned (.string ⟨(Lib.decDigits n).toArray⟩) ∧ Below w.heap.size w w' := by
  have h := itoa_all (n : Int) (by omega) (by omega) w hP
  rwa [Lib.itoa_nonneg] at h
end Go.Proofs.YtmoednmgmmgjeaaDoor.Kit
