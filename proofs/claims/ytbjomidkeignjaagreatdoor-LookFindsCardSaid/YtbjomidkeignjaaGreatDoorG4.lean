/- What strconv.Atoi answers, at every text of at most 2^48 bytes: the number, or an error that is not nil. Its condition: the library's two sentinels hold values of an interface.
   What strconv.Itoa answers, at every int. Its condition: the library's table of powers of ten reads as it is laid. -/
import Derived.WalkKit
import Derived.Lib.AtoiErrMem
import Derived.WalkSmall
import Derived.Test.YtbjomidkeignjaaGreatDoorShelf
import Derived.Test.YtbjomidkeignjaaGreatDoorKit
namespace Go.Proofs.YtbjomidkeignjaaGreatDoor.Cats
open Go.RowKit

/-- what lies in the two sentinels -/
def Errs (w : World) : Prop := (∃ ev, w.cell? ⟨6, 0, none⟩ = some ev ∧ (ev = .nilIface ∨ ∃ te pe, ev = .iface te pe)) ∧ (∃ ev, w.cell? ⟨7, 0, none⟩ = some ev ∧ (ev = .nilIface ∨ ∃ te pe, ev = .iface te pe))
theorem Errs.grown {w w' : World} (h : Errs w) (hb : Below w.heap.size w w') : Errs w' := by
  obtain ⟨⟨e1, h1, k1⟩, ⟨e2, h2, k2⟩⟩ := h
  exact ⟨⟨e1, (hb.cell (block_lt_of_cell h1)).trans h1, k1⟩, ⟨e2, (hb.cell (block_lt_of_cell h2)).trans h2, k2⟩⟩
/-- the number of a text; none: there is an error -/
def atoiO (l : List UInt8) : Option Int := match Lib.atoiAll l with | .ok v => some v | _ => none
def AtoiEnd (l : List UInt8) (w : World) (e : Ending) (w' : World) : Prop :=
  ((∃ v, atoiO l = some v ∧ e = .returned (.tuple #[.int .i64 v, .nilIface])) ∨ (atoiO l = none ∧ ∃ x t p, e = .returned (.tuple #[.int .i64 x, .iface t (.pointer (some p))]))) ∧ Below w.heap.size w w'
end Go.Proofs.YtbjomidkeignjaaGreatDoor.Cats
namespace Go.Proofs.YtbjomidkeignjaaGreatDoor.Kit
open Go.RowKit

/-- the table of powers of ten reads as it is laid -/
def Pows (w : World) : Prop := Lib.TabIs Tryz.prog w "internal/strconv.uint64pow10" .u64 Lib.pow10Tab
theorem Pows.grown {w w' : World} (h : Pows w) (hb : Below w.heap.size w w') : Pows w' := by
  have hg : Tryz.prog.globalNamed "internal/strconv.uint64pow10" = some 8 := by kernel_rfl
  have hc := Lib.TabIs.cell h hg 0 (by rw [Lib.pow10Tab_length]; omega)
  exact var?_below hb hg (block_lt_of_cell hc) h
theorem itoa_all (n : Int) (h0 : -9223372036854775808 ≤ n) (h1 : n ≤ 9223372036854775807) (w : World) (hP : Pows w) :
    Calls Tryz.prog 163 #[.int .i64 n] w fun e w' => e = .returned (.string ⟨(Lib.itoa n).toArray⟩) ∧ Below w.heap.size w w' :=
  (Tryz.strconv_Itoa n h0 h1 w hP).mono fun e w' ⟨he, k, os, hw⟩ => ⟨he, by subst hw; exact below_regrown w (w.drawn + k) os⟩
theorem itoa_nat (n : Nat) (h1 : n ≤ 9223372036854775807) (w : World) (hP : Pows w) :
    Calls Tryz.prog 163 #[.int .i64 n] w fun e w' => e = .returned (.string ⟨(Lib.decDigits n).toArray⟩) ∧ Below w.heap.size w w' := by
  have h := itoa_all (n : Int) (by omega) (by omega) w hP
  rwa [Lib.itoa_nonneg] at h
end Go.Proofs.YtbjomidkeignjaaGreatDoor.Kit
