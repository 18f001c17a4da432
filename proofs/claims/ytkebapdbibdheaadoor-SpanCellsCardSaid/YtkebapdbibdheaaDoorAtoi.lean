/- What strconv.Atoi answers, at every text of at most 2^48 bytes: the number, or an error that is not nil. Its condition: the library's two sentinels hold values of an interface. -/
import Derived.Test.YtkebapdbibdheaaDoorShelf
import Derived.WalkKit
import Derived.Lib.AtoiErrMem
namespace Go.Proofs.YtkebapdbibdheaaDoor.Cats
open Go.RowKit

/-- what lies in the two sentinels -/
def Errs (w : World) : Prop := (∃ ev, w.cell? ⟨1, 0, none⟩ = some ev ∧ (ev = .nilIface ∨ ∃ te pe, ev = .iface te pe)) ∧ (∃ ev, w.cell? ⟨2, 0, none⟩ = some ev ∧ (ev = .nilIface ∨ ∃ te pe, ev = .iface te pe))
theorem Errs.grown {w w' : World} (h : Errs w) (hb : Below w.heap.size w w') : Errs w' := by
  obtain ⟨⟨e1, h1, k1⟩, ⟨e2, h2, k2⟩⟩ := h
  exact ⟨⟨e1, (hb.cell (block_lt_of_cell h1)).trans h1, k1⟩, ⟨e2, (hb.cell (block_lt_of_cell h2)).trans h2, k2⟩⟩
/-- the number of a text; none: there is an error -/
def atoiO (l : List UInt8) : Option Int := match Lib.atoiAll l with | .ok v => some v | _ => none
def AtoiEnd (l : List UInt8) (w : World) (e : Ending) (w' : World) : Prop :=
  ((∃ v, atoiO l = some v ∧ e = .returned (.tuple #[.int .i64 v, .nilIface])) ∨ (atoiO l = none ∧ ∃ x t p, e = .returned (.tuple #[.int .i64 x, .iface t (.pointer (some p))]))) ∧ Below w.heap.size w w'
theorem atoi_c (s : ByteArray) (hlim : s.size ≤ 281474976710656) (w : World) (hE : Errs w) : Calls Tryd.prog 60 #[.string s] w (AtoiEnd s.data.toList w) := by
  obtain ⟨⟨e1, h1, k1⟩, ⟨e2, h2, k2⟩⟩ := hE
  cases h : Lib.atoiAll s.data.toList with
  | ok v =>
    refine (Tryd.strconv_Atoi_ok s (by omega) v h w).mono fun e w' ⟨he, hw⟩ => ⟨.inl ⟨v, by simp [atoiO, h], he⟩, ?_⟩
    rcases hw with rfl | ⟨t, rfl⟩
    · exact Below.refl _ _
    · exact Lib.bytesWorld_below _ _ _
  | range =>
    exact (Tryd.strconv_Atoi_range s hlim h e2 w h2 k2).mono fun e w' ⟨N, he, _, _, hb⟩ => ⟨.inr ⟨by simp [atoiO, h], _, _, _, he⟩, hb⟩
  | _ =>
    exact (Tryd.strconv_Atoi_syntax s hlim h e1 w h1 k1).mono fun e w' ⟨N, he, _, _, hb⟩ => ⟨.inr ⟨by simp [atoiO, h], _, _, _, he⟩, hb⟩
end Go.Proofs.YtkebapdbibdheaaDoor.Cats
