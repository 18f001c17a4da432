/- The library's sort, of a row of numbers of one's own. -/
import Derived.Test.YtngnjphhjmhomaaOrdRows
import Derived.Test.YtngnjphhjmhomaaShelf
import Derived.Sort.OwnSortedInts
namespace Go.Proofs.Ytngnjphhjmhomaa.Odr
open Go.RowKit Kit Reg Dec

theorem sort_own {B : Nat} (v : Value) (xs : List Int) (hn : xs.length ≤ 1000) (w : World) (h : OwnI B v xs w) :
    Calls Try.prog 21 #[v] w fun e w' => e = .returned (.tuple #[]) ∧ OwnI B v (srt xs) w' ∧ w.grownBy w' v.ownBlock := by
  have h0 := h
  rcases h.2 with ⟨rfl, h1⟩ | ⟨g, cap, cur, rfl, hb, hg, h1, h2, h3, h4⟩
  · have e := List.eq_nil_of_length_eq_zero h1
    subst e
    refine (Try.slices_Sort_int_none none 0 w).mono ?_
    rintro e w' ⟨rfl, rfl⟩
    exact ⟨rfl, by rw [srt_nil]; exact h0, rfl, rfl, rfl, Nat.le_refl _, fun _ _ _ => rfl⟩
  · refine (Try.slices_Sort_int g 0 cap xs w (Go.holds_of_blockI hg (by simpa using h4)) (Array.getElem?_eq_some_iff.1 hg).1 (by omega)).mono ?_
    rintro e w' ⟨rfl, n, os, rfl⟩
    refine ⟨rfl, ?_, Go.grownBy_sortedI _⟩
    have h5 := Go.ownsRow_sortedI (n := n) (os := os) (ts := srt xs) (srt_len xs) hb hg h1 h2 h3
    unfold OwnI
    rw [srt_len]
    exact h5
end Go.Proofs.Ytngnjphhjmhomaa.Odr
