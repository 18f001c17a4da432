/- What the reference's Quote answers: for every text of at most 100000 bytes. -/
import Derived.Test.YtmoednmgmmgjeaaDoorValMath
import Derived.Test.YtmoednmgmmgjeaaDoorDigTell
import Derived.Test.YtmoednmgmmgjeaaDoorBytes
namespace Go.Proofs.YtmoednmgmmgjeaaDoor.Val
open Go.RowKit Kit Dec Dig

theorem quote_mark : ∀ l : List UInt8, quoteL (l ++ [34]) = quoteL l ++ [34] ++ [34]
  | [] => rfl
  | b :: l => by
    have ih := quote_mark l
    by_cases h : b = 34
    · subst h; rw [List.cons_append, quoteL_mark, quoteL_mark, ih]; rfl
    · rw [List.cons_append, quoteL_skip h, quoteL_skip h, ih]; rfl
theorem quote_snoc {x : UInt8} (hx : x ≠ 34) : ∀ l : List UInt8, quoteL (l ++ [x]) = quoteL l ++ [x]
  | [] => by rw [List.nil_append, quoteL_skip hx]; rfl
  | b :: l => by
    have ih := quote_snoc hx l
    by_cases h : b = 34
    · subst h; rw [List.cons_append, quoteL_mark, quoteL_mark, ih]; rfl
    · rw [List.cons_append, quoteL_skip h, quoteL_skip h, ih]; rfl
theorem take_one {t : ByteArray} {k : Nat} (hk : k < t.size) : t.data.toList.take (k + 1) = t.data.toList.take k ++ [t[k]] := by
  rw [List.take_add_one, Lib.data_getElem? t k hk]
  rfl
theorem one_cell (x : Value) (h : x.oneCell' = true) : ∀ u ∈ [x], u.oneCell' = true := fun u hu => by
  simp only [List.mem_singleton] at hu
  subst hu
  exact h
end Go.Proofs.YtmoednmgmmgjeaaDoor.Val
