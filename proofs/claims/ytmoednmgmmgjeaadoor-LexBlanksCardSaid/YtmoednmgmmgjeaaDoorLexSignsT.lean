/- A table of texts as a row lists it: what its cells are; and the table of signs. -/
import Derived.Test.YtmoednmgmmgjeaaDoorLexGo
import Derived.Lib.LaidTab
import Derived.ChangeSame
namespace Go.Proofs.YtmoednmgmmgjeaaDoor.Lex
open Go.RowKit Kit Reg Dec Dig Go.ChangeShapes Go.WideShapes Go.WideElems Go.Maps

/-- a text as a datum -/
def textData {H : Type} (z : List UInt8) : DataW H := .lit (.string z)
/-- a table that reads as these texts holds them, cell for cell -/
theorem cells_of_texts {H : Type} {enc : TypeId × Value → H} {P : Program} {w : World} {base : Nat} {sp : Nat → Bool} {held : Bool} {fuel : Nat} {t e : TypeId} {n : Nat} {cs : List Value} {zs : List (List UInt8)} {p : List MemPlace}
    (ht : P.underlying t = some (.array n e)) (hce : P.cellsOf e = 1) (hct : P.cellsOf t = n) (he : P.underlying e = some .string) (h : DataW.trod enc P w base sp held fuel t cs = some (.agg (zs.map textData), p)) :
    ∀ (i : Nat) (z : List UInt8), zs[i]? = some z → cs[i]? = some (Value.string ⟨z.toArray⟩) := by
  cases fuel with
  | zero => simp [DataW.trod] at h
  | succ fuel =>
    simp only [DataW.trod, ht, hce, hct] at h
    split at h
    · rename_i hl
      obtain ⟨xs, hm, hx⟩ := Option.map_eq_some_iff.1 h
      have hxs : xs.map (·.1) = zs.map (textData (H := H)) := by
        have := congrArg Prod.fst hx
        simpa using this
      have hxl : xs.length = n := by simpa using Lib.mapM_length hm
      have hzl : zs.length = n := by
        have := congrArg List.length hxs
        simp at this
        omega
      intro i z hz
      have hi : i < n := by rw [← hzl]; exact (List.getElem?_eq_some_iff.1 hz).1
      obtain ⟨b, hb, hf⟩ := Lib.mapM_at hm i i (by simp [hi])
      have h2 : (xs.map (·.1))[i]? = some (textData z : DataW H) := by rw [hxs]; simp [hz]
      have hb1 : b.1 = textData z := by simpa [hb] using h2
      obtain ⟨s, c0, rfl, _⟩ := DataW.trod_string he hf
      simp only [textData, DataW.lit.injEq, Lit.string.injEq] at hb1
      have q0 := congrArg (·[0]?) c0
      simp [List.getElem?_drop] at q0
      rw [q0]
      congr 2
      exact bytes_eq (by rw [hb1])
    · cases h
theorem signs_of_head {W : World} {rest : List (String × DataW Unit)} (h : laidMet Tryd.prog (("oculus/lex.signs", .agg (signsP.map textData)) :: rest) W) : Signs W := by
  obtain ⟨ps, ⟨g', t', cs, fuel, p, q, hg', ht', hvar, hd, _, _⟩, _⟩ := h
  obtain rfl := Option.some.inj ((show Tryd.prog.globalNamed "oculus/lex.signs" = some 0 by kernel_rfl).symm.trans hg')
  obtain rfl := Option.some.inj ((show (Tryd.prog.globals[0]?).map (·.type) = some 52 by kernel_rfl).symm.trans ht')
  have H := cells_of_texts Tryd.underlying52 (by kernel_rfl) (by kernel_rfl) Tryd.underlying9 hd
  intro i x hx
  have hc := World.var?_cell (g := 0) (by kernel_rfl) hvar i
  rw [hc, ← Array.getElem?_toList]
  unfold signCells at hx
  rw [List.getElem?_map] at hx
  obtain ⟨z, hz, rfl⟩ := Option.map_eq_some_iff.1 hx
  exact H i z hz
end Go.Proofs.YtmoednmgmmgjeaaDoor.Lex
