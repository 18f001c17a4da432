/- A table of rows of a text and a number each, as a row lists it: what its cells are; and the table of operators. -/
import Derived.Lib.LaidTab
import Derived.ChangeSame
import Derived.Test.YtbjomidkeignjaaGreatDoorCrtOf
namespace Go.Proofs.YtbjomidkeignjaaGreatDoor.Crt
open Go.RowKit Kit Reg Dec Dig Val Go.ChangeShapes Go.WideShapes Go.WideElems Go.Maps

/-- a row of such a table, as a datum; as cells -/
def signData {H : Type} (x : List UInt8 × Int) : DataW H := .agg [.lit (.string x.1), .lit (.int .i64 x.2)]
/-- a table that reads as these rows holds them, cell for cell -/
theorem cells_of_rows {H : Type} {enc : TypeId × Value → H} {P : Program} {w : World} {base : Nat} {sp : Nat → Bool} {held : Bool} {fuel : Nat} {t e : TypeId} {n : Nat} {f0 f1 : Field} {cs : List Value} {zs : List (List UInt8 × Int)} {p : List MemPlace}
    (ht : P.underlying t = some (.array n e)) (hce : P.cellsOf e = 2) (hct : P.cellsOf t = n * 2) (he : P.underlying e = some (.struct #[f0, f1])) (ho : f0.offset = 0 ∧ f1.offset = 1 ∧ P.cellsOf f0.type = 1 ∧ P.cellsOf f1.type = 1)
    (h0 : P.underlying f0.type = some .string) (h1 : P.underlying f1.type = some (.int .i64)) (h : DataW.trod enc P w base sp held fuel t cs = some (.agg (zs.map signData), p)) :
    ∀ i z, zs[i]? = some z → cs[i * 2]? = some (.string ⟨z.1.toArray⟩) ∧ cs[i * 2 + 1]? = some (.int .i64 z.2) := by
  cases fuel with
  | zero => simp [DataW.trod] at h
  | succ fuel =>
    simp only [DataW.trod, ht, hce, hct] at h
    split at h
    · rename_i hl
      obtain ⟨xs, hm, hx⟩ := Option.map_eq_some_iff.1 h
      have hxs : xs.map (·.1) = zs.map (signData (H := H)) := by
        have := congrArg Prod.fst hx
        simpa using this
      have hxl : xs.length = n := by simpa using Lib.mapM_length hm
      have hzl : zs.length = n := by
        have := congrArg List.length hxs
        simp at this
        omega
      intro i z hz
      have hi : i < n := by rw [← hzl]; exact (List.getElem?_eq_some_iff.1 hz).1
      obtain ⟨b, hb, hf⟩ := Lib.mapM_at hm i i (by simp [hi])
      have h2 : (xs.map (·.1))[i]? = some (signData z : DataW H) := by rw [hxs]; simp [hz]
      have hb1 : b.1 = signData z := by simpa [hb] using h2
      obtain ⟨o0, o1, k0, k1⟩ := ho
      obtain ⟨y0, y1, m, rfl, _, g0, g1⟩ := trod_struct2 he hf
      rw [o0, k0] at g0
      rw [o1, k1] at g1
      obtain ⟨s, c0, rfl, _⟩ := DataW.trod_string h0 g0
      obtain ⟨v, c1, rfl, _⟩ := DataW.trod_int h1 g1
      simp only [signData, DataW.agg.injEq, List.cons.injEq, DataW.lit.injEq, Lit.string.injEq, Lit.int.injEq, true_and, and_true] at hb1
      obtain ⟨e1, e2⟩ := hb1
      have q0 := congrArg (·[0]?) c0
      have q1 := congrArg (·[0]?) c1
      simp [List.getElem?_drop] at q0 q1
      refine ⟨?_, by rw [q1, e2]⟩
      rw [q0]
      congr 2
      exact bytes_eq (by rw [e1])
    · cases h
def signRows : List (List UInt8 × Int) := [([60, 62], 8), ([60, 61], 10), ([62, 61], 12), ([60], 9), ([62], 11), ([61], 7)]
theorem signs_of_head {W : World} {rest : List (String × DataW Unit)} (h : laidMet Tryz.prog (("oculus/crit.signs", .agg (signRows.map signData)) :: rest) W) : Signs W := by
  obtain ⟨ps, ⟨g', t', cs, fuel, p, q, hg', ht', hvar, hd, _, _⟩, _⟩ := h
  obtain rfl := Option.some.inj ((show Tryz.prog.globalNamed "oculus/crit.signs" = some 0 by kernel_rfl).symm.trans hg')
  obtain rfl := Option.some.inj ((show (Tryz.prog.globals[0]?).map (·.type) = some 120 by kernel_rfl).symm.trans ht')
  have H := cells_of_rows Tryz.underlying120 (by kernel_rfl) (by kernel_rfl) Tryz.underlying119 ⟨rfl, rfl, by kernel_rfl, by kernel_rfl⟩ Tryz.underlying9 Tryz.underlying3 hd
  intro i x hx
  have hc := World.var?_cell (g := 0) (by kernel_rfl) hvar i
  have hi : i < 12 := (List.getElem?_eq_some_iff.1 hx).1
  rw [hc, ← Array.getElem?_toList]
  obtain rfl | rfl | rfl | rfl | rfl | rfl | rfl | rfl | rfl | rfl | rfl | rfl : i = 0 ∨ i = 1 ∨ i = 2 ∨ i = 3 ∨ i = 4 ∨ i = 5 ∨ i = 6 ∨ i = 7 ∨ i = 8 ∨ i = 9 ∨ i = 10 ∨ i = 11 := by omega
  · rw [← hx]; exact (H 0 ([60, 62], 8) rfl).1
  · rw [← hx]; exact (H 0 ([60, 62], 8) rfl).2
  · rw [← hx]; exact (H 1 ([60, 61], 10) rfl).1
  · rw [← hx]; exact (H 1 ([60, 61], 10) rfl).2
  · rw [← hx]; exact (H 2 ([62, 61], 12) rfl).1
  · rw [← hx]; exact (H 2 ([62, 61], 12) rfl).2
  · rw [← hx]; exact (H 3 ([60], 9) rfl).1
  · rw [← hx]; exact (H 3 ([60], 9) rfl).2
  · rw [← hx]; exact (H 4 ([62], 11) rfl).1
  · rw [← hx]; exact (H 4 ([62], 11) rfl).2
  · rw [← hx]; exact (H 5 ([61], 7) rfl).1
  · rw [← hx]; exact (H 5 ([61], 7) rfl).2
end Go.Proofs.YtbjomidkeignjaaGreatDoor.Crt
