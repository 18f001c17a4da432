/- Texts among the arguments: a slice of them that reads as data reads as a list of texts; two in an array by value, opened. -/
import Derived.Test.YtngnjphhjmhomaaKit
import Derived.Test.YtngnjphhjmhomaaFrame
import Derived.OpenShut
import Derived.Lib.SmallJoins
import Derived.Lib.LaidTab
import Derived.Deep.DeepHandedRow
import Derived.Deep.Slices
import Derived.Deep.Strs
namespace Go.Proofs.Ytngnjphhjmhomaa.Strs
open Go Go.ChangeShapes Go.WideShapes Go.RowKit Go.Deep Go.WideElems Go.ChangeAt

theorem cellsStr : Try.prog.cellsOf 9 = 1 := by kernel_rfl
section
variable {H : Type} {enc : TypeId × Value → H} {w : World} {base : Nat} {spare : Nat → Bool} {held : Bool}
set_option maxRecDepth 100000 in
theorem str_cells {n : Nat} {cs : List Value} {x : DataW H × List MemPlace} (h : DataW.trod enc Try.prog w base spare held n 9 cs = some x) : ∃ s : ByteArray, cs = [.string s] := by
  obtain ⟨s, e, _, _⟩ := DataW.trod_string Try.underlying9 h
  exact ⟨s, e⟩
end
theorem okWide_array {P : Program} {t e : TypeId} {n : Nat} {W : World} {r : Reach} {b0 : Nat} {v : Value} (ht : P.underlying t = some (.array n e)) (h : Value.okWide P W r b0 t v) : ∃ cs, v = .agg cs ∧ cs.size = P.cellsOf t := by
  simp only [Value.okWide, ht] at h
  obtain ⟨cs, h1, h2, _⟩ := h
  exact ⟨cs, h1, h2⟩
/-- any slice whose elements are so many cells -/
theorem rows_of_trod {H : Type} {enc : TypeId × Value → H} {W : World} {fuel : Nat} {A : Option Addr} {n c m : Nat} {x : DataW H × List MemPlace} {ts te : TypeId} {α : Type} (cells : α → List Value) (ok : α → Prop) (d : α)
    (hs : Try.prog.underlying ts = some (.slice te)) (hm : Try.prog.cellsOf te = m) (hm0 : 0 < m) (hcl : ∀ z, (cells z).length = m)
    (hz : ∀ {k : Nat} {cs : List Value} {y : DataW H × List MemPlace}, DataW.trod enc Try.prog W 0 (fun _ => true) true k te cs = some y → ∃ z : α, cs = cells z ∧ ok z)
    (h : DataW.trod enc Try.prog W 0 (fun _ => true) true fuel ts [.slice A n c] = some x) :
    ((A = none → n = 0 ∧ c = 0) ∧ n ≤ c) ∧ ∃ zs : List α, zs.length = n ∧ (∀ z ∈ zs, ok z) ∧ (n ≠ 0 → ∃ b o, A = some ⟨b, o, none⟩ ∧ b < W.heap.size ∧ ∀ k z, zs[k]? = some z → ∀ j v, (cells z)[j]? = some v → W.cell? ⟨b, o + k * m + j, none⟩ = some v) := by
  rcases open_slice hs h with ⟨hcs, _⟩ | ⟨a, len, cap, q, k, D, Pl, hcs, _, hl, hmx, hq, _, hcell⟩
  · simp only [List.cons.injEq, and_true, Value.slice.injEq] at hcs
    obtain ⟨rfl, rfl, rfl⟩ := hcs
    exact ⟨⟨fun _ => ⟨rfl, rfl⟩, Nat.le_refl _⟩, [], rfl, (fun z hz => by cases hz), fun h => absurd rfl h⟩
  · simp only [List.cons.injEq, and_true, Value.slice.injEq] at hcs
    obtain ⟨rfl, rfl, rfl⟩ := hcs
    simp only [if_true] at hq
    subst hq
    have each : ∀ i, i < n → ∃ z : α, ok z ∧ ∀ j v, (cells z)[j]? = some v → W.cell? (a.add (i * m + j)) = some v := by
      intro i hi
      obtain ⟨cs, h1, h2⟩ := hcell i (by omega)
      rw [hm] at h1
      obtain ⟨_, h3, h4⟩ := World.cells?_some h1
      obtain ⟨z, rfl, hu⟩ := hz h2
      refine ⟨z, hu, fun j v hj => ?_⟩
      have hjm : j < m := by have := (List.getElem?_eq_some_iff.1 hj).1; rwa [hcl] at this
      rw [← Deep.add_add, h4 j hjm]
      exact hj
    obtain ⟨f, hf⟩ : ∃ f : Nat → α, ∀ i, i < n → ok (f i) ∧ ∀ j v, (cells (f i))[j]? = some v → W.cell? (a.add (i * m + j)) = some v := by
      classical
      refine ⟨fun i => if h : i < n then (each i h).choose else d, fun i hi => ?_⟩
      simp only [dif_pos hi]
      exact (each i hi).choose_spec
    refine ⟨⟨(fun h => by cases h), hl⟩, (List.range n).map f, by simp, fun z hz => ?_, fun hn => ?_⟩
    · obtain ⟨i, hi, rfl⟩ := List.mem_map.1 hz
      exact (hf i (List.mem_range.1 hi)).1
    · obtain ⟨b, o, spot⟩ := a
      obtain ⟨v0, hv0⟩ : ∃ v0, (cells (f 0))[0]? = some v0 := ⟨_, List.getElem?_eq_getElem (by rw [hcl]; exact hm0)⟩
      have h0 := (hf 0 (by omega)).2 0 v0 hv0
      have hspot : spot = none := by simpa [Addr.add] using World.cell?_spot h0
      subst hspot
      have hlt := World.block_lt_of_cell? W _ h0
      refine ⟨b, o, rfl, by simpa [Addr.add] using hlt, fun k z hk j v hj => ?_⟩
      have hkn : k < n := by have := (List.getElem?_eq_some_iff.1 hk).1; simpa using this
      have e : z = f k := by simpa [hkn] using hk.symm
      subst e
      have h2 := (hf k hkn).2 j v hj
      rw [Nat.add_assoc]
      rwa [Go.WideShapes.add_plain] at h2
/-- one text as cells -/
def one (z : List UInt8) : List Value := [.string ⟨z.toArray⟩]
end Go.Proofs.Ytngnjphhjmhomaa.Strs
