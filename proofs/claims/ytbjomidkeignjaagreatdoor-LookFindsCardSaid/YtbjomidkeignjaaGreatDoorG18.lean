/- Texts among the arguments: a slice of them that reads as data reads as a list of texts; two in an array by value, opened.
   Values among the arguments: a slice of them that reads as data reads as a list of values of 64 bits.
   A table among the arguments, by value: two numbers and a slice that reads as a list of values. -/
import Derived.OpenShut
import Derived.Lib.SmallJoins
import Derived.Lib.LaidTab
import Derived.Deep.DeepHandedRow
import Derived.Deep.Slices
import Derived.Deep.Strs
import Derived.Test.YtbjomidkeignjaaGreatDoorKit
import Derived.Test.YtbjomidkeignjaaGreatDoorFrame
import Derived.Test.YtbjomidkeignjaaGreatDoorG12
import Derived.Test.YtbjomidkeignjaaGreatDoorG13
namespace Go.Proofs.YtbjomidkeignjaaGreatDoor.Strs
open Go Go.ChangeShapes Go.WideShapes Go.RowKit Go.Deep Go.WideElems Go.ChangeAt

theorem cellsStr : Tryz.prog.cellsOf 9 = 1 := by kernel_rfl
section
variable {H : Type} {enc : TypeId × Value → H} {w : World} {base : Nat} {spare : Nat → Bool} {held : Bool}
set_option maxRecDepth 100000 in
theorem str_cells {n : Nat} {cs : List Value} {x : DataW H × List MemPlace} (h : DataW.trod enc Tryz.prog w base spare held n 9 cs = some x) : ∃ s : ByteArray, cs = [.string s] := by
  obtain ⟨s, e, _, _⟩ := DataW.trod_string Tryz.underlying9 h
  exact ⟨s, e⟩
end
theorem okWide_array {P : Program} {t e : TypeId} {n : Nat} {W : World} {r : Reach} {b0 : Nat} {v : Value} (ht : P.underlying t = some (.array n e)) (h : Value.okWide P W r b0 t v) : ∃ cs, v = .agg cs ∧ cs.size = P.cellsOf t := by
  simp only [Value.okWide, ht] at h
  obtain ⟨cs, h1, h2, _⟩ := h
  exact ⟨cs, h1, h2⟩
/-- any slice whose elements are so many cells -/
theorem rows_of_trod {H : Type} {enc : TypeId × Value → H} {W : World} {fuel : Nat} {A : Option Addr} {n c m : Nat} {x : DataW H × List MemPlace} {ts te : TypeId} {α : Type} (cells : α → List Value) (ok : α → Prop) (d : α)
    (hs : Tryz.prog.underlying ts = some (.slice te)) (hm : Tryz.prog.cellsOf te = m) (hm0 : 0 < m) (hcl : ∀ z, (cells z).length = m)
    (hz : ∀ {k : Nat} {cs : List Value} {y : DataW H × List MemPlace}, DataW.trod enc Tryz.prog W 0 (fun _ => true) true k te cs = some y → ∃ z : α, cs = cells z ∧ ok z)
    (h : DataW.trod enc Tryz.prog W 0 (fun _ => true) true fuel ts [.slice A n c] = some x) :
    ((A = none → n = 0 ∧ c = 0) ∧ n ≤ c) ∧ ∃ zs : List α, zs.length = n ∧ (∀ z ∈ zs, ok z) ∧ (n ≠ 0 → ∃ b o, A = some ⟨b, o, none⟩ ∧ b < W.heap.size ∧ ∀ k z, zs[k]? = some z → ∀ j v, (cells z)[j]? = some v → W.cell? ⟨b, o + k * m + j, none⟩ = some v) := by
  rcases open_slice hs h with ⟨hcs, _⟩ | ⟨a, len, cap, q, k, D, Pl, hcs, _, hl, hmx, hq, _, hcell⟩
  · simp only [List.cons.injEq, and_true, Value.slice.injEq] at hcs
    obtain ⟨rfl, rfl, rfl⟩ := hcs
    exact ⟨⟨fun _ => ⟨rfl, rfl⟩, Nat.le_refl _⟩, [], rfl, (fun z hz => by cases hz), fun h => absurd rfl h⟩
  · simp only [List.cons.injEq, and_true, Value.slice.injEq] at hcs
    obtain ⟨rfl, rfl, rfl⟩ := hcs
    simp only [if_true] at hq
    subst hq
    have each : ∀ i, i < n → ∃ z : α, ok z ∧ ∀ j v, (cells z)[j]? = some v → W.cell? (a.add (i * m + j)) = some v := by
      intro i hi
      obtain ⟨cs, h1, h2⟩ := hcell i (by omega)
      rw [hm] at h1
      obtain ⟨_, h3, h4⟩ := World.cells?_some h1
      obtain ⟨z, rfl, hu⟩ := hz h2
      refine ⟨z, hu, fun j v hj => ?_⟩
      have hjm : j < m := by have := (List.getElem?_eq_some_iff.1 hj).1; rwa [hcl] at this
      rw [← Deep.add_add, h4 j hjm]
      exact hj
    obtain ⟨f, hf⟩ : ∃ f : Nat → α, ∀ i, i < n → ok (f i) ∧ ∀ j v, (cells (f i))[j]? = some v → W.cell? (a.add (i * m + j)) = some v := by
      classical
      refine ⟨fun i => if h : i < n then (each i h).choose else d, fun i hi => ?_⟩
      simp only [dif_pos hi]
      exact (each i hi).choose_spec
    refine ⟨⟨(fun h => by cases h), hl⟩, (List.range n).map f, by simp, fun z hz => ?_, fun hn => ?_⟩
    · obtain ⟨i, hi, rfl⟩ := List.mem_map.1 hz
      exact (hf i (List.mem_range.1 hi)).1
    · obtain ⟨b, o, spot⟩ := a
      obtain ⟨v0, hv0⟩ : ∃ v0, (cells (f 0))[0]? = some v0 := ⟨_, List.getElem?_eq_getElem (by rw [hcl]; exact hm0)⟩
      have h0 := (hf 0 (by omega)).2 0 v0 hv0
      have hspot : spot = none := by simpa [Addr.add] using World.cell?_spot h0
      subst hspot
      have hlt := World.block_lt_of_cell? W _ h0
      refine ⟨b, o, rfl, by simpa [Addr.add] using hlt, fun k z hk j v hj => ?_⟩
      have hkn : k < n := by have := (List.getElem?_eq_some_iff.1 hk).1; simpa using this
      have e : z = f k := by simpa [hkn] using hk.symm
      subst e
      have h2 := (hf k hkn).2 j v hj
      rw [Nat.add_assoc]
      rwa [Go.WideShapes.add_plain] at h2
/-- one text as cells -/
def one (z : List UInt8) : List Value := [.string ⟨z.toArray⟩]
set_option maxRecDepth 100000 in
theorem strs_of_trod {H : Type} {enc : TypeId × Value → H} {W : World} {fuel : Nat} {A : Option Addr} {n c : Nat} {x : DataW H × List MemPlace}
    (h : DataW.trod enc Tryz.prog W 0 (fun _ => true) true fuel 106 [.slice A n c] = some x) : ((A = none → n = 0 ∧ c = 0) ∧ n ≤ c) ∧ ∃ zs : List (List UInt8), zs.length = n ∧ Txt.StrsO W A zs := by
  obtain ⟨h0, zs, h1, _, h3⟩ := rows_of_trod (m := 1) one (fun _ => True) [] Tryz.underlying106 cellsStr (by decide) (fun _ => rfl) (fun {k cs y} hy => by
    obtain ⟨s, rfl⟩ := str_cells hy
    exact ⟨s.data.toList, by rw [one, ← Txt.str_is (t := s) rfl], trivial⟩) h
  refine ⟨h0, zs, h1, ?_⟩
  by_cases hn : n = 0
  · exact .inl (List.length_eq_zero_iff.1 (by omega))
  · obtain ⟨b, o, hA, hlt, hcell⟩ := h3 hn
    refine .inr ⟨b, o, hA, hlt, fun i z hz => ?_⟩
    have := hcell i z hz 0 _ rfl
    simpa using this
end Go.Proofs.YtbjomidkeignjaaGreatDoor.Strs
namespace Go.Proofs.YtbjomidkeignjaaGreatDoor.Vals
open Go Go.ChangeShapes Go.WideShapes Go.RowKit Go.Deep Go.WideElems Go.ChangeAt

theorem cellsVal : Tryz.prog.cellsOf 26 = 3 := by kernel_rfl
theorem cellsInt : Tryz.prog.cellsOf 3 = 1 := by kernel_rfl
theorem cellsI64 : Tryz.prog.cellsOf 2 = 1 := by kernel_rfl
theorem list3 {α : Type} : ∀ {cs : List α}, cs.length = 3 → ∃ a b c, cs = [a, b, c]
  | [a, b, c], _ => ⟨a, b, c, rfl⟩
section
variable {H : Type} {enc : TypeId × Value → H} {w : World} {base : Nat} {spare : Nat → Bool} {held : Bool}
set_option maxRecDepth 100000 in
theorem int_cell {n : Nat} {v : Value} {x : DataW H × List MemPlace} (h : DataW.trod enc Tryz.prog w base spare held n 3 [v] = some x) : ∃ a : Int, v = .int .i64 a := by
  obtain ⟨a, e, _, _⟩ := DataW.trod_int Tryz.underlying3 h
  exact ⟨a, by simpa using e⟩
set_option maxRecDepth 100000 in
theorem i64_cell {n : Nat} {v : Value} {x : DataW H × List MemPlace} (h : DataW.trod enc Tryz.prog w base spare held n 2 [v] = some x) : ∃ a : Int, v = .int .i64 a ∧ -9223372036854775808 ≤ a ∧ a ≤ 9223372036854775807 := by
  obtain ⟨a, e, _, hw⟩ := DataW.trod_int Tryz.underlying2 h
  simp only [Lit.wf, Bool.and_eq_true, decide_eq_true_eq] at hw
  refine ⟨a, by simpa using e, ?_, ?_⟩
  · have := hw.1; simpa [IntKind.min, IntKind.signed, IntKind.bits] using this
  · have := hw.2; simp [IntKind.max, IntKind.signed, IntKind.bits] at this; omega
set_option maxRecDepth 100000 in
theorem val_of_trod {n : Nat} {cs : List Value} {x : DataW H × List MemPlace} (h : DataW.trod enc Tryz.prog w base spare held n 26 cs = some x) : ∃ z : Fld.Vl, cs = z.cells ∧ z.fits := by
  obtain ⟨y0, y1, y2, m, _, hl, h0, h1, h2⟩ := trod_struct3 Tryz.underlying26 h
  rw [cellsVal] at hl
  obtain ⟨a, b, c, rfl⟩ := list3 hl
  obtain ⟨k, rfl⟩ := int_cell h0
  obtain ⟨n, rfl, hn1, hn2⟩ := i64_cell h1
  obtain ⟨s, hs⟩ := Strs.str_cells h2
  have e : c = .string s := by simpa [cellsVal, Strs.cellsStr] using hs
  subst e
  exact ⟨⟨k, n, s⟩, rfl, hn1, hn2⟩
end
set_option maxRecDepth 100000 in
theorem vals_of_trod {H : Type} {enc : TypeId × Value → H} {W : World} {fuel : Nat} {A : Option Addr} {n c : Nat} {x : DataW H × List MemPlace}
    (h : DataW.trod enc Tryz.prog W 0 (fun _ => true) true fuel 22 [.slice A n c] = some x) : ∃ zs : List Fld.Vl, n ≤ 200 → Fld.ValsR W A n zs := by
  obtain ⟨_, zs, h1, h2, h3⟩ := Strs.rows_of_trod (m := 3) Fld.Vl.cells Fld.Vl.fits ⟨0, 0, ⟨#[]⟩⟩ Tryz.underlying22 cellsVal (by decide) (fun _ => rfl) (fun {k cs y} hy => val_of_trod hy) h
  exact ⟨zs, fun hn => ⟨h1, by omega, h2, h3⟩⟩
end Go.Proofs.YtbjomidkeignjaaGreatDoor.Vals
namespace Go.Proofs.YtbjomidkeignjaaGreatDoor.Tab
open Go Go.ChangeShapes Go.WideShapes Go.RowKit Go.Deep Go.WideElems Go.ChangeAt

theorem cellsTab : Tryz.prog.cellsOf 24 = 3 := by kernel_rfl
theorem cellsVs : Tryz.prog.cellsOf 22 = 1 := by kernel_rfl
theorem cellsI : Tryz.prog.cellsOf 3 = 1 := by kernel_rfl
theorem slice_cell {H : Type} {enc : TypeId × Value → H} {P : Program} {W : World} {ts te : TypeId} {fuel : Nat} {v : Value} {x : DataW H × List MemPlace} (hs : P.underlying ts = some (.slice te)) (h : DataW.trod enc P W 0 (fun _ => true) true fuel ts [v] = some x) : ∃ A n c, v = .slice A n c := by
  rcases open_slice hs h with ⟨hcs, _⟩ | ⟨a, len, cap, q, k, D, Pl, hcs, _⟩
  · simp only [List.cons.injEq, and_true] at hcs
    exact ⟨_, _, _, hcs⟩
  · simp only [List.cons.injEq, and_true] at hcs
    exact ⟨_, _, _, hcs⟩
set_option maxRecDepth 100000 in
theorem table_of_trod {H : Type} {enc : TypeId × Value → H} {W : World} {fuel : Nat} {cs : List Value} {x : DataW H × List MemPlace} (h : DataW.trod enc Tryz.prog W 0 (fun _ => true) true fuel 24 cs = some x) :
    ∃ (r c : Int) (A : Option Addr) (n d : Nat) (zs : List Fld.Vl), cs = [.int .i64 r, .int .i64 c, .slice A n d] ∧ (n ≤ 1000 → Fld.ValsR W A n zs) := by
  obtain ⟨y0, y1, y2, m, _, hl, h0, h1, h2⟩ := trod_struct3 Tryz.underlying24 h
  rw [cellsTab] at hl
  obtain ⟨a, b, u, rfl⟩ := Vals.list3 hl
  simp only [cellsVs, cellsI, List.drop_zero, List.drop_succ_cons, List.take_succ_cons, List.take_zero] at h0 h1 h2
  obtain ⟨r, rfl⟩ := Vals.int_cell h0
  obtain ⟨c, rfl⟩ := Vals.int_cell h1
  obtain ⟨A, n, d, rfl⟩ := slice_cell Tryz.underlying22 h2
  obtain ⟨_, zs, g1, g2, g3⟩ := Strs.rows_of_trod (m := 3) Fld.Vl.cells Fld.Vl.fits ⟨0, 0, ⟨#[]⟩⟩ Tryz.underlying22 Vals.cellsVal (by decide) (fun _ => rfl) (fun {k cs y} hy => Vals.val_of_trod hy) h2
  exact ⟨r, c, A, n, d, zs, rfl, fun hn => ⟨g1, hn, g2, g3⟩⟩
end Go.Proofs.YtbjomidkeignjaaGreatDoor.Tab
