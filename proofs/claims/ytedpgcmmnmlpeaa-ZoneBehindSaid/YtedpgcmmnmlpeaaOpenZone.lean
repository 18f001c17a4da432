/- Zones among the arguments: a slice that reads as data reads as a list of zones; a zone by value is six cells. -/
import Derived.OpenShut
import Derived.Deep.Slices
import Derived.Test.YtedpgcmmnmlpeaaZoneText
namespace Go.Proofs.Ytedpgcmmnmlpeaa.Zone
open Go Go.ChangeShapes Go.WideShapes Go.RowKit Go.Deep Go.WideElems
open Go.Proofs.Ytedpgcmmnmlpeaa.Cats (U)

theorem cellsZone : Try.prog.cellsOf 41 = 6 := by kernel_rfl
theorem cellsSpan : Try.prog.cellsOf 26 = 4 := by kernel_rfl
theorem cellsCell : Try.prog.cellsOf 24 = 2 := by kernel_rfl
theorem cellsLabel : Try.prog.cellsOf 30 = 2 := by kernel_rfl
theorem cellsInt : Try.prog.cellsOf 3 = 1 := by kernel_rfl
theorem cellsU64 : Try.prog.cellsOf 28 = 1 := by kernel_rfl
theorem list6 {α : Type} : ∀ {cs : List α}, cs.length = 6 → ∃ a b c d e f, cs = [a, b, c, d, e, f]
  | [a, b, c, d, e, f], _ => ⟨a, b, c, d, e, f, rfl⟩
section
variable {H : Type} {enc : TypeId × Value → H} {w : World} {base : Nat} {spare : Nat → Bool} {held : Bool}
theorem int_cell {n : Nat} {v : Value} {x : DataW H × List MemPlace} (h : DataW.trod enc Try.prog w base spare held n 3 [v] = some x) : ∃ a : Int, v = .int .i64 a := by
  obtain ⟨a, e, _, _⟩ := DataW.trod_int Try.underlying3 h
  exact ⟨a, by simpa using e⟩
theorem u64_cell {n : Nat} {v : Value} {x : DataW H × List MemPlace} (h : DataW.trod enc Try.prog w base spare held n 28 [v] = some x) : ∃ s : Nat, v = .int .u64 s ∧ U s := by
  obtain ⟨a, e, _, hw⟩ := DataW.trod_int Try.underlying28 h
  simp only [Lit.wf, Bool.and_eq_true, decide_eq_true_eq] at hw
  obtain ⟨s, rfl⟩ := Int.eq_ofNat_of_zero_le (show 0 ≤ a by have := hw.1; simpa [IntKind.min, IntKind.signed] using this)
  exact ⟨s, by simpa using e, by have := hw.2; simp [IntKind.max, IntKind.signed, IntKind.bits] at this; unfold U; omega⟩
theorem cell_of_trod {n : Nat} {a b : Value} {x : DataW H × List MemPlace} (h : DataW.trod enc Try.prog w base spare held n 24 [a, b] = some x) : ∃ p q : Int, a = .int .i64 p ∧ b = .int .i64 q := by
  obtain ⟨y0, y1, m, _, _, h0, h1⟩ := trod_struct2 Try.underlying24 h
  obtain ⟨p, hp⟩ := int_cell h0
  obtain ⟨q, hq⟩ := int_cell h1
  exact ⟨p, q, hp, hq⟩
theorem zone_of_trod {n : Nat} {cs : List Value} {x : DataW H × List MemPlace} (h : DataW.trod enc Try.prog w base spare held n 41 cs = some x) : ∃ z : Zn, cs = z.cells ∧ U z.s := by
  obtain ⟨y0, y1, m, _, hl, h0, h1⟩ := trod_struct2 Try.underlying41 h
  rw [cellsZone] at hl
  obtain ⟨a, b, c, d, e, f, rfl⟩ := list6 hl
  obtain ⟨u0, u1, m0, _, _, k0, k1⟩ := trod_struct2 Try.underlying26 h0
  obtain ⟨u2, u3, m1, _, _, k2, k3⟩ := trod_struct2 Try.underlying30 h1
  obtain ⟨p, q, rfl, rfl⟩ := cell_of_trod k0
  obtain ⟨r, t, rfl, rfl⟩ := cell_of_trod k1
  obtain ⟨l, rfl⟩ := int_cell k2
  obtain ⟨s, rfl, hs⟩ := u64_cell k3
  exact ⟨⟨p, q, r, t, l, s⟩, rfl, hs⟩
end
theorem zones_of_trod {H : Type} {enc : TypeId × Value → H} {W : World} {fuel : Nat} {A : Option Addr} {n c : Nat} {x : DataW H × List MemPlace}
    (h : DataW.trod enc Try.prog W 0 (fun _ => true) true fuel 22 [.slice A n c] = some x) : ∃ zs : List Zn, (n ≤ 60 → ZonesR W A n zs) ∧ (A = none → c = 0) := by
  rcases open_slice Try.underlying22 h with ⟨hcs, _⟩ | ⟨a, len, cap, m, k, D, Pl, hcs, _, hl, hm, hz, _, hcell⟩
  · simp only [List.cons.injEq, and_true, Value.slice.injEq] at hcs
    obtain ⟨rfl, rfl, rfl⟩ := hcs
    exact ⟨[], fun _ => ⟨rfl, by omega, (fun z hz => by cases hz), fun h => absurd rfl h⟩, fun _ => rfl⟩
  · simp only [List.cons.injEq, and_true, Value.slice.injEq] at hcs
    obtain ⟨rfl, rfl, rfl⟩ := hcs
    simp only [if_true] at hz
    subst hz
    have each : ∀ i, i < n → ∃ z : Zn, U z.s ∧ ∀ j v, z.cells[j]? = some v → W.cell? (a.add (i * 6 + j)) = some v := by
      intro i hi
      obtain ⟨cs, h1, h2⟩ := hcell i (by omega)
      rw [cellsZone] at h1
      obtain ⟨_, h3, h4⟩ := World.cells?_some h1
      obtain ⟨z, rfl, hu⟩ := zone_of_trod h2
      refine ⟨z, hu, fun j v hj => ?_⟩
      have hj6 : j < 6 := (List.getElem?_eq_some_iff.1 hj).1
      rw [← Deep.add_add, h4 j hj6]
      exact hj
    obtain ⟨f, hf⟩ : ∃ f : Nat → Zn, ∀ i, i < n → U (f i).s ∧ ∀ j v, (f i).cells[j]? = some v → W.cell? (a.add (i * 6 + j)) = some v := by
      refine ⟨fun i => if h : i < n then (each i h).choose else ⟨0, 0, 0, 0, 0, 0⟩, fun i hi => ?_⟩
      simp only [dif_pos hi]
      exact (each i hi).choose_spec
    refine ⟨(List.range n).map f, fun h60 => ⟨by simp, by omega, fun z hz => ?_, fun hn => ?_⟩, fun h => by cases h⟩
    · obtain ⟨i, hi, rfl⟩ := List.mem_map.1 hz
      exact (hf i (List.mem_range.1 hi)).1
    · obtain ⟨b, o, spot⟩ := a
      have h0 := (hf 0 (by omega)).2 0 _ rfl
      have hspot : spot = none := by simpa [Addr.add] using World.cell?_spot h0
      subst hspot
      have hlt := World.block_lt_of_cell? W _ h0
      refine ⟨b, o, rfl, by simpa [Addr.add] using hlt, fun k z hk j v hj => ?_⟩
      have hkn : k < n := by have := (List.getElem?_eq_some_iff.1 hk).1; simpa using this
      have e : z = f k := by simpa [hkn] using hk.symm
      subst e
      have h2 := (hf k hkn).2 j v hj
      rw [Nat.add_assoc]
      rwa [Go.WideShapes.add_plain] at h2
end Go.Proofs.Ytedpgcmmnmlpeaa.Zone
