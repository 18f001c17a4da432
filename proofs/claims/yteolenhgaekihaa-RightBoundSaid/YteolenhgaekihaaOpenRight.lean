/- Users and grants among the arguments: slices that read as data read as lists. -/
import Derived.OpenShut
import Derived.Deep.Slices
import Derived.Deep.Strs
import Derived.Test.YteolenhgaekihaaRightText
namespace Go.Proofs.Yteolenhgaekihaa.Right
open Go Go.ChangeShapes Go.WideShapes Go.RowKit Go.Deep Go.WideElems
open Go.Proofs.Yteolenhgaekihaa.Cats (U)

theorem cellsUser : Try.prog.cellsOf 31 = 3 := by kernel_rfl
theorem cellsGrant : Try.prog.cellsOf 59 = 5 := by kernel_rfl
theorem list3 {α : Type} : ∀ {cs : List α}, cs.length = 3 → ∃ a b c, cs = [a, b, c]
  | [a, b, c], _ => ⟨a, b, c, rfl⟩
theorem list5 {α : Type} : ∀ {cs : List α}, cs.length = 5 → ∃ a b c d e, cs = [a, b, c, d, e]
  | [a, b, c, d, e], _ => ⟨a, b, c, d, e, rfl⟩
section
variable {H : Type} {enc : TypeId × Value → H} {w : World} {base : Nat} {spare : Nat → Bool} {held : Bool}
theorem int_cell {n : Nat} {v : Value} {x : DataW H × List MemPlace} (h : DataW.trod enc Try.prog w base spare held n 3 [v] = some x) : ∃ a : Int, v = .int .i64 a := by
  obtain ⟨a, e, _, _⟩ := DataW.trod_int Try.underlying3 h
  exact ⟨a, by simpa using e⟩
theorem u64_cell {n : Nat} {v : Value} {x : DataW H × List MemPlace} (h : DataW.trod enc Try.prog w base spare held n 23 [v] = some x) : ∃ s : Nat, v = .int .u64 s ∧ U s := by
  obtain ⟨a, e, _, hw⟩ := DataW.trod_int Try.underlying23 h
  simp only [Lit.wf, Bool.and_eq_true, decide_eq_true_eq] at hw
  obtain ⟨s, rfl⟩ := Int.eq_ofNat_of_zero_le (show 0 ≤ a by have := hw.1; simpa [IntKind.min, IntKind.signed] using this)
  exact ⟨s, by simpa using e, by have := hw.2; simp [IntKind.max, IntKind.signed, IntKind.bits] at this; unfold U; omega⟩
theorem str_cell {n : Nat} {v : Value} {x : DataW H × List MemPlace} (h : DataW.trod enc Try.prog w base spare held n 9 [v] = some x) : ∃ s : ByteArray, v = .string s := by
  obtain ⟨s, e, _, _⟩ := DataW.trod_string Try.underlying9 h
  exact ⟨s, by simpa using e⟩
theorem label_of_trod {n : Nat} {a b : Value} {x : DataW H × List MemPlace} (h : DataW.trod enc Try.prog w base spare held n 25 [a, b] = some x) : ∃ (l : Int) (s : Nat), a = .int .i64 l ∧ b = .int .u64 s ∧ U s := by
  obtain ⟨y0, y1, m, _, _, h0, h1⟩ := trod_struct2 Try.underlying25 h
  obtain ⟨l, rfl⟩ := int_cell h0
  obtain ⟨s, rfl, hs⟩ := u64_cell h1
  exact ⟨l, s, rfl, rfl, hs⟩
theorem user_of_trod {n : Nat} {cs : List Value} {x : DataW H × List MemPlace} (h : DataW.trod enc Try.prog w base spare held n 31 cs = some x) : ∃ z : Us, cs = z.cells ∧ U z.s := by
  obtain ⟨y0, y1, m, _, hl, h0, h1⟩ := trod_struct2 Try.underlying31 h
  rw [cellsUser] at hl
  obtain ⟨a, b, c, rfl⟩ := list3 hl
  obtain ⟨t, rfl⟩ := str_cell h0
  obtain ⟨l, s, rfl, rfl, hs⟩ := label_of_trod h1
  exact ⟨⟨t, l, s⟩, rfl, hs⟩
theorem grant_of_trod {n : Nat} {cs : List Value} {x : DataW H × List MemPlace} (h : DataW.trod enc Try.prog w base spare held n 59 cs = some x) : ∃ z : Gr, cs = z.cells ∧ U z.s ∧ U z.r := by
  obtain ⟨y0, y1, y2, m, _, hl, h0, h1, h2⟩ := trod_struct3 Try.underlying59 h
  rw [cellsGrant] at hl
  obtain ⟨a, b, c, d, e, rfl⟩ := list5 hl
  obtain ⟨t, rfl⟩ := str_cell h0
  obtain ⟨l, s, rfl, rfl, hs⟩ := label_of_trod h1
  obtain ⟨k, r, rfl, rfl, hr⟩ := label_of_trod h2
  exact ⟨⟨t, l, s, k, r⟩, rfl, hs, hr⟩
end
/-- any slice whose elements are so many cells -/
theorem rows_of_trod {H : Type} {enc : TypeId × Value → H} {W : World} {fuel : Nat} {A : Option Addr} {n c m : Nat} {x : DataW H × List MemPlace} {ts te : TypeId} {α : Type} (cells : α → List Value) (ok : α → Prop) (d : α)
    (hs : Try.prog.underlying ts = some (.slice te)) (hm : Try.prog.cellsOf te = m) (hm0 : 0 < m) (hcl : ∀ z, (cells z).length = m)
    (hz : ∀ {k : Nat} {cs : List Value} {y : DataW H × List MemPlace}, DataW.trod enc Try.prog W 0 (fun _ => true) true k te cs = some y → ∃ z : α, cs = cells z ∧ ok z)
    (h : DataW.trod enc Try.prog W 0 (fun _ => true) true fuel ts [.slice A n c] = some x) :
    ((A = none → n = 0 ∧ c = 0) ∧ n ≤ c) ∧ ∃ zs : List α, zs.length = n ∧ (∀ z ∈ zs, ok z) ∧ (n ≠ 0 → ∃ b o, A = some ⟨b, o, none⟩ ∧ b < W.heap.size ∧ ∀ k z, zs[k]? = some z → ∀ j v, (cells z)[j]? = some v → W.cell? ⟨b, o + k * m + j, none⟩ = some v) := by
  rcases open_slice hs h with ⟨hcs, _⟩ | ⟨a, len, cap, q, k, D, Pl, hcs, _, hl, hmx, hq, _, hcell⟩
  · simp only [List.cons.injEq, and_true, Value.slice.injEq] at hcs
    obtain ⟨rfl, rfl, rfl⟩ := hcs
    exact ⟨⟨fun _ => ⟨rfl, rfl⟩, Nat.le_refl _⟩, [], rfl, (fun z hz => by cases hz), fun h => absurd rfl h⟩
  · simp only [List.cons.injEq, and_true, Value.slice.injEq] at hcs
    obtain ⟨rfl, rfl, rfl⟩ := hcs
    simp only [if_true] at hq
    subst hq
    have each : ∀ i, i < n → ∃ z : α, ok z ∧ ∀ j v, (cells z)[j]? = some v → W.cell? (a.add (i * m + j)) = some v := by
      intro i hi
      obtain ⟨cs, h1, h2⟩ := hcell i (by omega)
      rw [hm] at h1
      obtain ⟨_, h3, h4⟩ := World.cells?_some h1
      obtain ⟨z, rfl, hu⟩ := hz h2
      refine ⟨z, hu, fun j v hj => ?_⟩
      have hjm : j < m := by have := (List.getElem?_eq_some_iff.1 hj).1; rwa [hcl] at this
      rw [← Deep.add_add, h4 j hjm]
      exact hj
    obtain ⟨f, hf⟩ : ∃ f : Nat → α, ∀ i, i < n → ok (f i) ∧ ∀ j v, (cells (f i))[j]? = some v → W.cell? (a.add (i * m + j)) = some v := by
      classical
      refine ⟨fun i => if h : i < n then (each i h).choose else d, fun i hi => ?_⟩
      simp only [dif_pos hi]
      exact (each i hi).choose_spec
    refine ⟨⟨(fun h => by cases h), hl⟩, (List.range n).map f, by simp, fun z hz => ?_, fun hn => ?_⟩
    · obtain ⟨i, hi, rfl⟩ := List.mem_map.1 hz
      exact (hf i (List.mem_range.1 hi)).1
    · obtain ⟨b, o, spot⟩ := a
      obtain ⟨v0, hv0⟩ : ∃ v0, (cells (f 0))[0]? = some v0 := ⟨_, List.getElem?_eq_getElem (by rw [hcl]; exact hm0)⟩
      have h0 := (hf 0 (by omega)).2 0 v0 hv0
      have hspot : spot = none := by simpa [Addr.add] using World.cell?_spot h0
      subst hspot
      have hlt := World.block_lt_of_cell? W _ h0
      refine ⟨b, o, rfl, by simpa [Addr.add] using hlt, fun k z hk j v hj => ?_⟩
      have hkn : k < n := by have := (List.getElem?_eq_some_iff.1 hk).1; simpa using this
      have e : z = f k := by simpa [hkn] using hk.symm
      subst e
      have h2 := (hf k hkn).2 j v hj
      rw [Nat.add_assoc]
      rwa [Go.WideShapes.add_plain] at h2
theorem users_of_trod {H : Type} {enc : TypeId × Value → H} {W : World} {fuel : Nat} {A : Option Addr} {n c : Nat} {x : DataW H × List MemPlace}
    (h : DataW.trod enc Try.prog W 0 (fun _ => true) true fuel 22 [.slice A n c] = some x) : ∃ us : List Us, (n ≤ 60 → UsersR W A n us) ∧ (A = none → n = 0 ∧ c = 0) ∧ n ≤ c := by
  obtain ⟨h0, us, h1, h2, h3⟩ := rows_of_trod (m := 3) Us.cells (fun z => U z.s) ⟨⟨#[]⟩, 0, 0⟩ Try.underlying22 cellsUser (by decide) (fun _ => rfl) user_of_trod h
  exact ⟨us, fun h60 => ⟨h1, by omega, h2, h3⟩, h0⟩
theorem grants_of_trod {H : Type} {enc : TypeId × Value → H} {W : World} {fuel : Nat} {A : Option Addr} {n c : Nat} {x : DataW H × List MemPlace}
    (h : DataW.trod enc Try.prog W 0 (fun _ => true) true fuel 42 [.slice A n c] = some x) : ∃ gs : List Gr, (n ≤ 60 → GrantsR W A n gs) ∧ (A = none → n = 0 ∧ c = 0) ∧ n ≤ c := by
  obtain ⟨h0, gs, h1, h2, h3⟩ := rows_of_trod (m := 5) Gr.cells (fun z => U z.s ∧ U z.r) ⟨⟨#[]⟩, 0, 0, 0, 0⟩ Try.underlying42 cellsGrant (by decide) (fun _ => rfl) grant_of_trod h
  exact ⟨gs, fun h60 => ⟨h1, by omega, h2, h3⟩, h0⟩
end Go.Proofs.Yteolenhgaekihaa.Right
