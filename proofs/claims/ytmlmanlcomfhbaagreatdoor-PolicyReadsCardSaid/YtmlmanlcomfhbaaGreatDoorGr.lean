/- From a walk that returns true and leaves old memory as it was to a law's own post, whatever the arguments' types.
   Zones among the arguments: a slice that reads as data reads as a list of zones; a zone by value is six cells.
   Users and grants among the arguments: slices that read as data read as lists.
   A policy among the arguments, by value: two numbers and three slices, which read as lists of zones, users and grants. -/
import Derived.WalkKit
import Derived.ProofKit
import Derived.OpenShut
import Derived.Carry
import Derived.Deep.Slices
import Derived.Deep.Strs
import Derived.Test.YtmlmanlcomfhbaaGreatDoorGa
import Derived.Test.YtmlmanlcomfhbaaGreatDoorRows
namespace Go.Proofs.YtmlmanlcomfhbaaGreatDoor.Frame
open Go.ChangeShapes Go.WideShapes Go.ChangeAt Go.RowKit

theorem laidOut : laidOutB Tryz.prog = true := by kernel_rfl
/-- arguments read behind the call as they read before -/
theorem trodAll_stays {H : Type} {enc : TypeId × Value → H} {W W' : World} (hb : Below W.heap.size W W') {sp : Nat → Bool} : ∀ {ts : List TypeId} {vs : List Value} {ds : List (DataW H)} {ps : List MemPlace},
    (∀ t ∈ ts, Tryz.prog.readableRec t = true ∧ t < Tryz.prog.types.size) → (∀ p ∈ ps, p.block < W.heap.size) → (∀ p ∈ ps, sp p.block = true) →
    DataW.TrodAll enc Tryz.prog W 0 (fun _ => true) true ts vs ds ps → DataW.TrodAll enc Tryz.prog W' 0 sp true ts vs ds ps
  | [], [], [], _, _, _, _, h => h
  | t :: ts, v :: vs, d :: ds, ps, ht, hl, hs, h => by
    obtain ⟨p, q, h1, h2, rfl⟩ := h
    refine ⟨p, q, ?_, trodAll_stays hb (fun t h => ht t (by simp [h])) (fun x hx => hl x (by simp [hx])) (fun x hx => hs x (by simp [hx])) h2, rfl⟩
    exact WideElems.Trod_stays laidOut (ht t (by simp)).1 (ht t (by simp)).2 h1 (fun x hx => hb.same (hl x (by simp [hx]))) (fun x hx => hs x (by simp [hx]))
  | [], [], _ :: _, _, _, _, _, h => h.elim
  | [], _ :: _, _, _, _, _, _, h => h.elim
  | _ :: _, [], _, _, _, _, _, h => h.elim
  | _ :: _, _ :: _, [], _, _, _, _, h => h.elim

/-- the law's post -/
theorem law_post {H : Type} {enc : TypeId × Value → H} {f : Func} {s : ChangeSpec} {W W' : World} {args : Array Value} {ds gs : List (DataW H)} {before : List MemPlace}
    (hW : DataW.Whole enc Tryz.prog f.params.toList s.vars false W args.toList ds gs before) (hvars : s.vars = []) (hres : f.resultTypes = #[4])
    (hty : ∀ t ∈ f.params.toList, Tryz.prog.readableRec t = true ∧ t < Tryz.prog.types.size)
    (hs : s.fn H (ds ++ gs) = { results := [.lit (.bool true)], args := ds }) (hb : Below W.heap.size W W') :
    s.post enc Tryz.prog f false true false false W args (.bool true) W' := by
  have hlt : ∀ p ∈ before, p.block < W.heap.size := fun p hp => hW.lt p hp
  have hW2 := hW
  obtain ⟨p, q, hA, hV, rfl, hfz, hnd⟩ := hW
  rw [hvars] at hV
  obtain ⟨rfl, rfl⟩ := trodVars_none hV
  rw [List.append_nil] at hlt
  have hin : ∀ (sp : Nat → Bool), (∀ x ∈ p, sp x.block = true) → DataW.TrodAll enc Tryz.prog W' 0 sp true f.params.toList args.toList ds p := fun sp hsp => trodAll_stays hb hty hlt hsp hA
  have hr : ∀ (b : Nat) (sp : Nat → Bool) (hd : Bool), DataW.TrodAll enc Tryz.prog W' b sp hd f.resultTypes.toList ((Value.bool true).resultList f.resultTypes.size) [.lit (.bool true)] [] := by
    intro b sp hd
    rw [hres]
    exact trodAll_cons_mk (shut_bool Tryz.underlying4 _) trodAll_mk0
  have hv : ∀ (sp : Nat → Bool), DataW.TrodVars enc Tryz.prog W' sp s.vars (s.fn H (ds ++ [])).vars [] := by
    intro sp
    rw [hvars, hs]
    rfl
  refine ⟨ds, [], p ++ [], [], p, [], hW2, ?_, ?_, hv _, World.keptBut_mono (fun x hx => ⟨hx, ?_⟩) (hb.frame (· ∈ p ++ [])), fun h => by cases h⟩
  · rw [hs]; exact hr _ _ _
  · rw [hs]; exact hin _ fun x hx => by simpa using hlt x hx
  · exact Or.inr (by simpa using hx)
end Go.Proofs.YtmlmanlcomfhbaaGreatDoor.Frame
namespace Go.Proofs.YtmlmanlcomfhbaaGreatDoor.Zone
open Go Go.ChangeShapes Go.WideShapes Go.RowKit Go.Deep Go.WideElems
open Go.Proofs.YtmlmanlcomfhbaaGreatDoor.Cats (U)

theorem cellsZone : Tryz.prog.cellsOf 72 = 6 := by kernel_rfl
theorem cellsSpan : Tryz.prog.cellsOf 67 = 4 := by kernel_rfl
theorem cellsCell : Tryz.prog.cellsOf 28 = 2 := by kernel_rfl
theorem cellsLabel : Tryz.prog.cellsOf 70 = 2 := by kernel_rfl
theorem cellsInt : Tryz.prog.cellsOf 3 = 1 := by kernel_rfl
theorem cellsU64 : Tryz.prog.cellsOf 68 = 1 := by kernel_rfl
theorem list6 {α : Type} : ∀ {cs : List α}, cs.length = 6 → ∃ a b c d e f, cs = [a, b, c, d, e, f]
  | [a, b, c, d, e, f], _ => ⟨a, b, c, d, e, f, rfl⟩
section
variable {H : Type} {enc : TypeId × Value → H} {w : World} {base : Nat} {spare : Nat → Bool} {held : Bool}
set_option maxRecDepth 100000 in
theorem int_cell {n : Nat} {v : Value} {x : DataW H × List MemPlace} (h : DataW.trod enc Tryz.prog w base spare held n 3 [v] = some x) : ∃ a : Int, v = .int .i64 a := by
  obtain ⟨a, e, _, _⟩ := DataW.trod_int Tryz.underlying3 h
  exact ⟨a, by simpa using e⟩
set_option maxRecDepth 100000 in
theorem u64_cell {n : Nat} {v : Value} {x : DataW H × List MemPlace} (h : DataW.trod enc Tryz.prog w base spare held n 68 [v] = some x) : ∃ s : Nat, v = .int .u64 s ∧ U s := by
  obtain ⟨a, e, _, hw⟩ := DataW.trod_int Tryz.underlying68 h
  simp only [Lit.wf, Bool.and_eq_true, decide_eq_true_eq] at hw
  obtain ⟨s, rfl⟩ := Int.eq_ofNat_of_zero_le (show 0 ≤ a by have := hw.1; simpa [IntKind.min, IntKind.signed] using this)
  exact ⟨s, by simpa using e, by have := hw.2; simp [IntKind.max, IntKind.signed, IntKind.bits] at this; unfold U; omega⟩
set_option maxRecDepth 100000 in
theorem cell_of_trod {n : Nat} {a b : Value} {x : DataW H × List MemPlace} (h : DataW.trod enc Tryz.prog w base spare held n 28 [a, b] = some x) : ∃ p q : Int, a = .int .i64 p ∧ b = .int .i64 q := by
  obtain ⟨y0, y1, m, _, _, h0, h1⟩ := trod_struct2 Tryz.underlying28 h
  obtain ⟨p, hp⟩ := int_cell h0
  obtain ⟨q, hq⟩ := int_cell h1
  exact ⟨p, q, hp, hq⟩
set_option maxRecDepth 100000 in
theorem zone_of_trod {n : Nat} {cs : List Value} {x : DataW H × List MemPlace} (h : DataW.trod enc Tryz.prog w base spare held n 72 cs = some x) : ∃ z : Zn, cs = z.cells ∧ U z.s := by
  obtain ⟨y0, y1, m, _, hl, h0, h1⟩ := trod_struct2 Tryz.underlying72 h
  rw [cellsZone] at hl
  obtain ⟨a, b, c, d, e, f, rfl⟩ := list6 hl
  obtain ⟨u0, u1, m0, _, _, k0, k1⟩ := trod_struct2 Tryz.underlying67 h0
  obtain ⟨u2, u3, m1, _, _, k2, k3⟩ := trod_struct2 Tryz.underlying70 h1
  obtain ⟨p, q, rfl, rfl⟩ := cell_of_trod k0
  obtain ⟨r, t, rfl, rfl⟩ := cell_of_trod k1
  obtain ⟨l, rfl⟩ := int_cell k2
  obtain ⟨s, rfl, hs⟩ := u64_cell k3
  exact ⟨⟨p, q, r, t, l, s⟩, rfl, hs⟩
end
set_option maxRecDepth 100000 in
theorem zones_of_trod {H : Type} {enc : TypeId × Value → H} {W : World} {fuel : Nat} {A : Option Addr} {n c : Nat} {x : DataW H × List MemPlace}
    (h : DataW.trod enc Tryz.prog W 0 (fun _ => true) true fuel 22 [.slice A n c] = some x) : ∃ zs : List Zn, (n ≤ 60 → ZonesR W A n zs) ∧ (A = none → c = 0) := by
  rcases open_slice Tryz.underlying22 h with ⟨hcs, _⟩ | ⟨a, len, cap, m, k, D, Pl, hcs, _, hl, hm, hz, _, hcell⟩
  · simp only [List.cons.injEq, and_true, Value.slice.injEq] at hcs
    obtain ⟨rfl, rfl, rfl⟩ := hcs
    exact ⟨[], fun _ => ⟨rfl, by omega, (fun z hz => by cases hz), fun h => absurd rfl h⟩, fun _ => rfl⟩
  · simp only [List.cons.injEq, and_true, Value.slice.injEq] at hcs
    obtain ⟨rfl, rfl, rfl⟩ := hcs
    simp only [if_true] at hz
    subst hz
    have each : ∀ i, i < n → ∃ z : Zn, U z.s ∧ ∀ j v, z.cells[j]? = some v → W.cell? (a.add (i * 6 + j)) = some v := by
      intro i hi
      obtain ⟨cs, h1, h2⟩ := hcell i (by omega)
      rw [cellsZone] at h1
      obtain ⟨_, h3, h4⟩ := World.cells?_some h1
      obtain ⟨z, rfl, hu⟩ := zone_of_trod h2
      refine ⟨z, hu, fun j v hj => ?_⟩
      have hj6 : j < 6 := (List.getElem?_eq_some_iff.1 hj).1
      rw [← Deep.add_add, h4 j hj6]
      exact hj
    obtain ⟨f, hf⟩ : ∃ f : Nat → Zn, ∀ i, i < n → U (f i).s ∧ ∀ j v, (f i).cells[j]? = some v → W.cell? (a.add (i * 6 + j)) = some v := by
      refine ⟨fun i => if h : i < n then (each i h).choose else ⟨0, 0, 0, 0, 0, 0⟩, fun i hi => ?_⟩
      simp only [dif_pos hi]
      exact (each i hi).choose_spec
    refine ⟨(List.range n).map f, fun h60 => ⟨by simp, by omega, fun z hz => ?_, fun hn => ?_⟩, fun h => by cases h⟩
    · obtain ⟨i, hi, rfl⟩ := List.mem_map.1 hz
      exact (hf i (List.mem_range.1 hi)).1
    · obtain ⟨b, o, spot⟩ := a
      have h0 := (hf 0 (by omega)).2 0 _ rfl
      have hspot : spot = none := by simpa [Addr.add] using World.cell?_spot h0
      subst hspot
      have hlt := World.block_lt_of_cell? W _ h0
      refine ⟨b, o, rfl, by simpa [Addr.add] using hlt, fun k z hk j v hj => ?_⟩
      have hkn : k < n := by have := (List.getElem?_eq_some_iff.1 hk).1; simpa using this
      have e : z = f k := by simpa [hkn] using hk.symm
      subst e
      have h2 := (hf k hkn).2 j v hj
      rw [Nat.add_assoc]
      rwa [Go.WideShapes.add_plain] at h2
end Go.Proofs.YtmlmanlcomfhbaaGreatDoor.Zone
namespace Go.Proofs.YtmlmanlcomfhbaaGreatDoor.Right
open Go Go.ChangeShapes Go.WideShapes Go.RowKit Go.Deep Go.WideElems
open Go.Proofs.YtmlmanlcomfhbaaGreatDoor.Cats (U)

theorem cellsUser : Tryz.prog.cellsOf 76 = 3 := by kernel_rfl
theorem cellsGrant : Tryz.prog.cellsOf 78 = 5 := by kernel_rfl
theorem list3 {α : Type} : ∀ {cs : List α}, cs.length = 3 → ∃ a b c, cs = [a, b, c]
  | [a, b, c], _ => ⟨a, b, c, rfl⟩
theorem list5 {α : Type} : ∀ {cs : List α}, cs.length = 5 → ∃ a b c d e, cs = [a, b, c, d, e]
  | [a, b, c, d, e], _ => ⟨a, b, c, d, e, rfl⟩
section
variable {H : Type} {enc : TypeId × Value → H} {w : World} {base : Nat} {spare : Nat → Bool} {held : Bool}
set_option maxRecDepth 100000 in
theorem int_cell {n : Nat} {v : Value} {x : DataW H × List MemPlace} (h : DataW.trod enc Tryz.prog w base spare held n 3 [v] = some x) : ∃ a : Int, v = .int .i64 a := by
  obtain ⟨a, e, _, _⟩ := DataW.trod_int Tryz.underlying3 h
  exact ⟨a, by simpa using e⟩
set_option maxRecDepth 100000 in
theorem u64_cell {n : Nat} {v : Value} {x : DataW H × List MemPlace} (h : DataW.trod enc Tryz.prog w base spare held n 68 [v] = some x) : ∃ s : Nat, v = .int .u64 s ∧ U s := by
  obtain ⟨a, e, _, hw⟩ := DataW.trod_int Tryz.underlying68 h
  simp only [Lit.wf, Bool.and_eq_true, decide_eq_true_eq] at hw
  obtain ⟨s, rfl⟩ := Int.eq_ofNat_of_zero_le (show 0 ≤ a by have := hw.1; simpa [IntKind.min, IntKind.signed] using this)
  exact ⟨s, by simpa using e, by have := hw.2; simp [IntKind.max, IntKind.signed, IntKind.bits] at this; unfold U; omega⟩
set_option maxRecDepth 100000 in
theorem str_cell {n : Nat} {v : Value} {x : DataW H × List MemPlace} (h : DataW.trod enc Tryz.prog w base spare held n 9 [v] = some x) : ∃ s : ByteArray, v = .string s := by
  obtain ⟨s, e, _, _⟩ := DataW.trod_string Tryz.underlying9 h
  exact ⟨s, by simpa using e⟩
set_option maxRecDepth 100000 in
theorem label_of_trod {n : Nat} {a b : Value} {x : DataW H × List MemPlace} (h : DataW.trod enc Tryz.prog w base spare held n 70 [a, b] = some x) : ∃ (l : Int) (s : Nat), a = .int .i64 l ∧ b = .int .u64 s ∧ U s := by
  obtain ⟨y0, y1, m, _, _, h0, h1⟩ := trod_struct2 Tryz.underlying70 h
  obtain ⟨l, rfl⟩ := int_cell h0
  obtain ⟨s, rfl, hs⟩ := u64_cell h1
  exact ⟨l, s, rfl, rfl, hs⟩
set_option maxRecDepth 100000 in
theorem user_of_trod {n : Nat} {cs : List Value} {x : DataW H × List MemPlace} (h : DataW.trod enc Tryz.prog w base spare held n 76 cs = some x) : ∃ z : Us, cs = z.cells ∧ U z.s := by
  obtain ⟨y0, y1, m, _, hl, h0, h1⟩ := trod_struct2 Tryz.underlying76 h
  rw [cellsUser] at hl
  obtain ⟨a, b, c, rfl⟩ := list3 hl
  obtain ⟨t, rfl⟩ := str_cell h0
  obtain ⟨l, s, rfl, rfl, hs⟩ := label_of_trod h1
  exact ⟨⟨t, l, s⟩, rfl, hs⟩
set_option maxRecDepth 100000 in
theorem grant_of_trod {n : Nat} {cs : List Value} {x : DataW H × List MemPlace} (h : DataW.trod enc Tryz.prog w base spare held n 78 cs = some x) : ∃ z : Gr, cs = z.cells ∧ U z.s ∧ U z.r := by
  obtain ⟨y0, y1, y2, m, _, hl, h0, h1, h2⟩ := trod_struct3 Tryz.underlying78 h
  rw [cellsGrant] at hl
  obtain ⟨a, b, c, d, e, rfl⟩ := list5 hl
  obtain ⟨t, rfl⟩ := str_cell h0
  obtain ⟨l, s, rfl, rfl, hs⟩ := label_of_trod h1
  obtain ⟨k, r, rfl, rfl, hr⟩ := label_of_trod h2
  exact ⟨⟨t, l, s, k, r⟩, rfl, hs, hr⟩
end
/-- any slice whose elements are so many cells -/
theorem rows_of_trod {H : Type} {enc : TypeId × Value → H} {W : World} {fuel : Nat} {A : Option Addr} {n c m : Nat} {x : DataW H × List MemPlace} {ts te : TypeId} {α : Type} (cells : α → List Value) (ok : α → Prop) (d : α)
    (hs : Tryz.prog.underlying ts = some (.slice te)) (hm : Tryz.prog.cellsOf te = m) (hm0 : 0 < m) (hcl : ∀ z, (cells z).length = m)
    (hz : ∀ {k : Nat} {cs : List Value} {y : DataW H × List MemPlace}, DataW.trod enc Tryz.prog W 0 (fun _ => true) true k te cs = some y → ∃ z : α, cs = cells z ∧ ok z)
    (h : DataW.trod enc Tryz.prog W 0 (fun _ => true) true fuel ts [.slice A n c] = some x) :
    ((A = none → n = 0 ∧ c = 0) ∧ n ≤ c) ∧ ∃ zs : List α, zs.length = n ∧ (∀ z ∈ zs, ok z) ∧ (n ≠ 0 → ∃ b o, A = some ⟨b, o, none⟩ ∧ b < W.heap.size ∧ ∀ k z, zs[k]? = some z → ∀ j v, (cells z)[j]? = some v → W.cell? ⟨b, o + k * m + j, none⟩ = some v) := by
  rcases open_slice hs h with ⟨hcs, _⟩ | ⟨a, len, cap, q, k, D, Pl, hcs, _, hl, hmx, hq, _, hcell⟩
  · simp only [List.cons.injEq, and_true, Value.slice.injEq] at hcs
    obtain ⟨rfl, rfl, rfl⟩ := hcs
    exact ⟨⟨fun _ => ⟨rfl, rfl⟩, Nat.le_refl _⟩, [], rfl, (fun z hz => by cases hz), fun h => absurd rfl h⟩
  · simp only [List.cons.injEq, and_true, Value.slice.injEq] at hcs
    obtain ⟨rfl, rfl, rfl⟩ := hcs
    simp only [if_true] at hq
    subst hq
    have each : ∀ i, i < n → ∃ z : α, ok z ∧ ∀ j v, (cells z)[j]? = some v → W.cell? (a.add (i * m + j)) = some v := by
      intro i hi
      obtain ⟨cs, h1, h2⟩ := hcell i (by omega)
      rw [hm] at h1
      obtain ⟨_, h3, h4⟩ := World.cells?_some h1
      obtain ⟨z, rfl, hu⟩ := hz h2
      refine ⟨z, hu, fun j v hj => ?_⟩
      have hjm : j < m := by have := (List.getElem?_eq_some_iff.1 hj).1; rwa [hcl] at this
      rw [← Deep.add_add, h4 j hjm]
      exact hj
    obtain ⟨f, hf⟩ : ∃ f : Nat → α, ∀ i, i < n → ok (f i) ∧ ∀ j v, (cells (f i))[j]? = some v → W.cell? (a.add (i * m + j)) = some v := by
      classical
      refine ⟨fun i => if h : i < n then (each i h).choose else d, fun i hi => ?_⟩
      simp only [dif_pos hi]
      exact (each i hi).choose_spec
    refine ⟨⟨(fun h => by cases h), hl⟩, (List.range n).map f, by simp, fun z hz => ?_, fun hn => ?_⟩
    · obtain ⟨i, hi, rfl⟩ := List.mem_map.1 hz
      exact (hf i (List.mem_range.1 hi)).1
    · obtain ⟨b, o, spot⟩ := a
      obtain ⟨v0, hv0⟩ : ∃ v0, (cells (f 0))[0]? = some v0 := ⟨_, List.getElem?_eq_getElem (by rw [hcl]; exact hm0)⟩
      have h0 := (hf 0 (by omega)).2 0 v0 hv0
      have hspot : spot = none := by simpa [Addr.add] using World.cell?_spot h0
      subst hspot
      have hlt := World.block_lt_of_cell? W _ h0
      refine ⟨b, o, rfl, by simpa [Addr.add] using hlt, fun k z hk j v hj => ?_⟩
      have hkn : k < n := by have := (List.getElem?_eq_some_iff.1 hk).1; simpa using this
      have e : z = f k := by simpa [hkn] using hk.symm
      subst e
      have h2 := (hf k hkn).2 j v hj
      rw [Nat.add_assoc]
      rwa [Go.WideShapes.add_plain] at h2
set_option maxRecDepth 100000 in
theorem users_of_trod {H : Type} {enc : TypeId × Value → H} {W : World} {fuel : Nat} {A : Option Addr} {n c : Nat} {x : DataW H × List MemPlace}
    (h : DataW.trod enc Tryz.prog W 0 (fun _ => true) true fuel 23 [.slice A n c] = some x) : ∃ us : List Us, (n ≤ 60 → UsersR W A n us) ∧ (A = none → n = 0 ∧ c = 0) ∧ n ≤ c := by
  obtain ⟨h0, us, h1, h2, h3⟩ := rows_of_trod (m := 3) Us.cells (fun z => U z.s) ⟨⟨#[]⟩, 0, 0⟩ Tryz.underlying23 cellsUser (by decide) (fun _ => rfl) user_of_trod h
  exact ⟨us, fun h60 => ⟨h1, by omega, h2, h3⟩, h0⟩
set_option maxRecDepth 100000 in
theorem grants_of_trod {H : Type} {enc : TypeId × Value → H} {W : World} {fuel : Nat} {A : Option Addr} {n c : Nat} {x : DataW H × List MemPlace}
    (h : DataW.trod enc Tryz.prog W 0 (fun _ => true) true fuel 24 [.slice A n c] = some x) : ∃ gs : List Gr, (n ≤ 60 → GrantsR W A n gs) ∧ (A = none → n = 0 ∧ c = 0) ∧ n ≤ c := by
  obtain ⟨h0, gs, h1, h2, h3⟩ := rows_of_trod (m := 5) Gr.cells (fun z => U z.s ∧ U z.r) ⟨⟨#[]⟩, 0, 0, 0, 0⟩ Tryz.underlying24 cellsGrant (by decide) (fun _ => rfl) grant_of_trod h
  exact ⟨gs, fun h60 => ⟨h1, by omega, h2, h3⟩, h0⟩
end Go.Proofs.YtmlmanlcomfhbaaGreatDoor.Right
namespace Go.Proofs.YtmlmanlcomfhbaaGreatDoor.Pol
open Go Go.ChangeShapes Go.WideShapes Go.RowKit Go.Deep Go.WideElems
open Go.Proofs.YtmlmanlcomfhbaaGreatDoor.Zone (Zn ZonesR)
open Go.Proofs.YtmlmanlcomfhbaaGreatDoor.Right (Us Gr UsersR GrantsR)

theorem cellsPol : Tryz.prog.cellsOf 26 = 5 := by kernel_rfl
theorem cellsZs : Tryz.prog.cellsOf 22 = 1 := by kernel_rfl
theorem cellsUs : Tryz.prog.cellsOf 23 = 1 := by kernel_rfl
theorem cellsGs : Tryz.prog.cellsOf 24 = 1 := by kernel_rfl
theorem cellsI : Tryz.prog.cellsOf 3 = 1 := by kernel_rfl
variable {H : Type} {enc : TypeId × Value → H} {P : Program}
theorem trod_struct5 {w : World} {base : Nat} {spare : Nat → Bool} {held : Bool} {t : TypeId} {f0 f1 f2 f3 f4 : Field} {fuel : Nat} {cs : List Value} {x : DataW H × List MemPlace} (ht : P.underlying t = some (.struct #[f0, f1, f2, f3, f4])) (h : DataW.trod enc P w base spare held fuel t cs = some x) :
    ∃ y0 y1 y2 y3 y4 n, cs.length = P.cellsOf t ∧ DataW.trod enc P w base spare held n f0.type ((cs.drop f0.offset).take (P.cellsOf f0.type)) = some y0 ∧
      DataW.trod enc P w base spare held n f1.type ((cs.drop f1.offset).take (P.cellsOf f1.type)) = some y1 ∧ DataW.trod enc P w base spare held n f2.type ((cs.drop f2.offset).take (P.cellsOf f2.type)) = some y2 ∧
      DataW.trod enc P w base spare held n f3.type ((cs.drop f3.offset).take (P.cellsOf f3.type)) = some y3 ∧ DataW.trod enc P w base spare held n f4.type ((cs.drop f4.offset).take (P.cellsOf f4.type)) = some y4 := by
  obtain ⟨xs, n, _, _, hl, hlen, hf⟩ := DataW.trod_struct ht h
  match xs, hlen with
  | [y0, y1, y2, y3, y4], _ => exact ⟨y0, y1, y2, y3, y4, n, hl, by simpa using hf 0 f0 rfl, by simpa using hf 1 f1 rfl, by simpa using hf 2 f2 rfl, by simpa using hf 3 f3 rfl, by simpa using hf 4 f4 rfl⟩
theorem slice_cell {W : World} {ts te : TypeId} {fuel : Nat} {v : Value} {x : DataW H × List MemPlace} (hs : P.underlying ts = some (.slice te)) (h : DataW.trod enc P W 0 (fun _ => true) true fuel ts [v] = some x) : ∃ A n c, v = .slice A n c := by
  rcases open_slice hs h with ⟨hcs, _⟩ | ⟨a, len, cap, q, k, D, Pl, hcs, _⟩
  · simp only [List.cons.injEq, and_true] at hcs
    exact ⟨_, _, _, hcs⟩
  · simp only [List.cons.injEq, and_true] at hcs
    exact ⟨_, _, _, hcs⟩
set_option maxRecDepth 100000 in
theorem policy_of_trod {W : World} {fuel : Nat} {cs : List Value} {x : DataW H × List MemPlace} (h : DataW.trod enc Tryz.prog W 0 (fun _ => true) true fuel 26 cs = some x) :
    ∃ (r c : Int) (A1 : Option Addr) (n1 c1 : Nat) (zs : List Zn) (A2 : Option Addr) (n2 c2 : Nat) (us : List Us) (A3 : Option Addr) (n3 c3 : Nat) (gs : List Gr),
      cs = [.int .i64 r, .int .i64 c, .slice A1 n1 c1, .slice A2 n2 c2, .slice A3 n3 c3] ∧ n2 ≤ c2 ∧ (n1 ≤ 60 → ZonesR W A1 n1 zs) ∧ (n2 ≤ 60 → UsersR W A2 n2 us) ∧ (n3 ≤ 60 → GrantsR W A3 n3 gs) := by
  obtain ⟨y0, y1, y2, y3, y4, n, hl, h0, h1, h2, h3, h4⟩ := trod_struct5 Tryz.underlying26 h
  rw [cellsPol] at hl
  obtain ⟨a, b, u, v, z, rfl⟩ := Right.list5 hl
  simp only [cellsZs, cellsUs, cellsGs, cellsI, List.drop_zero, List.drop_succ_cons, List.take_succ_cons, List.take_zero] at h0 h1 h2 h3 h4
  obtain ⟨r, rfl⟩ := Right.int_cell h0
  obtain ⟨c, rfl⟩ := Right.int_cell h1
  obtain ⟨A1, n1, c1, rfl⟩ := slice_cell Tryz.underlying22 h2
  obtain ⟨A2, n2, c2, rfl⟩ := slice_cell Tryz.underlying23 h3
  obtain ⟨A3, n3, c3, rfl⟩ := slice_cell Tryz.underlying24 h4
  obtain ⟨zs, hz, _⟩ := Zone.zones_of_trod h2
  obtain ⟨us, hu, _, hc⟩ := Right.users_of_trod h3
  obtain ⟨gs, hg, _, _⟩ := Right.grants_of_trod h4
  exact ⟨r, c, A1, n1, c1, zs, A2, n2, c2, us, A3, n3, c3, gs, rfl, hc, hz, hu, hg⟩
end Go.Proofs.YtmlmanlcomfhbaaGreatDoor.Pol
