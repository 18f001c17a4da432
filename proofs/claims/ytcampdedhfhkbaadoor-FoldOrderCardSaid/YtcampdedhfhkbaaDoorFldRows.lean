/- Slices that read as values, as numbers, and as texts; rows of one's own of them. No function of the program is named here. -/
import Derived.Test.YtcampdedhfhkbaaDoorFldMath
import Derived.Test.YtcampdedhfhkbaaDoorTxtJoin
import Derived.Test.YtcampdedhfhkbaaDoorOwnRows
namespace Go.Proofs.YtcampdedhfhkbaaDoor.Fld
open Go.RowKit Kit Reg Dec Dig Val Txt

/-- a slice, nil too, that reads as a list of values -/
def ValsR (w : World) (A : Option Addr) (n : Nat) (L : List Vl) : Prop :=
  L.length = n ∧ n ≤ 1000 ∧ (∀ v ∈ L, v.fits) ∧ (n ≠ 0 → ∃ b o, A = some ⟨b, o, none⟩ ∧ b < w.heap.size ∧ ∀ k v, L[k]? = some v → ∀ j x, v.cells[j]? = some x → w.cell? ⟨b, o + k * 3 + j, none⟩ = some x)
theorem ValsR.on {w w' : World} {A : Option Addr} {n : Nat} {L : List Vl} (h : ValsR w A n L) (hb : Below w.heap.size w w') : ValsR w' A n L := by
  obtain ⟨h1, h2, hu, h3⟩ := h
  refine ⟨h1, h2, hu, fun hn => ?_⟩
  obtain ⟨b, o, rfl, hlt, hc⟩ := h3 hn
  exact ⟨b, o, rfl, Nat.lt_of_lt_of_le hlt hb.size, fun k v hk j x hj => (hb.cell (p := ⟨b, o + k * 3 + j, none⟩) hlt).trans (hc k v hk j x hj)⟩
/-- the value at a place: its three cells -/
theorem ValsR.at {w : World} {A : Option Addr} {n : Nat} {L : List Vl} (h : ValsR w A n L) {k : Nat} {v : Vl} (hk : L[k]? = some v) : ∃ b o, A = some ⟨b, o, none⟩ ∧ b < w.heap.size ∧
    w.cell? ⟨b, o + k * 3, none⟩ = some (.int .i64 v.k) ∧ w.cell? ⟨b, o + k * 3 + 1, none⟩ = some (.int .i64 v.n) ∧ w.cell? ⟨b, o + k * 3 + 2, none⟩ = some (.string v.t) := by
  obtain ⟨h1, _, _, h3⟩ := h
  have hlt := (List.getElem?_eq_some_iff.1 hk).1
  obtain ⟨b, o, e, hb, hc⟩ := h3 (by omega)
  exact ⟨b, o, e, hb, hc k v hk 0 _ rfl, hc k v hk 1 _ rfl, hc k v hk 2 _ rfl⟩
theorem ValsR.get {w : World} {A : Option Addr} {n : Nat} {L : List Vl} (h : ValsR w A n L) {k : Nat} (hk : k < n) : ∃ v, L[k]? = some v := ⟨_, List.getElem?_eq_getElem (by rw [h.1]; exact hk)⟩
/-- a slice that reads as numbers -/
def IntsR (w : World) (A : Option Addr) (xs : List Int) : Prop := xs = [] ∨ ∃ g o, A = some ⟨g, o, none⟩ ∧ g < w.heap.size ∧ ∀ i n, xs[i]? = some n → w.cell? ⟨g, o + i, none⟩ = some (.int .i64 n)
theorem IntsR.on {w w' : World} {A : Option Addr} {xs : List Int} (h : IntsR w A xs) (hb : Below w.heap.size w w') : IntsR w' A xs := by
  rcases h with h | ⟨g, o, hA, hg, h⟩
  · exact .inl h
  · exact .inr ⟨g, o, hA, Nat.lt_of_lt_of_le hg hb.size, fun i c hc => (hb.cell (p := ⟨g, o + i, none⟩) hg).trans (h i c hc)⟩
theorem IntsR.at {w : World} {A : Option Addr} {xs : List Int} (h : IntsR w A xs) {k : Nat} {x : Int} (hk : xs[k]? = some x) : ∃ g o, A = some ⟨g, o, none⟩ ∧ g < w.heap.size ∧ w.cell? ⟨g, o + k, none⟩ = some (.int .i64 x) := by
  rcases h with h | ⟨g, o, hA, hg, h⟩
  · rw [h] at hk; simp at hk
  · exact ⟨g, o, hA, hg, h k x hk⟩
/-- rows of one's own: of numbers -/
def OwnI (B : Nat) (v : Value) (xs : List Int) (w : World) : Prop := w.ownsRow B 2 1 v xs.length (xs.map (Value.int .i64))
theorem OwnI.on {B : Nat} {w w' : World} {v : Value} {xs : List Int} (h : OwnI B v xs w) (hb : Below w.heap.size w w') : OwnI B v xs w' := own_on h hb
theorem OwnI.reads {B : Nat} {v : Value} {xs : List Int} {w : World} (h : OwnI B v xs w) : ∃ A cap, v = .slice A xs.length cap ∧ IntsR w A xs := by
  have h0 := h
  rcases h.2 with ⟨rfl, h1⟩ | ⟨g, cap, cur, rfl, hb, hg, hrest⟩
  · exact ⟨_, _, by rw [h1], .inl (List.eq_nil_of_length_eq_zero h1)⟩
  · refine ⟨_, _, rfl, .inr ⟨g, 0, rfl, (Array.getElem?_eq_some_iff.1 hg).1, fun i n hi => ?_⟩⟩
    have hl := (List.getElem?_eq_some_iff.1 hi).1
    have e := World.ownsRow.cellAt h0 i (by omega)
    rw [Nat.zero_add, e, List.getElem?_map, hi]
    rfl
/-- .. of texts -/
def OwnT (B : Nat) (v : Value) (ls : List (List UInt8)) (w : World) : Prop := w.ownsRow B 9 1 v ls.length (ls.map fun l => Value.string ⟨l.toArray⟩)
theorem OwnT.on {B : Nat} {w w' : World} {v : Value} {xs : List (List UInt8)} (h : OwnT B v xs w) (hb : Below w.heap.size w w') : OwnT B v xs w' := own_on h hb
theorem OwnT.reads {B : Nat} {v : Value} {xs : List (List UInt8)} {w : World} (h : OwnT B v xs w) : ∃ A cap, v = .slice A xs.length cap ∧ StrsO w A xs := by
  have h0 := h
  rcases h.2 with ⟨rfl, h1⟩ | ⟨g, cap, cur, rfl, hb, hg, hrest⟩
  · exact ⟨_, _, by rw [h1], .inl (List.eq_nil_of_length_eq_zero h1)⟩
  · refine ⟨_, _, rfl, .inr ⟨g, 0, rfl, (Array.getElem?_eq_some_iff.1 hg).1, fun i n hi => ?_⟩⟩
    have hl := (List.getElem?_eq_some_iff.1 hi).1
    have e := World.ownsRow.cellAt h0 i (by omega)
    rw [Nat.zero_add, e, List.getElem?_map, hi]
    rfl
/-- .. of values -/
def flatV : List Vl → List Value
  | [] => []
  | v :: r => v.cells ++ flatV r
theorem flatV_length : ∀ L : List Vl, (flatV L).length = L.length * 3
  | [] => rfl
  | v :: r => by
    have ih := flatV_length r
    rw [flatV, List.length_append, ih, List.length_cons]
    show 3 + _ = _
    omega
theorem flatV_snoc : ∀ (L : List Vl) (v : Vl), flatV (L ++ [v]) = flatV L ++ v.cells
  | [], v => by simp [flatV]
  | u :: r, v => by rw [List.cons_append, flatV, flatV, flatV_snoc r v, List.append_assoc]
theorem flatV_at : ∀ (L : List Vl) (k : Nat) (v : Vl), L[k]? = some v → ∀ j x, v.cells[j]? = some x → (flatV L)[k * 3 + j]? = some x
  | [], k, v, h, j, x, hj => by simp at h
  | u :: r, 0, v, h, j, x, hj => by
    simp at h
    subst h
    have hl := (List.getElem?_eq_some_iff.1 hj).1
    rw [flatV, Nat.zero_mul, Nat.zero_add, List.getElem?_append_left hl]
    exact hj
  | u :: r, k + 1, v, h, j, x, hj => by
    have ih := flatV_at r k v (by simpa using h) j x hj
    rw [flatV, List.getElem?_append_right (by show 3 ≤ _; omega)]
    rw [← ih]
    congr 1
    show (k + 1) * 3 + j - 3 = k * 3 + j
    omega
def OwnV (B : Nat) (v : Value) (L : List Vl) (w : World) : Prop := w.ownsRow B 27 3 v L.length (flatV L)
theorem OwnV.on {B : Nat} {w w' : World} {v : Value} {L : List Vl} (h : OwnV B v L w) (hb : Below w.heap.size w w') : OwnV B v L w' := own_on h hb
theorem OwnV.reads {B n : Nat} {v : Value} {L : List Vl} {w : World} (h : OwnV B v L w) (hn : L.length = n) (hm : n ≤ 1000) (hu : ∀ x ∈ L, x.fits) : ∃ A cap, v = .slice A n cap ∧ ValsR w A n L := by
  subst hn
  have h0 := h
  rcases h.2 with ⟨rfl, h1⟩ | ⟨g, cap, cur, rfl, hb, hg, hrest⟩
  · exact ⟨_, _, by rw [h1], rfl, hm, hu, fun hn => absurd h1 hn⟩
  · refine ⟨_, _, rfl, rfl, hm, hu, fun hn => ⟨g, 0, rfl, (Array.getElem?_eq_some_iff.1 hg).1, fun k x hk j y hj => ?_⟩⟩
    have h1 := (List.getElem?_eq_some_iff.1 hk).1
    have h2 : j < 3 := (List.getElem?_eq_some_iff.1 hj).1
    have e := World.ownsRow.cellAt h0 (k * 3 + j) (by omega)
    rw [Nat.zero_add, e]
    exact flatV_at L k x hk j y hj
end Go.Proofs.YtcampdedhfhkbaaDoor.Fld
