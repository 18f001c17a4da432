/- Trees in memory: a slice of nodes that reads as a row of trees; rows of nodes of one's own. -/
import Derived.Test.YtcgpggknmhlnkaaDoorPs04
namespace Go.Proofs.YtcgpggknmhlnkaaDoor.Nod
open Go.RowKit Kit Reg
def Hd.cells (h : Hd) : List Value := [.int .i64 h.k, .int .i64 h.op, .int .i64 h.vk, .int .i64 h.vn, .string h.vt, .int .i64 h.ar, .int .i64 h.ac, .bool h.ah, .bool h.al, .int .i64 h.br, .int .i64 h.bc, .bool h.bh, .bool h.bl]
/-- a block from a place on reads as these trees -/
def FoR (w : World) : Nat → Nat → Fo → Prop
  | _, _, .nil => True
  | b, o, .cons h k r => (∀ j v, h.cells[j]? = some v → w.cell? ⟨b, o + j, none⟩ = some v) ∧
      (∃ A n c, w.cell? ⟨b, o + 13, none⟩ = some (.slice A n c) ∧ (arity k = n ∧ n ≤ maxLen) ∧ (n ≠ 0 → ∃ b' o', A = some ⟨b', o', none⟩ ∧ b' < w.heap.size ∧ FoR w b' o' k)) ∧ FoR w b (o + 14) r
/-- a slice that reads as these trees -/
def KidsR (w : World) (A : Option Addr) (n : Nat) (F : Fo) : Prop := (arity F = n ∧ n ≤ maxLen) ∧ (n ≠ 0 → ∃ b o, A = some ⟨b, o, none⟩ ∧ b < w.heap.size ∧ FoR w b o F)
theorem FoR.on {w w' : World} (hb : Below w.heap.size w w') : ∀ (F : Fo) {b o : Nat}, b < w.heap.size → FoR w b o F → FoR w' b o F
  | .nil, _, _, _, _ => trivial
  | .cons h k r, b, o, hlt, ⟨h1, ⟨A, n, c, h2, h3, h4⟩, h5⟩ => by
    refine ⟨fun j v hj => (hb.cell (p := ⟨b, o + j, none⟩) hlt).trans (h1 j v hj), ⟨A, n, c, (hb.cell (p := ⟨b, o + 13, none⟩) hlt).trans h2, h3, fun hn => ?_⟩, FoR.on hb r hlt h5⟩
    obtain ⟨b', o', e, hlt', hk⟩ := h4 hn
    exact ⟨b', o', e, Nat.lt_of_lt_of_le hlt' hb.size, FoR.on hb k hlt' hk⟩
theorem KidsR.on {w w' : World} {A : Option Addr} {n : Nat} {F : Fo} (h : KidsR w A n F) (hb : Below w.heap.size w w') : KidsR w' A n F := by
  obtain ⟨h1, h2⟩ := h
  refine ⟨h1, fun hn => ?_⟩
  obtain ⟨b, o, e, hlt, hf⟩ := h2 hn
  exact ⟨b, o, e, Nat.lt_of_lt_of_le hlt hb.size, FoR.on hb F hlt hf⟩
/-- the node at a place: its cells, and those below it -/
theorem FoR.at {w : World} : ∀ {F : Fo} {b o : Nat} (i : Nat) {x : Nd}, FoR w b o F → (tops F)[i]? = some x → (∀ j v, x.1.cells[j]? = some v → w.cell? ⟨b, o + i * 14 + j, none⟩ = some v) ∧ ∃ A n c, w.cell? ⟨b, o + i * 14 + 13, none⟩ = some (.slice A n c) ∧ KidsR w A n x.2
  | .nil, _, _, _, _, _, hx => by simp [tops] at hx
  | .cons h k r, b, o, 0, x, ⟨h1, ⟨A, n, c, h2, h3, h4⟩, h5⟩, hx => by
    obtain rfl : (h, k) = x := by simpa [tops] using hx
    rw [Nat.zero_mul, Nat.add_zero]
    exact ⟨h1, A, n, c, h2, h3, h4⟩
  | .cons h k r, b, o, i + 1, x, ⟨h1, h2, h5⟩, hx => by
    have := FoR.at i h5 (by simpa [tops] using hx)
    rw [show o + (i + 1) * 14 = o + 14 + i * 14 from by omega]
    exact this
theorem KidsR.at {w : World} {A : Option Addr} {n : Nat} {F : Fo} (h : KidsR w A n F) {i : Nat} {x : Nd} (hx : (tops F)[i]? = some x) : ∃ b o, A = some ⟨b, o, none⟩ ∧ b < w.heap.size ∧ (∀ j v, x.1.cells[j]? = some v → w.cell? ⟨b, o + i * 14 + j, none⟩ = some v) ∧ ∃ B m c, w.cell? ⟨b, o + i * 14 + 13, none⟩ = some (.slice B m c) ∧ KidsR w B m x.2 := by
  have hi := (List.getElem?_eq_some_iff.1 hx).1
  have hn : n ≠ 0 := by have := h.1.1; unfold arity at this; omega
  obtain ⟨b, o, e, hlt, hf⟩ := h.2 hn
  obtain ⟨h1, h2⟩ := hf.at i hx
  exact ⟨b, o, e, hlt, h1, h2⟩
theorem KidsR.nil (w : World) (A : Option Addr) : KidsR w A 0 .nil := ⟨⟨rfl, Nat.zero_le _⟩, fun h => absurd rfl h⟩
theorem KidsR.get {w : World} {A : Option Addr} {n : Nat} {F : Fo} (h : KidsR w A n F) {i : Nat} (hi : i < n) : ∃ x, (tops F)[i]? = some x := ⟨_, List.getElem?_eq_getElem (by have := h.1.1; unfold arity at this; omega)⟩
/-- a node as it lies in a row: what it has, and the slice of those below it -/
structure El where
  h : Hd
  A : Option Addr
  n : Nat
  c : Nat
  f : Fo
def El.cells (e : El) : List Value := e.h.cells ++ [.slice e.A e.n e.c]
def El.nd (e : El) : Nd := (e.h, e.f)
def flatE : List El → List Value
  | [] => []
  | e :: r => e.cells ++ flatE r
theorem flatE_length : ∀ L : List El, (flatE L).length = L.length * 14
  | [] => rfl
  | e :: r => by
    have ih := flatE_length r
    rw [flatE, List.length_append, ih, List.length_cons]
    show 14 + _ = _
    omega
theorem flatE_append : ∀ L M : List El, flatE (L ++ M) = flatE L ++ flatE M
  | [], _ => rfl
  | e :: r, M => by rw [List.cons_append, flatE, flatE, flatE_append r M, List.append_assoc]
theorem flatE_at : ∀ (L : List El) (i : Nat) (e : El), L[i]? = some e → ∀ j x, e.cells[j]? = some x → (flatE L)[i * 14 + j]? = some x
  | [], _, _, h, _, _, _ => by simp at h
  | u :: r, 0, e, h, j, x, hj => by
    simp at h
    subst h
    have hl := (List.getElem?_eq_some_iff.1 hj).1
    rw [flatE, Nat.zero_mul, Nat.zero_add, List.getElem?_append_left hl]
    exact hj
  | u :: r, i + 1, e, h, j, x, hj => by
    have ih := flatE_at r i e (by simpa using h) j x hj
    rw [flatE, List.getElem?_append_right (by show 14 ≤ _; omega)]
    rw [← ih]
    congr 1
    show (i + 1) * 14 + j - 14 = i * 14 + j
    omega
/-- all of a row's nodes read as what they are -/
def Good (w : World) (L : List El) : Prop := ∀ e ∈ L, KidsR w e.A e.n e.f
theorem Good.on {w w' : World} {L : List El} (h : Good w L) (hb : Below w.heap.size w w') : Good w' L := fun e he => (h e he).on hb
/-- a slice that reads as these nodes in a row -/
def ElsR (w : World) (A : Option Addr) (n : Nat) (L : List El) : Prop :=
  L.length = n ∧ (n ≠ 0 → ∃ b o, A = some ⟨b, o, none⟩ ∧ b < w.heap.size ∧ ∀ i e, L[i]? = some e → ∀ j x, e.cells[j]? = some x → w.cell? ⟨b, o + i * 14 + j, none⟩ = some x)
theorem ElsR.on {w w' : World} {A : Option Addr} {n : Nat} {L : List El} (h : ElsR w A n L) (hb : Below w.heap.size w w') : ElsR w' A n L := by
  obtain ⟨h1, h3⟩ := h
  refine ⟨h1, fun hn => ?_⟩
  obtain ⟨b, o, e, hlt, hc⟩ := h3 hn
  exact ⟨b, o, e, Nat.lt_of_lt_of_le hlt hb.size, fun i e he j x hj => (hb.cell (p := ⟨b, o + i * 14 + j, none⟩) hlt).trans (hc i e he j x hj)⟩
/-- a row of one's own of nodes -/
def OwnE (B : Nat) (v : Value) (L : List El) (w : World) : Prop := w.ownsRow B 28 14 v L.length (flatE L)
theorem OwnE.on {B : Nat} {w w' : World} {v : Value} {L : List El} (h : OwnE B v L w) (hb : Below w.heap.size w w') : OwnE B v L w' := own_on h hb
theorem OwnE.append {B : Nat} {w : World} {v : Value} {L M : List El} {m : Nat} (hm : M.length = m) (h : w.ownsRow B 28 14 v (L.length + m) (flatE L ++ flatE M)) : OwnE B v (L ++ M) w := by
  unfold OwnE
  rw [flatE_append, List.length_append, hm]
  exact h
theorem OwnE.reads {B : Nat} {v : Value} {L : List El} {w : World} (h : OwnE B v L w) : ∃ A cap, v = .slice A L.length cap ∧ ElsR w A L.length L := by
  have h0 := h
  rcases h.2 with ⟨rfl, h1⟩ | ⟨g, cap, cur, rfl, hb, hgt, hrest⟩
  · exact ⟨_, _, by rw [h1], rfl, fun hn => absurd h1 hn⟩
  · refine ⟨_, _, rfl, rfl, fun hn => ⟨g, 0, rfl, (Array.getElem?_eq_some_iff.1 hgt).1, fun i e he j x hj => ?_⟩⟩
    have h1 := (List.getElem?_eq_some_iff.1 he).1
    have h2 : j < 14 := (List.getElem?_eq_some_iff.1 hj).1
    have e2 := World.ownsRow.cellAt h0 (i * 14 + j) (by omega)
    rw [Nat.zero_add, e2]
    exact flatE_at L i e he j x hj
end Go.Proofs.YtcgpggknmhlnkaaDoor.Nod
