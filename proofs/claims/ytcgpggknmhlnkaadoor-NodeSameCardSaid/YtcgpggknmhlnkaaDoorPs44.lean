/- Trees in memory, by the blocks in which they lie: what is below is kept where those blocks are. -/
import Derived.Test.YtcgpggknmhlnkaaDoorPs43
namespace Go.Proofs.YtcgpggknmhlnkaaDoor.Nod
open Go.RowKit Kit Reg
/-- a block from a place on reads as these trees; those below them lie in blocks of the kind p -/
def FoP (p : Nat → Prop) (w : World) : Nat → Nat → Fo → Prop
  | _, _, .nil => True
  | b, o, .cons h k r => (∀ j v, h.cells[j]? = some v → w.cell? ⟨b, o + j, none⟩ = some v) ∧
      (∃ A n c, w.cell? ⟨b, o + 13, none⟩ = some (.slice A n c) ∧ (arity k = n ∧ n ≤ maxLen) ∧ (n ≠ 0 → ∃ b' o', A = some ⟨b', o', none⟩ ∧ p b' ∧ FoP p w b' o' k)) ∧ FoP p w b (o + 14) r
def KidsP (p : Nat → Prop) (w : World) (A : Option Addr) (n : Nat) (F : Fo) : Prop := (arity F = n ∧ n ≤ maxLen) ∧ (n ≠ 0 → ∃ b o, A = some ⟨b, o, none⟩ ∧ p b ∧ FoP p w b o F)
theorem FoP.to {p q : Nat → Prop} {w w' : World} (hpq : ∀ b, p b → q b) (hc : ∀ b, p b → ∀ o v, w.cell? ⟨b, o, none⟩ = some v → w'.cell? ⟨b, o, none⟩ = some v) : ∀ (F : Fo) {b o : Nat}, p b → FoP p w b o F → FoP q w' b o F
  | .nil, _, _, _, _ => trivial
  | .cons h k r, b, o, hp, ⟨h1, ⟨A, n, c, h2, h3, h4⟩, h5⟩ => by
    refine ⟨fun j v hj => hc b hp _ _ (h1 j v hj), ⟨A, n, c, hc b hp _ _ h2, h3, fun hn => ?_⟩, FoP.to hpq hc r hp h5⟩
    obtain ⟨b', o', e, hb', hk⟩ := h4 hn
    exact ⟨b', o', e, hpq _ hb', FoP.to hpq hc k hb' hk⟩
theorem KidsP.to {p q : Nat → Prop} {w w' : World} {A : Option Addr} {n : Nat} {F : Fo} (hpq : ∀ b, p b → q b) (hc : ∀ b, p b → ∀ o v, w.cell? ⟨b, o, none⟩ = some v → w'.cell? ⟨b, o, none⟩ = some v) (h : KidsP p w A n F) : KidsP q w' A n F := by
  obtain ⟨h1, h2⟩ := h
  refine ⟨h1, fun hn => ?_⟩
  obtain ⟨b, o, e, hp, hf⟩ := h2 hn
  exact ⟨b, o, e, hpq _ hp, FoP.to hpq hc F hp hf⟩
theorem FoP.of_r {w : World} : ∀ (F : Fo) {b o : Nat}, FoR w b o F → FoP (fun b => b < w.heap.size) w b o F
  | .nil, _, _, _ => trivial
  | .cons h k r, b, o, ⟨h1, ⟨A, n, c, h2, h3, h4⟩, h5⟩ => by
    refine ⟨h1, ⟨A, n, c, h2, h3, fun hn => ?_⟩, FoP.of_r r h5⟩
    obtain ⟨b', o', e, hb', hk⟩ := h4 hn
    exact ⟨b', o', e, hb', FoP.of_r k hk⟩
theorem FoP.to_r {p : Nat → Prop} {w : World} (hp : ∀ b, p b → b < w.heap.size) : ∀ (F : Fo) {b o : Nat}, FoP p w b o F → FoR w b o F
  | .nil, _, _, _ => trivial
  | .cons h k r, b, o, ⟨h1, ⟨A, n, c, h2, h3, h4⟩, h5⟩ => by
    refine ⟨h1, ⟨A, n, c, h2, h3, fun hn => ?_⟩, FoP.to_r hp r h5⟩
    obtain ⟨b', o', e, hb', hk⟩ := h4 hn
    exact ⟨b', o', e, hp _ hb', FoP.to_r hp k hk⟩
theorem KidsR.low {w : World} {A : Option Addr} {n : Nat} {F : Fo} (h : KidsR w A n F) : KidsP (fun b => b < w.heap.size) w A n F := by
  obtain ⟨h1, h2⟩ := h
  refine ⟨h1, fun hn => ?_⟩
  obtain ⟨b, o, e, hp, hf⟩ := h2 hn
  exact ⟨b, o, e, hp, FoP.of_r F hf⟩
theorem KidsP.reads {p : Nat → Prop} {w : World} {A : Option Addr} {n : Nat} {F : Fo} (hp : ∀ b, p b → b < w.heap.size) (h : KidsP p w A n F) : KidsR w A n F := by
  obtain ⟨h1, h2⟩ := h
  refine ⟨h1, fun hn => ?_⟩
  obtain ⟨b, o, e, hb, hf⟩ := h2 hn
  exact ⟨b, o, e, hp _ hb, FoP.to_r hp F hf⟩
theorem mk_tops : ∀ F : Fo, mk (tops F) = F
  | .nil => rfl
  | .cons h k r => by rw [tops, mk, mk_tops r]
/-- all of a row's nodes read as what they are, in blocks of the kind p -/
def AllP (p : Nat → Prop) (w : World) (L : List El) : Prop := ∀ e ∈ L, KidsP p w e.A e.n e.f
theorem AllP.to {p q : Nat → Prop} {w w' : World} {L : List El} (hpq : ∀ b, p b → q b) (hc : ∀ b, p b → ∀ o v, w.cell? ⟨b, o, none⟩ = some v → w'.cell? ⟨b, o, none⟩ = some v) (h : AllP p w L) : AllP q w' L := fun e he => (h e he).to hpq hc
theorem AllP.good {p : Nat → Prop} {w : World} {L : List El} (hp : ∀ b, p b → b < w.heap.size) (h : AllP p w L) : Good w L := fun e he => (h e he).reads hp
theorem FoP.ofEls {p : Nat → Prop} {w : World} {b : Nat} : ∀ (L : List El) (o : Nat), (∀ i e, L[i]? = some e → ∀ j x, e.cells[j]? = some x → w.cell? ⟨b, o + i * 14 + j, none⟩ = some x) → AllP p w L → FoP p w b o (mk (L.map El.nd))
  | [], _, _, _ => trivial
  | e :: r, o, hc, ha => by
    have h0 := hc 0 e rfl
    rw [Nat.zero_mul, Nat.add_zero] at h0
    refine ⟨fun j v hj => h0 j v ?_, ⟨e.A, e.n, e.c, h0 13 _ rfl, (ha e (List.mem_cons_self ..)).1, (ha e (List.mem_cons_self ..)).2⟩, FoP.ofEls r (o + 14) (fun i e' he j x hj => ?_) fun e' he => ha e' (List.mem_cons_of_mem _ he)⟩
    · have hj' : e.h.cells[j]? = some v := hj
      unfold El.cells
      rw [List.getElem?_append_left (List.getElem?_eq_some_iff.1 hj').1]
      exact hj'
    · have := hc (i + 1) e' (by simpa using he) j x hj
      rwa [show o + (i + 1) * 14 + j = o + 14 + i * 14 + j from by omega] at this
/-- the nodes of a slice, as they lie in it -/
theorem KidsR.els {w : World} {A : Option Addr} {n : Nat} {F : Fo} (h : KidsR w A n F) : ∃ L : List El, L.map El.nd = tops F ∧ ElsR w A n L ∧ Good w L := by
  obtain ⟨⟨h1, hm⟩, h2⟩ := h
  by_cases hn : n = 0
  · subst hn
    refine ⟨[], ?_, ⟨rfl, fun h => absurd rfl h⟩, fun e he => by cases he⟩
    unfold arity at h1
    rw [List.length_eq_zero_iff.1 h1]
    rfl
  · obtain ⟨b, o, rfl, hb, hf⟩ := h2 hn
    have go : ∀ (F : Fo) (o : Nat), FoR w b o F → ∃ L : List El, L.map El.nd = tops F ∧ (∀ i e, L[i]? = some e → ∀ j x, e.cells[j]? = some x → w.cell? ⟨b, o + i * 14 + j, none⟩ = some x) ∧ Good w L := by
      intro F
      induction F with
      | nil => exact fun o _ => ⟨[], rfl, fun i e he => by simp at he, fun e he => by cases he⟩
      | cons h k r _ ih =>
        rintro o ⟨g1, ⟨A, n, c, g2, g3, g4⟩, g5⟩
        obtain ⟨L, e1, e2, e3⟩ := ih (o + 14) g5
        refine ⟨⟨h, A, n, c, k⟩ :: L, by rw [List.map_cons, e1, tops]; rfl, fun i e he j x hj => ?_, fun e he => ?_⟩
        · cases i with
          | zero =>
            simp at he
            subst he
            rw [Nat.zero_mul, Nat.add_zero]
            unfold El.cells at hj
            by_cases hj13 : j < 13
            · rw [List.getElem?_append_left (by show j < 13; exact hj13)] at hj
              exact g1 j x hj
            · have hl := (List.getElem?_eq_some_iff.1 hj).1
              have : j = 13 := by
                have : j < 14 := hl
                omega
              subst this
              obtain rfl : Value.slice A n c = x := by simpa [Hd.cells] using hj
              exact g2
          | succ i =>
            have := e2 i e (by simpa using he) j x hj
            rwa [show o + (i + 1) * 14 + j = o + 14 + i * 14 + j from by omega]
        · rcases List.mem_cons.1 he with rfl | he
          · exact ⟨g3, g4⟩
          · exact e3 e he
    obtain ⟨L, e1, e2, e3⟩ := go F o hf
    exact ⟨L, e1, ⟨by rw [← h1]; unfold arity; rw [← e1, List.length_map], fun _ => ⟨b, o, rfl, hb, e2⟩⟩, e3⟩
/-- a row of one's own of nodes that read as trees: so do they all, as a slice -/
theorem kids_of_row {p : Nat → Prop} {w : World} {g n : Nat} {L : List El} {F : Fo} (hL : L.map El.nd = tops F) (hn : L.length = n) (hm : n ≤ maxLen) (hg : p g) (hc : ∀ i e, L[i]? = some e → ∀ j x, e.cells[j]? = some x → w.cell? ⟨g, i * 14 + j, none⟩ = some x) (ha : AllP p w L) : KidsP p w (some ⟨g, 0, none⟩) n F := by
  refine ⟨⟨by unfold arity; rw [← hL, List.length_map, hn], hm⟩, fun _ => ⟨g, 0, rfl, hg, ?_⟩⟩
  have := FoP.ofEls (p := p) L 0 (fun i e he j x hj => by rw [Nat.zero_add]; exact hc i e he j x hj) ha
  rwa [hL, mk_tops] at this
end Go.Proofs.YtcgpggknmhlnkaaDoor.Nod
