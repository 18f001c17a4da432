/- The cells of a span in their row: each is in it, and stands ahead of the next one. -/
import Derived.Test.YtedpgcmmnmlpeaaSpanRefCells
import Derived.Test.YtedpgcmmnmlpeaaSpanHas
namespace Go.Proofs.Ytedpgcmmnmlpeaa.Span
open Go.RowKit Kit Reg Go.Proofs.Ytedpgcmmnmlpeaa.Addr

theorem upto_get {α : Type} (f : Nat → α) {k i : Nat} (h : i < k) : (upto f k)[i]? = some (f i) := by simp [upto, h]
theorem cell_in {a b c d p q : Int} {m : Bool} {R C i : Nat} (hm : mayS a b c d = m) (hR : ext m a c = R) (hC : ext m b d = C) (hp : lo m a c = p) (hq : lo m b d = q) (hi : i < R * C) : hasB a b c d (cellAt p q C i).1 (cellAt p q C i).2 = true := by
  cases m with
  | false =>
    rw [ext_false] at hR
    obtain rfl : R = 0 := by omega
    simp at hi
  | true =>
    rw [ext_true] at hR hC
    have hC0 : 0 < C := by
      rcases Nat.eq_zero_or_pos C with h | h
      · subst h; simp at hi
      · exact h
    have h1 : i / C < R := by rw [Nat.div_lt_iff_lt_mul hC0]; exact hi
    have h2 : i % C < C := Nat.mod_lt _ hC0
    rw [hasB_iff]
    simp only [cellAt]
    generalize i / C = u at *
    generalize i % C = v at *
    exact ⟨hm, ⟨by omega, by omega⟩, by omega, by omega⟩
/-- all of them, if they are not too many -/
def told (S : Nat) (f : Nat → Int × Int) : List (Int × Int) := if 1000 < S then [] else upto f S
theorem told_length (S : Nat) (f : Nat → Int × Int) : (told S f).length ≤ 1000 ∧ (told S f).length ≤ S ∧ (S ≤ 1000 → (told S f).length = S) ∧ (1000 < S → (told S f).length = 0) := by
  unfold told
  split
  · simp; omega
  · rw [upto_length]; omega
theorem told_get {S : Nat} {f : Nat → Int × Int} {i : Nat} (h : i < (told S f).length) : (told S f)[i]? = some (f i) ∧ i < S := by
  unfold told at *
  split at h
  · simp at h
  · rename_i hs
    rw [upto_length] at h
    rw [if_neg hs]
    exact ⟨upto_get f h, h⟩
/-- cells that stand in this block -/
def RowG (W : World) (g : Nat) (T : List (Int × Int)) : Prop := ∀ i c, T[i]? = some c → W.cell? ⟨g, i * 2, none⟩ = some (.int .i64 c.1) ∧ W.cell? ⟨g, i * 2 + 1, none⟩ = some (.int .i64 c.2)
theorem RowG.on {W W' : World} {g : Nat} {T : List (Int × Int)} (h : RowG W g T) (hb : Below W.heap.size W W') : RowG W' g T := fun i c hc => ⟨kept hb (h i c hc).1, kept hb (h i c hc).2⟩
theorem RowG.far {W : World} {g b : Nat} {T : List (Int × Int)} (h : RowG W g T) (hne : b ≠ g) (v : Value) : RowG (W.setCell ⟨b, 0, none⟩ v) g T := fun i c hc =>
  ⟨(World.cell?_setCell_far W ⟨b, 0, none⟩ ⟨g, i * 2, none⟩ v hne).trans (h i c hc).1, (World.cell?_setCell_far W ⟨b, 0, none⟩ ⟨g, i * 2 + 1, none⟩ v hne).trans (h i c hc).2⟩
theorem RowG.far' {W : World} {g b : Nat} {T : List (Int × Int)} (h : RowG W g T) (hne : T ≠ [] → b ≠ g) (v : Value) : RowG (W.setCell ⟨b, 0, none⟩ v) g T := by
  by_cases hT : T = []
  · subst hT
    intro i c hc
    simp at hc
  · exact h.far (hne hT) v
theorem RowG.put2 {W : World} {g b : Nat} {T : List (Int × Int)} (h : RowG W g T) (hne : T ≠ [] → b ≠ g) (x y : Value) : RowG (Kit.put2 W b x y) g T := by
  by_cases hT : T = []
  · subst hT
    intro i c hc
    simp at hc
  · intro i c hc
    have hn := hne hT
    exact ⟨(World.cell?_setCell_far _ ⟨b, 1, none⟩ ⟨g, i * 2, none⟩ y hn).trans ((World.cell?_setCell_far W ⟨b, 0, none⟩ ⟨g, i * 2, none⟩ x hn).trans (h i c hc).1),
      (World.cell?_setCell_far _ ⟨b, 1, none⟩ ⟨g, i * 2 + 1, none⟩ y hn).trans ((World.cell?_setCell_far W ⟨b, 0, none⟩ ⟨g, i * 2 + 1, none⟩ x hn).trans (h i c hc).2)⟩
/-- the block of a slice of one's own is new -/
theorem OwnRow.new {B : Nat} {A : Option Addr} {n cap : Nat} {cs : List (Int × Int)} {w : World} (h : OwnRow B (.slice A n cap) cs w) {g : Nat} (hA : A = some ⟨g, 0, none⟩) : B ≤ g := by
  subst hA
  exact (World.ownsRow.lt h g (by simp [Value.ownBlock])).1
theorem cell_not_row {W : World} {a : Addr} {v : Value} {row : Option Nat} (h : W.cell? a = some v) (hr : ∀ r, row = some r → ∃ o : Obj, W.heap[r]? = some o ∧ o.isCells = false) : some a.block ≠ row := by
  intro e
  obtain ⟨o, ho, hc⟩ := hr a.block e.symm
  simp only [World.cell?] at h
  rw [ho] at h
  cases o <;> simp [Obj.isCells] at hc h
theorem RowG.own {W W' : World} {g : Nat} {T : List (Int × Int)} {row : Option Nat} (h : RowG W g T) (hg : W.grownBy W' row) (hr : ∀ r, row = some r → ∃ o : Obj, W.heap[r]? = some o ∧ o.isCells = false) : RowG W' g T := fun i c hc =>
  ⟨hg.cell (h i c hc).1 (cell_not_row (h i c hc).1 hr), hg.cell (h i c hc).2 (cell_not_row (h i c hc).2 hr)⟩
theorem Row.block {W : World} {A : Option Addr} {n cap : Nat} {T : List (Int × Int)} (h : Row W (.slice A n cap) T) : ∃ g, (T ≠ [] → A = some ⟨g, 0, none⟩ ∧ g < W.heap.size) ∧ RowG W g T := by
  obtain ⟨A', cap', e, h⟩ := h
  simp only [Value.slice.injEq] at e
  obtain ⟨rfl, _, _⟩ := e
  rcases h with rfl | ⟨g, rfl, h1, h2⟩
  · exact ⟨0, fun h => absurd rfl h, fun i c hc => by simp at hc⟩
  · exact ⟨g, fun _ => ⟨rfl, h1⟩, h2⟩
end Go.Proofs.Ytedpgcmmnmlpeaa.Span
