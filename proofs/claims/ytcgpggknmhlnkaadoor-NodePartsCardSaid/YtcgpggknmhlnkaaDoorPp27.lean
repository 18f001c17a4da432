/- What the reference's List answers of trees. Written by wip/gen22list.py.
   What the reference's Right and Formula answer, out of what its one answers. Written by wip/gen22right.py. -/
import Derived.Test.YtcgpggknmhlnkaaDoorPp06
namespace Go.Proofs.YtcgpggknmhlnkaaDoor.Nod
open Go.RowKit Kit Reg
theorem infoE : (Tryd.prog.info? 28).map (fun i => (i.zero, i.size, i.bytes)) = some (some (.agg #[.int .i64 0, .int .i64 0, .int .i64 0, .int .i64 0, .string ⟨#[]⟩, .int .i64 0, .int .i64 0, .bool false, .bool false, .int .i64 0, .int .i64 0, .bool false, .bool false, .slice none 0 0]), 14, 120) := by kernel_rfl
theorem flatE_get : ∀ (L : List El) (j : Nat) (u : Value), (flatE L)[j]? = some u → ∃ i e j', L[i]? = some e ∧ e.cells[j']? = some u ∧ j = i * 14 + j'
  | [], j, u, h => by simp [flatE] at h
  | e :: L, j, u, h => by
    rw [flatE] at h
    by_cases hj : j < 14
    · rw [List.getElem?_append_left (by show j < 14; exact hj)] at h
      exact ⟨0, e, j, rfl, h, by omega⟩
    · rw [List.getElem?_append_right (by show 14 ≤ j; omega)] at h
      obtain ⟨i, e', j', h1, h2, h3⟩ := flatE_get L (j - 14) u h
      exact ⟨i + 1, e', j', by simpa using h1, h2, by omega⟩
theorem el_one (e : El) : ∀ u ∈ e.cells, u.oneCell' = true := by
  intro u hu
  unfold El.cells Hd.cells at hu
  simp only [List.cons_append, List.nil_append, List.mem_cons, List.not_mem_nil, or_false] at hu
  rcases hu with rfl | rfl | rfl | rfl | rfl | rfl | rfl | rfl | rfl | rfl | rfl | rfl | rfl | rfl <;> rfl
theorem flatE_one : ∀ (L : List El), ∀ u ∈ flatE L, u.oneCell' = true
  | [], u, h => by cases h
  | e :: L, u, h => by
    rcases List.mem_append.1 h with h | h
    · exact el_one e u h
    · exact flatE_one L u h
theorem ElsR.cells {w : World} {b o n : Nat} {L : List El} (h : ElsR w (some ⟨b, o, none⟩) n L) : ∀ j u, (flatE L)[j]? = some u → w.cell? ((⟨b, o, none⟩ : Addr).add j) = some u := by
  intro j u hj
  obtain ⟨i, e, j', h1, h2, rfl⟩ := flatE_get L j u hj
  obtain ⟨h3, h4⟩ := h
  have hi := (List.getElem?_eq_some_iff.1 h1).1
  obtain ⟨b', o', e1, _, h5⟩ := h4 (by omega)
  simp only [Option.some.injEq, Addr.mk.injEq, and_true] at e1
  obtain ⟨rfl, rfl⟩ := e1
  rw [Go.WideShapes.add_plain, ← Nat.add_assoc]
  exact h5 i e h1 j' u h2
theorem els_below {B : Nat} {e : TypeId} {w0 w w' : World} {v : Value} {n : Nat} {xs : List Value} (h : w.ownsRow B e 14 v n xs) (hb : Below w0.heap.size w0 w) (hB : w0.heap.size ≤ B) (hg : w.grownBy w' v.ownBlock) : Below w0.heap.size w0 w' :=
  hb.grown hg (by have := hb.size; omega) (fun b e => Nat.le_trans hB (World.ownsRow.lt h b e).1)
theorem list_new {w : World} {g : Nat} (hg : g = w.heap.size) (cs : List Value) (ty : TypeId) : ∀ j q, cs[j]? = some q → (w.alloc (.cells cs.toArray ty)).cell? ((⟨g, 0, none⟩ : Addr).add j) = some q := by
  intro j q hj
  rw [show ((⟨g, 0, none⟩ : Addr).add j) = ⟨g, j, none⟩ by unfold Addr.add; split <;> simp_all, hg]
  exact ((CellsAt.new w cs ty).2 j q hj).1
end Go.Proofs.YtcgpggknmhlnkaaDoor.Nod
namespace Go.Proofs.YtcgpggknmhlnkaaDoor.Nod
open Go.RowKit Kit Reg
theorem ElsR.at {w : World} {A : Option Addr} {n : Nat} {L : List El} (h : ElsR w A n L) {i : Nat} {e : El} (he : L[i]? = some e) : ∃ b o, A = some ⟨b, o, none⟩ ∧ b < w.heap.size ∧ ∀ j x, e.cells[j]? = some x → w.cell? ⟨b, o + i * 14 + j, none⟩ = some x := by
  have hi := (List.getElem?_eq_some_iff.1 he).1
  obtain ⟨h1, h2⟩ := h
  obtain ⟨b, o, e1, hlt, hc⟩ := h2 (by omega)
  exact ⟨b, o, e1, hlt, hc i e he⟩
end Go.Proofs.YtcgpggknmhlnkaaDoor.Nod
