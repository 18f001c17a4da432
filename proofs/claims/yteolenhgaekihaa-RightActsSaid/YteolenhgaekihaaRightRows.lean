/- Rows of one's own that hold grants, and texts. -/
import Derived.Test.YteolenhgaekihaaRightText
import Derived.Test.YteolenhgaekihaaOwnRows
namespace Go.Proofs.Yteolenhgaekihaa.Right
open Go.RowKit Kit Reg Go.Proofs.Yteolenhgaekihaa.Lab
open Go.Proofs.Yteolenhgaekihaa.Cats (U U_or U_zero)

theorem infoG : (Try.prog.info? 59).map (fun i => (i.zero, i.size, i.bytes)) = some (some (.agg #[.string ⟨#[]⟩, .int .i64 0, .int .u64 0, .int .i64 0, .int .u64 0]), 5, 48) := by kernel_rfl
theorem infoS : (Try.prog.info? 9).map (fun i => (i.zero, i.size, i.bytes)) = some (some (.string ⟨#[]⟩), 1, 16) := by kernel_rfl
def flatG : List Gr → List Value
  | [] => []
  | z :: r => z.cells ++ flatG r
theorem cells_len (z : Gr) : z.cells.length = 5 := rfl
theorem flatG_length : ∀ zs : List Gr, (flatG zs).length = zs.length * 5
  | [] => rfl
  | z :: r => by rw [flatG, List.length_append, flatG_length r, cells_len, List.length_cons]; omega
theorem flatG_append : ∀ zs ys : List Gr, flatG (zs ++ ys) = flatG zs ++ flatG ys
  | [], _ => rfl
  | z :: r, ys => by rw [List.cons_append, flatG, flatG, flatG_append r, List.append_assoc]
theorem flatG_snoc (zs : List Gr) (z : Gr) : flatG (zs ++ [z]) = flatG zs ++ z.cells := by rw [flatG_append]; simp [flatG]
theorem flatG_at : ∀ (zs : List Gr) (k : Nat) (z : Gr), zs[k]? = some z → ∀ j v, z.cells[j]? = some v → (flatG zs)[k * 5 + j]? = some v
  | [], _, _, h, _, _, _ => by simp at h
  | d :: r, 0, z, h, j, v, hj => by
    simp only [List.getElem?_cons_zero, Option.some.injEq] at h
    subst h
    have hl : j < 5 := (List.getElem?_eq_some_iff.1 hj).1
    rw [flatG, List.getElem?_append_left (by rw [cells_len]; omega), Nat.zero_mul, Nat.zero_add]
    exact hj
  | d :: r, k + 1, z, h, j, v, hj => by
    have h2 := flatG_at r k z (by simpa using h) j v hj
    rw [flatG, List.getElem?_append_right (by rw [cells_len]; omega), cells_len, show (k + 1) * 5 + j - 5 = k * 5 + j by omega]
    exact h2
theorem grant_new (w : World) (z : Gr) : ∀ j v, z.cells[j]? = some v → (w.alloc (.cells z.cells.toArray 59)).cell? ((⟨w.heap.size, 0, none⟩ : Addr).add j) = some v := by
  intro j v hj
  rw [show ((⟨w.heap.size, 0, none⟩ : Addr).add j) = ⟨w.heap.size, j, none⟩ by unfold Addr.add; split <;> simp_all]
  exact ((CellsAt.new w z.cells 59).2 j v hj).1
def OwnG (B : Nat) (v : Value) (zs : List Gr) (w : World) : Prop := w.ownsRow B 59 5 v zs.length (flatG zs)
theorem OwnG.on {B : Nat} {v : Value} {zs : List Gr} {w w' : World} (h : OwnG B v zs w) (hb : Below w.heap.size w w') : OwnG B v zs w' := own_on h hb
theorem OwnG.grants {B n : Nat} {v : Value} {zs : List Gr} {w : World} (h : OwnG B v zs w) (hn : zs.length = n) (hm : n ≤ 140737488355328) (hu : ∀ z ∈ zs, U z.s ∧ U z.r) : ∃ A cap, v = .slice A n cap ∧ GrantsR w A n zs := by
  subst hn
  have h0 := h
  rcases h.2 with ⟨rfl, h1⟩ | ⟨g, cap, cur, rfl, hb, hg, hrest⟩
  · exact ⟨_, _, by rw [h1], rfl, hm, hu, fun hn => absurd h1 hn⟩
  · refine ⟨_, _, rfl, rfl, hm, hu, fun _ => ⟨g, 0, rfl, (Array.getElem?_eq_some_iff.1 hg).1, fun k z hk j v hj => ?_⟩⟩
    have hkl : k < zs.length := (List.getElem?_eq_some_iff.1 hk).1
    have hj5 : j < 5 := (List.getElem?_eq_some_iff.1 hj).1
    rw [Nat.zero_add]
    exact (World.ownsRow.cellAt h0 (k * 5 + j) (by omega)).trans (flatG_at zs k z hk j v hj)
/-- texts -/
def strs (ns : List ByteArray) : List Value := ns.map Value.string
theorem strs_snoc (ns : List ByteArray) (n : ByteArray) : strs (ns ++ [n]) = strs ns ++ [.string n] := by simp [strs]
theorem strs_length (ns : List ByteArray) : (strs ns).length = ns.length := by simp [strs]
def OwnS (B : Nat) (v : Value) (ns : List ByteArray) (w : World) : Prop := w.ownsRow B 9 1 v ns.length (strs ns)
theorem OwnS.on {B : Nat} {v : Value} {ns : List ByteArray} {w w' : World} (h : OwnS B v ns w) (hb : Below w.heap.size w w') : OwnS B v ns w' := own_on h hb
/-- a slice that reads as texts -/
def StrsR (w : World) (v : Value) (ns : List ByteArray) : Prop := ∃ A cap, v = .slice A ns.length cap ∧ (ns = [] ∨ ∃ g, A = some ⟨g, 0, none⟩ ∧ g < w.heap.size ∧ ∀ i n, ns[i]? = some n → w.cell? ⟨g, i, none⟩ = some (.string n))
theorem StrsR.on {w w' : World} {v : Value} {ns : List ByteArray} (h : StrsR w v ns) (hb : Below w.heap.size w w') : StrsR w' v ns := by
  obtain ⟨A, cap, hv, h | ⟨g, hA, hg, h⟩⟩ := h
  · exact ⟨A, cap, hv, .inl h⟩
  · exact ⟨A, cap, hv, .inr ⟨g, hA, Nat.lt_of_lt_of_le hg hb.size, fun i c hc => (hb.cell (p := ⟨g, i, none⟩) hg).trans (h i c hc)⟩⟩
theorem OwnS.strs {B : Nat} {v : Value} {ns : List ByteArray} {w : World} (h : OwnS B v ns w) : StrsR w v ns := by
  have h0 := h
  rcases h.2 with ⟨rfl, h1⟩ | ⟨g, cap, cur, rfl, hb, hg, hrest⟩
  · exact ⟨_, _, by rw [h1], .inl (List.eq_nil_of_length_eq_zero h1)⟩
  · refine ⟨_, _, rfl, .inr ⟨g, rfl, (Array.getElem?_eq_some_iff.1 hg).1, fun i c hc => ?_⟩⟩
    have hi : i < ns.length := (List.getElem?_eq_some_iff.1 hc).1
    exact (World.ownsRow.cellAt h0 i (by omega)).trans (by simp [Right.strs, hc])
end Go.Proofs.Yteolenhgaekihaa.Right
