/- Slices that hold cells: reading them, and whether two of them are the same (the reference's Same). -/
import Derived.Test.YtedpgcmmnmlpeaaSpanCells
namespace Go.Proofs.Ytedpgcmmnmlpeaa.Span
open Go.RowKit Kit Reg Go.Proofs.Ytedpgcmmnmlpeaa.Addr

/-- a slice that reads as these cells -/
def Row (w : World) (v : Value) (cs : List (Int × Int)) : Prop := ∃ A cap, v = .slice A cs.length cap ∧ (cs = [] ∨ ∃ g, A = some ⟨g, 0, none⟩ ∧ g < w.heap.size ∧ ∀ i c, cs[i]? = some c → w.cell? ⟨g, i * 2, none⟩ = some (.int .i64 c.1) ∧ w.cell? ⟨g, i * 2 + 1, none⟩ = some (.int .i64 c.2))
theorem Row.on {w w' : World} {v : Value} {cs : List (Int × Int)} (h : Row w v cs) (hb : Below w.heap.size w w') : Row w' v cs := by
  obtain ⟨A, cap, hv, h | ⟨g, hA, hg, h⟩⟩ := h
  · exact ⟨A, cap, hv, .inl h⟩
  · exact ⟨A, cap, hv, .inr ⟨g, hA, Nat.lt_of_lt_of_le hg hb.size, fun i c hc => ⟨(hb.cell (p := ⟨g, i * 2, none⟩) hg).trans (h i c hc).1, (hb.cell (p := ⟨g, i * 2 + 1, none⟩) hg).trans (h i c hc).2⟩⟩⟩
theorem flat_at : ∀ (cs : List (Int × Int)) (i : Nat) (c : Int × Int), cs[i]? = some c → (flat cs)[i * 2]? = some (.int .i64 c.1) ∧ (flat cs)[i * 2 + 1]? = some (.int .i64 c.2)
  | [], _, _, h => by simp at h
  | d :: r, 0, c, h => by
    simp only [List.getElem?_cons_zero, Option.some.injEq] at h
    subst h
    simp [flat]
  | d :: r, i + 1, c, h => by
    have h2 := flat_at r i c (by simpa using h)
    rw [show (i + 1) * 2 = i * 2 + 1 + 1 by omega]
    simpa [flat] using h2
theorem OwnRow.row {B : Nat} {v : Value} {cs : List (Int × Int)} {w : World} (h : OwnRow B v cs w) : Row w v cs := by
  have h0 := h
  rcases h.2 with ⟨rfl, h1⟩ | ⟨g, cap, cur, rfl, hb, hg, hrest⟩
  · exact ⟨_, _, by rw [h1], .inl (List.eq_nil_of_length_eq_zero h1)⟩
  · refine ⟨_, _, rfl, .inr ⟨g, rfl, (Array.getElem?_eq_some_iff.1 hg).1, fun i c hc => ?_⟩⟩
    have hi : i < cs.length := (List.getElem?_eq_some_iff.1 hc).1
    obtain ⟨f1, f2⟩ := flat_at cs i c hc
    exact ⟨(World.ownsRow.cellAt h0 (i * 2) (by omega)).trans f1, (World.ownsRow.cellAt h0 (i * 2 + 1) (by omega)).trans f2⟩
set_option maxRecDepth 100000 in
set_option maxHeartbeats 2000000 in
theorem same_nil (A A' : Option Addr) (cap cap' : Nat) (w : World) : Calls Try.prog 12 #[.slice A 0 cap, .slice A' 0 cap'] w fun e w' => e = .returned (.bool true) ∧ Below w.heap.size w w' := by
  go_enter Try.func12, Try.ntmps12
  go_wp2
  refine wp_loop_rounds 1 ?_
  rw [rounds_succ]
  go_wp2
  go_ret
  exact ⟨rfl, Below.refl _ _⟩
set_option maxRecDepth 100000 in
set_option maxHeartbeats 2000000 in
theorem same_row (g g' n cap cap' : Nat) (cs : List (Int × Int)) (hn : cs.length = n) (hn9 : n ≤ 1000) (w : World) (hg : g < w.heap.size) (hg' : g' < w.heap.size)
    (h1 : ∀ i c, cs[i]? = some c → w.cell? ⟨g, i * 2, none⟩ = some (.int .i64 c.1) ∧ w.cell? ⟨g, i * 2 + 1, none⟩ = some (.int .i64 c.2))
    (h2 : ∀ i c, cs[i]? = some c → w.cell? ⟨g', i * 2, none⟩ = some (.int .i64 c.1) ∧ w.cell? ⟨g', i * 2 + 1, none⟩ = some (.int .i64 c.2)) :
    Calls Try.prog 12 #[.slice (some ⟨g, 0, none⟩) n cap, .slice (some ⟨g', 0, none⟩) n cap'] w fun e w' => e = .returned (.bool true) ∧ Below w.heap.size w w' := by
  have K1 := Lib.hid h1
  have K2 := Lib.hid h2
  have HN := Lib.hid hn
  clear h1 h2 hn
  go_enter Try.func12, Try.ntmps12
  go_wp2
  go_loopw [5] (fun i wr => ∃ k : Nat, k ≤ n ∧ i = .int .i64 k ∧ Below w.heap.size w wr) (fun i _ => n - (intOf i).toNat)
  case atStart => exact ⟨0, Nat.zero_le _, rfl, Below.refl _ _⟩
  case round =>
    obtain ⟨k, hk, rfl, hb⟩ := hrel
    by_cases hlt : k < n
    · obtain ⟨c, hc⟩ : ∃ c, cs[k]? = some c := ⟨cs[k]'(by rw [HN.out]; exact hlt), List.getElem?_eq_getElem _⟩
      obtain ⟨a0, a1⟩ := K1.out k c hc
      obtain ⟨b0, b1⟩ := K2.out k c hc
      have x0 := (hb.cell (p := ⟨g, k * 2, none⟩) hg).trans a0
      have x1 := (hb.cell (p := ⟨g, k * 2 + 1, none⟩) hg).trans a1
      have y0 := (hb.cell (p := ⟨g', k * 2, none⟩) hg').trans b0
      have y1 := (hb.cell (p := ⟨g', k * 2 + 1, none⟩) hg').trans b1
      clear a0 a1 b0 b1 hc
      obtain ⟨c1, c2⟩ := c
      go_wp2_with fail
      go_region
      all_goals go_wp2
      all_goals go_roundw
      case rel => exact ⟨k + 1, by omega, by go_num, hb.drew⟩
      case measure => simp [intOf]; omega
    · obtain rfl : k = n := by omega
      go_wp2
      go_ret
      exact ⟨rfl, hb⟩
theorem same_c (v v' : Value) (cs : List (Int × Int)) (w : World) (hn : cs.length ≤ 1000) (h1 : Row w v cs) (h2 : Row w v' cs) : Calls Try.prog 12 #[v, v'] w fun e w' => e = .returned (.bool true) ∧ Below w.heap.size w w' := by
  obtain ⟨A, cap, rfl, h1⟩ := h1
  obtain ⟨A', cap', rfl, h2⟩ := h2
  by_cases h : cs = []
  · subst h
    exact same_nil A A' cap cap' w
  · rcases h1 with h1 | ⟨g, rfl, hg, h1⟩
    · exact absurd h1 h
    · rcases h2 with h2 | ⟨g', rfl, hg', h2⟩
      · exact absurd h2 h
      · exact same_row g g' cs.length cap cap' cs rfl hn w hg hg' h1 h2
end Go.Proofs.Ytedpgcmmnmlpeaa.Span
