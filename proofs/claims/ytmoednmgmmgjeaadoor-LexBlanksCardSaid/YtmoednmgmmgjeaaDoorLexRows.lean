/- Rows of tokens: as cells, as a row of one's own, as a slice that reads as tokens. Either type of tokens. -/
import Derived.Test.YtmoednmgmmgjeaaDoorLexWays
import Derived.Test.YtmoednmgmmgjeaaDoorOwnRows
namespace Go.Proofs.YtmoednmgmmgjeaaDoor.Lex
open Go.RowKit Kit Reg Dec Dig

def Tok.cells (x : Tok) : List Value := [.int .i64 x.k, .int .i64 (x.at' : Int), .string ⟨x.t.toArray⟩, .int .i64 x.n]
def flatK : List Tok → List Value
  | [] => []
  | v :: r => v.cells ++ flatK r
theorem flatK_length : ∀ L : List Tok, (flatK L).length = L.length * 4
  | [] => rfl
  | v :: r => by
    have ih := flatK_length r
    rw [flatK, List.length_append, ih, List.length_cons]
    show 4 + _ = _
    omega
theorem flatK_snoc : ∀ (L : List Tok) (v : Tok), flatK (L ++ [v]) = flatK L ++ v.cells
  | [], v => by simp [flatK]
  | u :: r, v => by rw [List.cons_append, flatK, flatK, flatK_snoc r v, List.append_assoc]
theorem flatK_at : ∀ (L : List Tok) (k : Nat) (v : Tok), L[k]? = some v → ∀ j x, v.cells[j]? = some x → (flatK L)[k * 4 + j]? = some x
  | [], k, v, h, j, x, hj => by simp at h
  | u :: r, 0, v, h, j, x, hj => by
    simp at h
    subst h
    have hl := (List.getElem?_eq_some_iff.1 hj).1
    rw [flatK, Nat.zero_mul, Nat.zero_add, List.getElem?_append_left hl]
    exact hj
  | u :: r, k + 1, v, h, j, x, hj => by
    have ih := flatK_at r k v (by simpa using h) j x hj
    rw [flatK, List.getElem?_append_right (by show 4 ≤ _; omega)]
    rw [← ih]
    congr 1
    show (k + 1) * 4 + j - 4 = k * 4 + j
    omega
/-- a slice, nil too, that reads as tokens -/
def ToksR (w : World) (A : Option Addr) (n : Nat) (L : List Tok) : Prop :=
  L.length = n ∧ (n ≠ 0 → ∃ b o, A = some ⟨b, o, none⟩ ∧ b < w.heap.size ∧ ∀ k v, L[k]? = some v → ∀ j x, v.cells[j]? = some x → w.cell? ⟨b, o + k * 4 + j, none⟩ = some x)
theorem ToksR.on {w w' : World} {A : Option Addr} {n : Nat} {L : List Tok} (h : ToksR w A n L) (hb : Below w.heap.size w w') : ToksR w' A n L := by
  obtain ⟨h1, h3⟩ := h
  refine ⟨h1, fun hn => ?_⟩
  obtain ⟨b, o, rfl, hlt, hc⟩ := h3 hn
  exact ⟨b, o, rfl, Nat.lt_of_lt_of_le hlt hb.size, fun k v hk j x hj => (hb.cell (p := ⟨b, o + k * 4 + j, none⟩) hlt).trans (hc k v hk j x hj)⟩
/-- the token at a place: its four cells -/
theorem ToksR.at {w : World} {A : Option Addr} {n : Nat} {L : List Tok} (h : ToksR w A n L) {k : Nat} {v : Tok} (hk : L[k]? = some v) : ∃ b o, A = some ⟨b, o, none⟩ ∧ b < w.heap.size ∧
    w.cell? ⟨b, o + k * 4, none⟩ = some (.int .i64 v.k) ∧ w.cell? ⟨b, o + k * 4 + 1, none⟩ = some (.int .i64 (v.at' : Int)) ∧ w.cell? ⟨b, o + k * 4 + 2, none⟩ = some (.string ⟨v.t.toArray⟩) ∧ w.cell? ⟨b, o + k * 4 + 3, none⟩ = some (.int .i64 v.n) := by
  obtain ⟨h1, h3⟩ := h
  have hlt := (List.getElem?_eq_some_iff.1 hk).1
  obtain ⟨b, o, e, hb, hc⟩ := h3 (by omega)
  exact ⟨b, o, e, hb, hc k v hk 0 _ rfl, hc k v hk 1 _ rfl, hc k v hk 2 _ rfl, hc k v hk 3 _ rfl⟩
theorem ToksR.nil (w : World) (A : Option Addr) : ToksR w A 0 [] := ⟨rfl, fun h => absurd rfl h⟩
/-- a row of one's own of tokens (e: their type) -/
def OwnT (e : TypeId) (B : Nat) (v : Value) (L : List Tok) (w : World) : Prop := w.ownsRow B e 4 v L.length (flatK L)
theorem OwnT.on {e : TypeId} {B : Nat} {w w' : World} {v : Value} {L : List Tok} (h : OwnT e B v L w) (hb : Below w.heap.size w w') : OwnT e B v L w' := own_on h hb
theorem OwnT.empty (e : TypeId) (B : Nat) (w : World) : OwnT e B (.slice none 0 0) [] w := World.ownsRow_nil _ _ _ _
theorem OwnT.snoc {e : TypeId} {B : Nat} {w : World} {v : Value} {L : List Tok} (x : Tok) (h : w.ownsRow B e 4 v (L.length + 1) (flatK L ++ x.cells)) : OwnT e B v (L ++ [x]) w := by
  unfold OwnT
  rw [flatK_snoc, List.length_append]
  exact h
theorem OwnT.reads {e : TypeId} {B : Nat} {v : Value} {L : List Tok} {w : World} (h : OwnT e B v L w) : ∃ A cap, v = .slice A L.length cap ∧ ToksR w A L.length L := by
  have h0 := h
  rcases h.2 with ⟨rfl, h1⟩ | ⟨g, cap, cur, rfl, hb, hg, hrest⟩
  · exact ⟨_, _, by rw [h1], rfl, fun hn => absurd h1 hn⟩
  · refine ⟨_, _, rfl, rfl, fun hn => ⟨g, 0, rfl, (Array.getElem?_eq_some_iff.1 hg).1, fun k x hk j y hj => ?_⟩⟩
    have h1 := (List.getElem?_eq_some_iff.1 hk).1
    have h2 : j < 4 := (List.getElem?_eq_some_iff.1 hj).1
    have e := World.ownsRow.cellAt h0 (k * 4 + j) (by omega)
    rw [Nat.zero_add, e]
    exact flatK_at L k x hk j y hj
theorem OwnT.cap {e : TypeId} {B n cap : Nat} {A : Option Addr} {L : List Tok} {w : World} (h : OwnT e B (.slice A n cap) L w) : n ≤ cap := by
  have h0 := h.1
  rcases h.2 with ⟨h2, h1⟩ | ⟨g, cap', cur, h2, hb, hg, hcap, hrest⟩
  · obtain ⟨_, rfl, rfl⟩ := Value.slice.inj h2
    exact Nat.le_refl _
  · obtain ⟨_, rfl, rfl⟩ := Value.slice.inj h2
    exact hcap
/-- the tokens from a place on -/
theorem ToksR.drop {w : World} {b o n : Nat} {L : List Tok} (h : ToksR w (some ⟨b, o, none⟩) n L) (i : Nat) : ToksR w (some ⟨b, o + i * 4, none⟩) (n - i) (L.drop i) := by
  obtain ⟨h1, h3⟩ := h
  refine ⟨by rw [List.length_drop, h1], fun hn => ?_⟩
  obtain ⟨b', o', e, hlt, hc⟩ := h3 (by omega)
  simp only [Option.some.injEq, Addr.mk.injEq, and_true] at e
  obtain ⟨rfl, rfl⟩ := e
  refine ⟨b, _, rfl, hlt, fun k v hk j x hj => ?_⟩
  have := hc (i + k) v (by rw [← List.getElem?_drop]; exact hk) j x hj
  rw [← this]
  congr 2
  omega
theorem tok_below {B : Nat} {e : TypeId} {w0 w w' : World} {v : Value} {n : Nat} {xs : List Value} {o : Obj} (h : w.ownsRow B e 4 v n xs) (hb : Below w0.heap.size w0 w) (hB : w0.heap.size ≤ B) (hg : (w.alloc o).grownBy w' v.ownBlock) : Below w0.heap.size w0 w' :=
  (on_alloc hb _).grown hg (by have := hb.size; simp; omega) (fun b e => Nat.le_trans hB (World.ownsRow.lt h b e).1)
theorem tok_far {B : Nat} {e : TypeId} {w : World} {v : Value} {n : Nat} {xs : List Value} (h : w.ownsRow B e 4 v n xs) : some w.heap.size ≠ v.ownBlock := fun q => by
  have := (World.ownsRow.lt h _ q.symm).2
  omega
theorem set_grown' (w : World) (q : Addr) (u : Value) : w.grownBy (w.setCell q u) (some q.block) :=
  ⟨rfl, rfl, rfl, by simp [World.setCell], fun _ _ hne => Below.heap_setCell _ _ _ _ (fun e => hne (by rw [e]))⟩
theorem OwnT.set {e : TypeId} {B : Nat} {w : World} {v : Value} {L : List Tok} (h : OwnT e B v L w) {p : Addr} (hne : some p.block ≠ v.ownBlock) (u : Value) : OwnT e B v L (w.setCell p u) :=
  World.ownsRow.kept h (set_grown' w p u) (.inr fun q => hne q.symm)
theorem four_new {w : World} {g : Nat} (hg : g = w.heap.size) (x y z u : Value) (ty : TypeId) : ∀ j q, [x, y, z, u][j]? = some q → (w.alloc (.cells #[x, y, z, u] ty)).cell? ((⟨g, 0, none⟩ : Addr).add j) = some q := by
  intro j q hj
  rw [show ((⟨g, 0, none⟩ : Addr).add j) = ⟨g, j, none⟩ by unfold Addr.add; split <;> simp_all, hg]
  exact ((CellsAt.new w [x, y, z, u] ty).2 j q hj).1
theorem infoT : (Tryd.prog.info? 27).map (fun i => (i.zero, i.size, i.bytes)) = some (some (.agg #[.int .i64 0, .int .i64 0, .string ⟨#[]⟩, .int .i64 0]), 4, 40) := by kernel_rfl
end Go.Proofs.YtmoednmgmmgjeaaDoor.Lex
