/- Tokens as text, piece by piece, in lists alone; rows of texts of one's own. -/
import Derived.Test.YtmoednmgmmgjeaaDoorLexRows
import Derived.Test.YtmoednmgmmgjeaaDoorValMath
import Derived.Lib.Join
namespace Go.Proofs.YtmoednmgmmgjeaaDoor.Lex
open Go.RowKit Kit Reg Dec Dig

def toldX (x : Tok) : Bool := toldK x.k
def anyT (T : List Tok) : Bool := T.any toldX
def pieceT (s : Bool) (x : Tok) : List UInt8 := if toldX x = true then (if s = true then 32 :: tokT x else tokT x) else []
theorem joinT_snoc (x : Tok) : ∀ (T : List Tok) (s : Bool), joinT s (T ++ [x]) = joinT s T ++ pieceT (s || anyT T) x
  | [], s => by
    show joinT s [x] = [] ++ pieceT (s || false) x
    rw [Bool.or_false, List.nil_append]
    unfold joinT pieceT toldX
    split
    · rw [show joinT true [] = [] from rfl, List.append_nil]
    · rfl
  | y :: T, s => by
    rw [List.cons_append]
    unfold joinT
    cases hy : toldK y.k with
    | true =>
      rw [if_pos rfl, if_pos rfl, joinT_snoc x T true, List.append_assoc, Bool.true_or]
      have e : (s || anyT (y :: T)) = true := by unfold anyT toldX; rw [List.any_cons, hy, Bool.true_or, Bool.or_true]
      rw [e]
    | false =>
      rw [if_neg Bool.false_ne_true, if_neg Bool.false_ne_true, joinT_snoc x T s]
      have e : anyT (y :: T) = anyT T := by unfold anyT toldX; rw [List.any_cons, hy, Bool.false_or]
      rw [e]
theorem anyT_snoc (x : Tok) (T : List Tok) : anyT (T ++ [x]) = (anyT T || toldX x) := by unfold anyT; rw [List.any_append, List.any_cons, List.any_nil, Bool.or_false]
/-- the texts of all tokens that have one -/
def tellL (T : List Tok) : List (List UInt8) := (T.filter toldX).map tokT
theorem tellL_in {x : Tok} (h : toldX x = true) (T : List Tok) : tellL (T ++ [x]) = tellL T ++ [tokT x] := by unfold tellL; rw [List.filter_append, List.map_append]; simp [h]
theorem tellL_out {x : Tok} (h : toldX x = false) (T : List Tok) : tellL (T ++ [x]) = tellL T := by unfold tellL; rw [List.filter_append]; simp [h]
theorem join_tell : ∀ T : List Tok, joinT true T = Lib.joinTail [32] (tellL T) ∧ joinT false T = Lib.join (tellL T) [32]
  | [] => ⟨rfl, rfl⟩
  | x :: T => by
    obtain ⟨h1, h2⟩ := join_tell T
    cases hx : toldK x.k with
    | true =>
      have e : tellL (x :: T) = tokT x :: tellL T := by unfold tellL toldX; rw [List.filter_cons_of_pos (by exact hx)]; rfl
      rw [e]
      constructor
      · simp only [joinT]
        rw [if_pos hx, if_pos trivial, h1]
        unfold Lib.joinTail
        simp
      · simp only [joinT]
        rw [if_pos hx, if_neg Bool.false_ne_true, Lib.join_cons, h1]
    | false =>
      have e : tellL (x :: T) = tellL T := by unfold tellL toldX; rw [List.filter_cons_of_neg (by show ¬ toldK x.k = true; rw [hx]; exact Bool.noConfusion)]
      rw [e]
      constructor
      · simp only [joinT]
        rw [if_neg (by rw [hx]; exact Bool.noConfusion), h1]
      · simp only [joinT]
        rw [if_neg (by rw [hx]; exact Bool.noConfusion), h2]
/-- tokens that are not too great -/
def FitsT (T : List Tok) : Prop := T.length ≤ 1000 ∧ ∀ x ∈ T, x.t.length ≤ 1000 ∧ 0 ≤ x.n ∧ x.n ≤ 9223372036854775807
theorem FitsT.take {T : List Tok} (h : FitsT T) (k : Nat) : FitsT (T.take k) := ⟨Nat.le_trans (List.length_take_le' k T) h.1, fun x hx => h.2 x (List.mem_of_mem_take hx)⟩
theorem FitsT.len {T : List Tok} (h : FitsT T) (s : Bool) : (joinT s T).length ≤ 3000000 := by
  have h1 := joinT_len T s h.2
  have h2 := h.1
  have h3 : T.length * (2 * 1000 + 22) ≤ 1000 * (2 * 1000 + 22) := Nat.mul_le_mul_right _ h2
  omega
theorem told_num {x : Tok} (h : x.k = 1) : toldX x = true ∧ tokT x = textD x.n := by unfold toldX toldK tokT; rw [h]; exact ⟨rfl, if_pos rfl⟩
theorem told_str {x : Tok} (h : x.k = 2) : toldX x = true ∧ tokT x = 34 :: (Val.quoteL x.t ++ [34]) := by unfold toldX toldK tokT; rw [h]; exact ⟨rfl, (if_neg (by decide)).trans (if_pos rfl)⟩
theorem told_word {x : Tok} (h : x.k = 3 ∨ x.k = 4) : toldX x = true ∧ tokT x = x.t := by
  unfold toldX toldK tokT
  rcases h with h | h <;> rw [h] <;> exact ⟨rfl, (if_neg (by decide)).trans (if_neg (by decide))⟩
theorem told_none {x : Tok} (h : x.k < 1 ∨ 4 < x.k) : toldX x = false := by
  unfold toldX toldK
  rcases h with h | h
  · rw [decide_eq_false (by omega), Bool.false_and]
  · rw [decide_eq_false (p := x.k ≤ 4) (by omega), Bool.and_false]
theorem piece_in {s : Bool} {x : Tok} (h : toldX x = true) : pieceT s x = if s = true then 32 :: tokT x else tokT x := if_pos h
theorem piece_out {s : Bool} {x : Tok} (h : toldX x = false) : pieceT s x = [] := if_neg (by rw [h]; exact Bool.noConfusion)
theorem take_snoc {T : List Tok} {k : Nat} {x : Tok} (h : T[k]? = some x) : T.take (k + 1) = T.take k ++ [x] := by rw [List.take_add_one, h]; rfl
/-- rows of texts of one's own -/
def strs (ws : List (List UInt8)) : List Value := ws.map fun x => .string ⟨x.toArray⟩
def OwnS (B : Nat) (v : Value) (ws : List (List UInt8)) (w : World) : Prop := w.ownsRow B 9 1 v ws.length (strs ws)
theorem OwnS.on {B : Nat} {v : Value} {ws : List (List UInt8)} {w w' : World} (h : OwnS B v ws w) (hb : Below w.heap.size w w') : OwnS B v ws w' := own_on h hb
theorem OwnS.empty (B : Nat) (w : World) : OwnS B (.slice none 0 0) [] w := World.ownsRow_nil _ _ _ _
theorem OwnS.snoc {B : Nat} {v : Value} {ws : List (List UInt8)} {w : World} (x : List UInt8) (h : w.ownsRow B 9 1 v (ws.length + 1) (strs ws ++ [.string ⟨x.toArray⟩])) : OwnS B v (ws ++ [x]) w := by
  unfold OwnS strs
  rw [List.map_append, List.length_append]
  exact h
theorem OwnS.reads {B : Nat} {v : Value} {ws : List (List UInt8)} {w : World} (h : OwnS B v ws w) : ∃ A cap, v = .slice A ws.length cap ∧ ws.length ≤ cap ∧ (ws = [] ∨ ∃ g, A = some ⟨g, 0, none⟩ ∧ g < w.heap.size ∧ ∀ i n, ws[i]? = some n → w.cell? ⟨g, i, none⟩ = some (.string ⟨n.toArray⟩)) := by
  have h0 := h
  rcases h.2 with ⟨rfl, h1⟩ | ⟨g, cap, cur, rfl, hb, hg, hcap, hrest⟩
  · exact ⟨_, _, by rw [h1], by omega, .inl (List.eq_nil_of_length_eq_zero h1)⟩
  · refine ⟨_, _, rfl, hcap, .inr ⟨g, rfl, (Array.getElem?_eq_some_iff.1 hg).1, fun i c hc => ?_⟩⟩
    have hi : i < ws.length := (List.getElem?_eq_some_iff.1 hc).1
    exact (World.ownsRow.cellAt h0 i (by omega)).trans (by simp [strs, hc])
theorem str_below {B : Nat} {e : TypeId} {w0 w w' : World} {v : Value} {n : Nat} {xs : List Value} {o : Obj} (h : w.ownsRow B e 1 v n xs) (hb : Below w0.heap.size w0 w) (hB : w0.heap.size ≤ B) (hg : (w.alloc o).grownBy w' v.ownBlock) : Below w0.heap.size w0 w' :=
  (on_alloc hb _).grown hg (by have := hb.size; simp; omega) (fun b e => Nat.le_trans hB (World.ownsRow.lt h b e).1)
end Go.Proofs.YtmoednmgmmgjeaaDoor.Lex
