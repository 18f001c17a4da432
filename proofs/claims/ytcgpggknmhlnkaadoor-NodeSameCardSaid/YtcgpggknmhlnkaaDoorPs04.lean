/- Trees, in lists and numbers alone: how deep, how many, which below; when two are the same. No function of the program is named here.
   Rows of one's own: behind calls, behind appends; and 'append' of what came in, nil too. No function of the program is named here. -/
import Derived.Test.YtcgpggknmhlnkaaDoorPs03
import Derived.Laws.OwnMore
import Derived.Maps.AppendAt
import Derived.Deep.Onto
import Derived.Laws.AppendOwnNone
namespace Go.Proofs.YtcgpggknmhlnkaaDoor.Nod
/-- what a node has besides the nodes below it -/
structure Hd where
  k : Int
  op : Int
  vk : Int
  vn : Int
  vt : ByteArray
  ar : Int
  ac : Int
  ah : Bool
  al : Bool
  br : Int
  bc : Int
  bh : Bool
  bl : Bool
/-- nodes in a row, each with those below it -/
inductive Fo where
  | nil
  | cons (h : Hd) (k r : Fo)
abbrev Nd := Hd × Fo
def tops : Fo → List Nd
  | .nil => []
  | .cons h k r => (h, k) :: tops r
/-- how many nodes there are -/
def count : Fo → Nat
  | .nil => 0
  | .cons _ k r => 1 + count k + count r
/-- how deep the deepest one is -/
def deep : Fo → Nat
  | .nil => 0
  | .cons _ k r => max (deep k + 1) (deep r)
/-- all nodes, each ahead of those below it -/
def flat : Fo → List Nd
  | .nil => []
  | .cons h k r => (h, k) :: (flat k ++ flat r)
def arity (F : Fo) : Nat := (tops F).length
theorem arity_le : ∀ F : Fo, arity F ≤ count F
  | .nil => Nat.le_refl _
  | .cons h k r => by
    have := arity_le r
    unfold arity at *
    rw [tops, List.length_cons, count]
    omega
theorem flat_length : ∀ F : Fo, (flat F).length = count F
  | .nil => rfl
  | .cons h k r => by rw [flat, List.length_cons, List.length_append, flat_length k, flat_length r, count]; omega
/-- sums, greatest ones and rows over the nodes in a row -/
def cnt (l : List Nd) : Nat := (l.map fun x => 1 + count x.2).sum
def dep (l : List Nd) : Nat := l.foldl (fun d x => max d (deep x.2 + 1)) 0
def flt (l : List Nd) : List Nd := (l.map fun x => x :: flat x.2).flatten
theorem cnt_tops : ∀ F : Fo, cnt (tops F) = count F
  | .nil => rfl
  | .cons h k r => by
    have := cnt_tops r
    unfold cnt at *
    rw [tops, List.map_cons, List.sum_cons, this, count]
theorem flt_tops : ∀ F : Fo, flt (tops F) = flat F
  | .nil => rfl
  | .cons h k r => by
    have := flt_tops r
    unfold flt at *
    rw [tops, List.map_cons, List.flatten_cons, this, flat]
    rfl
theorem foldl_max (l : List Nd) : ∀ d, l.foldl (fun d x => max d (deep x.2 + 1)) d = max d (l.foldl (fun d x => max d (deep x.2 + 1)) 0) := by
  induction l with
  | nil => intro d; simp
  | cons x l ih =>
    intro d
    rw [List.foldl_cons, List.foldl_cons, ih (max d _), ih (max 0 _)]
    omega
theorem dep_tops : ∀ F : Fo, dep (tops F) = deep F
  | .nil => rfl
  | .cons h k r => by
    have := dep_tops r
    unfold dep at *
    rw [tops, List.foldl_cons, foldl_max, this, deep]
    simp
theorem cnt_snoc (l : List Nd) (x : Nd) : cnt (l ++ [x]) = cnt l + (1 + count x.2) := by unfold cnt; rw [List.map_append, List.sum_append]; simp
theorem dep_snoc (l : List Nd) (x : Nd) : dep (l ++ [x]) = max (dep l) (deep x.2 + 1) := by unfold dep; rw [List.foldl_append]; rfl
theorem flt_snoc (l : List Nd) (x : Nd) : flt (l ++ [x]) = flt l ++ (x :: flat x.2) := by unfold flt; rw [List.map_append, List.flatten_append]; simp
theorem take_snoc {α : Type} {l : List α} {k : Nat} {x : α} (h : l[k]? = some x) : l.take (k + 1) = l.take k ++ [x] := by rw [List.take_add_one, h]; rfl
theorem top_count : ∀ {F : Fo} {x : Nd}, x ∈ tops F → 1 + count x.2 ≤ count F
  | .nil, _, h => by cases h
  | .cons h k r, x, hx => by
    rcases List.mem_cons.1 hx with rfl | hx
    · show 1 + count k ≤ 1 + count k + count r; omega
    · have := top_count hx
      show 1 + count x.2 ≤ 1 + count k + count r
      omega
/-- those below one that is below are below -/
theorem flat_flat : ∀ {F : Fo} {x y : Nd}, x ∈ flat F → y ∈ flat x.2 → y ∈ flat F
  | .nil, _, _, h, _ => by cases h
  | .cons h k r, x, y, hx, hy => by
    rcases List.mem_cons.1 hx with rfl | hx
    · exact List.mem_cons_of_mem _ (List.mem_append_left _ hy)
    · rcases List.mem_append.1 hx with hx | hx
      · exact List.mem_cons_of_mem _ (List.mem_append_left _ (flat_flat hx hy))
      · exact List.mem_cons_of_mem _ (List.mem_append_right _ (flat_flat hx hy))
theorem top_flat : ∀ {F : Fo} {x : Nd}, x ∈ tops F → x ∈ flat F
  | .nil, _, h => by cases h
  | .cons h k r, x, hx => by
    rcases List.mem_cons.1 hx with rfl | hx
    · exact List.mem_cons_self ..
    · exact List.mem_cons_of_mem _ (List.mem_append_right _ (top_flat hx))
/-- of so many, how many are left; below 0: there were more -/
def lv (m c : Nat) : Int := if c ≤ m then ((m - c : Nat) : Int) else -1
theorem lv_step {m c : Nat} (h : c ≤ m) (d : Nat) : lv m (c + d) = lv (m - c) d := by
  unfold lv
  by_cases h2 : d ≤ m - c
  · rw [if_pos h2, if_pos (by omega), show m - (c + d) = m - c - d from by omega]
  · rw [if_neg h2, if_neg (by omega)]
theorem lv_less {m c d : Nat} (h : ¬ c ≤ m) (hd : c ≤ d) : lv m d = -1 := if_neg (by omega)
theorem lv_ge (m c : Nat) : 0 ≤ lv m c ↔ c ≤ m := by
  unfold lv
  split
  · exact ⟨fun _ => by assumption, fun _ => Int.natCast_nonneg _⟩
  · exact ⟨fun h => absurd h (by decide), fun h => by contradiction⟩
/-- a node and how many stand right below it: that, of all nodes in order, tells a tree -/
def key (x : Nd) : Hd × Nat := (x.1, arity x.2)
theorem decode : ∀ (F G : Fo) (xs ys : List (Hd × Nat)), arity F = arity G → (flat F).map key ++ xs = (flat G).map key ++ ys → F = G ∧ xs = ys
  | .nil, .nil, _, _, _, h => ⟨rfl, h⟩
  | .nil, .cons h k r, _, _, ha, _ => by unfold arity at ha; rw [tops, tops, List.length_nil, List.length_cons] at ha; omega
  | .cons h k r, .nil, _, _, ha, _ => by unfold arity at ha; rw [tops, tops, List.length_nil, List.length_cons] at ha; omega
  | .cons h k r, .cons h' k' r', xs, ys, ha, e => by
    have ha' : arity r = arity r' := by unfold arity at *; rw [tops, tops, List.length_cons, List.length_cons] at ha; omega
    rw [flat, flat, List.map_cons, List.map_cons, List.cons_append, List.cons_append] at e
    obtain ⟨e1, e2⟩ := List.cons.inj e
    obtain ⟨e3, e4⟩ := Prod.mk.inj e1
    replace e3 : h = h' := e3
    replace e4 : arity k = arity k' := e4
    rw [List.map_append, List.map_append, List.append_assoc, List.append_assoc] at e2
    obtain ⟨rfl, e5⟩ := decode k k' _ _ e4 e2
    obtain ⟨rfl, e6⟩ := decode r r' _ _ ha' e5
    exact ⟨by rw [e3], e6⟩
/-- two nodes are the same, if all of them are, one behind the other -/
theorem same_iff (x y : Nd) : x = y ↔ (x :: flat x.2).map key = (y :: flat y.2).map key := by
  refine ⟨fun h => by rw [h], fun h => ?_⟩
  rw [List.map_cons, List.map_cons] at h
  obtain ⟨e1, e2⟩ := List.cons.inj h
  obtain ⟨e3, e4⟩ := Prod.mk.inj e1
  replace e4 : arity x.2 = arity y.2 := e4
  obtain ⟨e5, _⟩ := decode x.2 y.2 [] [] e4 (by rw [List.append_nil, List.append_nil]; exact e2)
  exact Prod.ext e3 e5
end Go.Proofs.YtcgpggknmhlnkaaDoor.Nod
namespace Go.Proofs.YtcgpggknmhlnkaaDoor.Kit
open Go.RowKit Reg
theorem below_none {A B : World} (hb : Below A.heap.size A B) : A.grownBy B none := ⟨hb.os, hb.tape, hb.output, hb.size, fun k hk _ => hb.block k hk⟩
theorem own_on {w w' : World} {B : Nat} {e : TypeId} {size : Nat} {v : Value} {n : Nat} {xs : List Value} (h : w.ownsRow B e size v n xs) (hb : Below w.heap.size w w') : w'.ownsRow B e size v n xs := World.ownsRow.kept h (below_none hb) (by
  rcases h.2 with ⟨rfl, _⟩ | ⟨g, cap, cur, rfl, _⟩
  · exact .inl rfl
  · exact .inr (by simp [Value.ownBlock]))
/-- cells stay where another block turns -/
theorem cells_grown {A B : World} {b : Nat} {cs : List Value} {row : Option Nat} (h : CellsAt A b cs) (hg : A.grownBy B row) (hne : some b ≠ row) : CellsAt B b cs := by
  have hb := hg.block b h.1 hne
  exact ⟨Nat.lt_of_lt_of_le h.1 hg.size, fun i v hi => ⟨(World.cell?_of_block (a := ⟨b, i, none⟩) hb).trans (h.2 i v hi).1, (World.frozen?_of_block (a := ⟨b, i, none⟩) hb).trans (h.2 i v hi).2⟩⟩
/-- where a row's own block is -/
theorem own_far {w : World} {B : Nat} {e : TypeId} {size : Nat} {v : Value} {n : Nat} {xs : List Value} (h : w.ownsRow B e size v n xs) {b : Nat} (hb : b < B) : some b ≠ v.ownBlock := fun e => by
  have := (World.ownsRow.lt h b e.symm).1
  omega
end Go.Proofs.YtcgpggknmhlnkaaDoor.Kit
