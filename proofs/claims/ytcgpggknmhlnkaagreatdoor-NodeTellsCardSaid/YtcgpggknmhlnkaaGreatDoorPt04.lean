/- Trees, in lists and numbers alone: how deep, how many, which below; when two are the same. No function of the program is named here.
   Rows of one's own: behind calls, behind appends; and 'append' of what came in, nil too. No function of the program is named here.
   Trees in memory: a slice of nodes that reads as a row of trees; rows of nodes of one's own. -/
import Derived.Test.YtcgpggknmhlnkaaGreatDoorPt03
import Derived.Laws.OwnMore
import Derived.Maps.AppendAt
import Derived.Deep.Onto
import Derived.Laws.AppendOwnNone
namespace Go.Proofs.YtcgpggknmhlnkaaGreatDoor.Nod
/-- what a node has besides the nodes below it -/
structure Hd where
  k : Int
  op : Int
  vk : Int
  vn : Int
  vt : ByteArray
  ar : Int
  ac : Int
  ah : Bool
  al : Bool
  br : Int
  bc : Int
  bh : Bool
  bl : Bool
/-- nodes in a row, each with those below it -/
inductive Fo where
  | nil
  | cons (h : Hd) (k r : Fo)
abbrev Nd := Hd × Fo
def tops : Fo → List Nd
  | .nil => []
  | .cons h k r => (h, k) :: tops r
/-- how many nodes there are -/
def count : Fo → Nat
  | .nil => 0
  | .cons _ k r => 1 + count k + count r
/-- how deep the deepest one is -/
def deep : Fo → Nat
  | .nil => 0
  | .cons _ k r => max (deep k + 1) (deep r)
/-- all nodes, each ahead of those below it -/
def flat : Fo → List Nd
  | .nil => []
  | .cons h k r => (h, k) :: (flat k ++ flat r)
def arity (F : Fo) : Nat := (tops F).length
theorem arity_le : ∀ F : Fo, arity F ≤ count F
  | .nil => Nat.le_refl _
  | .cons h k r => by
    have := arity_le r
    unfold arity at *
    rw [tops, List.length_cons, count]
    omega
theorem flat_length : ∀ F : Fo, (flat F).length = count F
  | .nil => rfl
  | .cons h k r => by rw [flat, List.length_cons, List.length_append, flat_length k, flat_length r, count]; omega
/-- sums, greatest ones and rows over the nodes in a row -/
def cnt (l : List Nd) : Nat := (l.map fun x => 1 + count x.2).sum
def dep (l : List Nd) : Nat := l.foldl (fun d x => max d (deep x.2 + 1)) 0
def flt (l : List Nd) : List Nd := (l.map fun x => x :: flat x.2).flatten
theorem cnt_tops : ∀ F : Fo, cnt (tops F) = count F
  | .nil => rfl
  | .cons h k r => by
    have := cnt_tops r
    unfold cnt at *
    rw [tops, List.map_cons, List.sum_cons, this, count]
theorem flt_tops : ∀ F : Fo, flt (tops F) = flat F
  | .nil => rfl
  | .cons h k r => by
    have := flt_tops r
    unfold flt at *
    rw [tops, List.map_cons, List.flatten_cons, this, flat]
    rfl
theorem foldl_max (l : List Nd) : ∀ d, l.foldl (fun d x => max d (deep x.2 + 1)) d = max d (l.foldl (fun d x => max d (deep x.2 + 1)) 0) := by
  induction l with
  | nil => intro d; simp
  | cons x l ih =>
    intro d
    rw [List.foldl_cons, List.foldl_cons, ih (max d _), ih (max 0 _)]
    omega
theorem dep_tops : ∀ F : Fo, dep (tops F) = deep F
  | .nil => rfl
  | .cons h k r => by
    have := dep_tops r
    unfold dep at *
    rw [tops, List.foldl_cons, foldl_max, this, deep]
    simp
theorem cnt_snoc (l : List Nd) (x : Nd) : cnt (l ++ [x]) = cnt l + (1 + count x.2) := by unfold cnt; rw [List.map_append, List.sum_append]; simp
theorem dep_snoc (l : List Nd) (x : Nd) : dep (l ++ [x]) = max (dep l) (deep x.2 + 1) := by unfold dep; rw [List.foldl_append]; rfl
theorem flt_snoc (l : List Nd) (x : Nd) : flt (l ++ [x]) = flt l ++ (x :: flat x.2) := by unfold flt; rw [List.map_append, List.flatten_append]; simp
theorem take_snoc {α : Type} {l : List α} {k : Nat} {x : α} (h : l[k]? = some x) : l.take (k + 1) = l.take k ++ [x] := by rw [List.take_add_one, h]; rfl
theorem top_count : ∀ {F : Fo} {x : Nd}, x ∈ tops F → 1 + count x.2 ≤ count F
  | .nil, _, h => by cases h
  | .cons h k r, x, hx => by
    rcases List.mem_cons.1 hx with rfl | hx
    · show 1 + count k ≤ 1 + count k + count r; omega
    · have := top_count hx
      show 1 + count x.2 ≤ 1 + count k + count r
      omega
/-- those below one that is below are below -/
theorem flat_flat : ∀ {F : Fo} {x y : Nd}, x ∈ flat F → y ∈ flat x.2 → y ∈ flat F
  | .nil, _, _, h, _ => by cases h
  | .cons h k r, x, y, hx, hy => by
    rcases List.mem_cons.1 hx with rfl | hx
    · exact List.mem_cons_of_mem _ (List.mem_append_left _ hy)
    · rcases List.mem_append.1 hx with hx | hx
      · exact List.mem_cons_of_mem _ (List.mem_append_left _ (flat_flat hx hy))
      · exact List.mem_cons_of_mem _ (List.mem_append_right _ (flat_flat hx hy))
theorem top_flat : ∀ {F : Fo} {x : Nd}, x ∈ tops F → x ∈ flat F
  | .nil, _, h => by cases h
  | .cons h k r, x, hx => by
    rcases List.mem_cons.1 hx with rfl | hx
    · exact List.mem_cons_self ..
    · exact List.mem_cons_of_mem _ (List.mem_append_right _ (top_flat hx))
/-- of so many, how many are left; below 0: there were more -/
def lv (m c : Nat) : Int := if c ≤ m then ((m - c : Nat) : Int) else -1
theorem lv_step {m c : Nat} (h : c ≤ m) (d : Nat) : lv m (c + d) = lv (m - c) d := by
  unfold lv
  by_cases h2 : d ≤ m - c
  · rw [if_pos h2, if_pos (by omega), show m - (c + d) = m - c - d from by omega]
  · rw [if_neg h2, if_neg (by omega)]
theorem lv_less {m c d : Nat} (h : ¬ c ≤ m) (hd : c ≤ d) : lv m d = -1 := if_neg (by omega)
theorem lv_ge (m c : Nat) : 0 ≤ lv m c ↔ c ≤ m := by
  unfold lv
  split
  · exact ⟨fun _ => by assumption, fun _ => Int.natCast_nonneg _⟩
  · exact ⟨fun h => absurd h (by decide), fun h => by contradiction⟩
/-- a node and how many stand right below it: that, of all nodes in order, tells a tree -/
def key (x : Nd) : Hd × Nat := (x.1, arity x.2)
theorem decode : ∀ (F G : Fo) (xs ys : List (Hd × Nat)), arity F = arity G → (flat F).map key ++ xs = (flat G).map key ++ ys → F = G ∧ xs = ys
  | .nil, .nil, _, _, _, h => ⟨rfl, h⟩
  | .nil, .cons h k r, _, _, ha, _ => by unfold arity at ha; rw [tops, tops, List.length_nil, List.length_cons] at ha; omega
  | .cons h k r, .nil, _, _, ha, _ => by unfold arity at ha; rw [tops, tops, List.length_nil, List.length_cons] at ha; omega
  | .cons h k r, .cons h' k' r', xs, ys, ha, e => by
    have ha' : arity r = arity r' := by unfold arity at *; rw [tops, tops, List.length_cons, List.length_cons] at ha; omega
    rw [flat, flat, List.map_cons, List.map_cons, List.cons_append, List.cons_append] at e
    obtain ⟨e1, e2⟩ := List.cons.inj e
    obtain ⟨e3, e4⟩ := Prod.mk.inj e1
    replace e3 : h = h' := e3
    replace e4 : arity k = arity k' := e4
    rw [List.map_append, List.map_append, List.append_assoc, List.append_assoc] at e2
    obtain ⟨rfl, e5⟩ := decode k k' _ _ e4 e2
    obtain ⟨rfl, e6⟩ := decode r r' _ _ ha' e5
    exact ⟨by rw [e3], e6⟩
/-- two nodes are the same, if all of them are, one behind the other -/
theorem same_iff (x y : Nd) : x = y ↔ (x :: flat x.2).map key = (y :: flat y.2).map key := by
  refine ⟨fun h => by rw [h], fun h => ?_⟩
  rw [List.map_cons, List.map_cons] at h
  obtain ⟨e1, e2⟩ := List.cons.inj h
  obtain ⟨e3, e4⟩ := Prod.mk.inj e1
  replace e4 : arity x.2 = arity y.2 := e4
  obtain ⟨e5, _⟩ := decode x.2 y.2 [] [] e4 (by rw [List.append_nil, List.append_nil]; exact e2)
  exact Prod.ext e3 e5
end Go.Proofs.YtcgpggknmhlnkaaGreatDoor.Nod
namespace Go.Proofs.YtcgpggknmhlnkaaGreatDoor.Kit
open Go.RowKit Reg
theorem below_none {A B : World} (hb : Below A.heap.size A B) : A.grownBy B none := ⟨hb.os, hb.tape, hb.output, hb.size, fun k hk _ => hb.block k hk⟩
theorem own_on {w w' : World} {B : Nat} {e : TypeId} {size : Nat} {v : Value} {n : Nat} {xs : List Value} (h : w.ownsRow B e size v n xs) (hb : Below w.heap.size w w') : w'.ownsRow B e size v n xs := World.ownsRow.kept h (below_none hb) (by
  rcases h.2 with ⟨rfl, _⟩ | ⟨g, cap, cur, rfl, _⟩
  · exact .inl rfl
  · exact .inr (by simp [Value.ownBlock]))
/-- cells stay where another block turns -/
theorem cells_grown {A B : World} {b : Nat} {cs : List Value} {row : Option Nat} (h : CellsAt A b cs) (hg : A.grownBy B row) (hne : some b ≠ row) : CellsAt B b cs := by
  have hb := hg.block b h.1 hne
  exact ⟨Nat.lt_of_lt_of_le h.1 hg.size, fun i v hi => ⟨(World.cell?_of_block (a := ⟨b, i, none⟩) hb).trans (h.2 i v hi).1, (World.frozen?_of_block (a := ⟨b, i, none⟩) hb).trans (h.2 i v hi).2⟩⟩
/-- where a row's own block is -/
theorem own_far {w : World} {B : Nat} {e : TypeId} {size : Nat} {v : Value} {n : Nat} {xs : List Value} (h : w.ownsRow B e size v n xs) {b : Nat} (hb : b < B) : some b ≠ v.ownBlock := fun e => by
  have := (World.ownsRow.lt h b e.symm).1
  omega
end Go.Proofs.YtcgpggknmhlnkaaGreatDoor.Kit
namespace Go.Proofs.YtcgpggknmhlnkaaGreatDoor.Nod
open Go.RowKit Kit Reg
def Hd.cells (h : Hd) : List Value := [.int .i64 h.k, .int .i64 h.op, .int .i64 h.vk, .int .i64 h.vn, .string h.vt, .int .i64 h.ar, .int .i64 h.ac, .bool h.ah, .bool h.al, .int .i64 h.br, .int .i64 h.bc, .bool h.bh, .bool h.bl]
/-- a block from a place on reads as these trees -/
def FoR (w : World) : Nat → Nat → Fo → Prop
  | _, _, .nil => True
  | b, o, .cons h k r => (∀ j v, h.cells[j]? = some v → w.cell? ⟨b, o + j, none⟩ = some v) ∧
      (∃ A n c, w.cell? ⟨b, o + 13, none⟩ = some (.slice A n c) ∧ (arity k = n ∧ n ≤ maxLen) ∧ (n ≠ 0 → ∃ b' o', A = some ⟨b', o', none⟩ ∧ b' < w.heap.size ∧ FoR w b' o' k)) ∧ FoR w b (o + 14) r
/-- a slice that reads as these trees -/
def KidsR (w : World) (A : Option Addr) (n : Nat) (F : Fo) : Prop := (arity F = n ∧ n ≤ maxLen) ∧ (n ≠ 0 → ∃ b o, A = some ⟨b, o, none⟩ ∧ b < w.heap.size ∧ FoR w b o F)
theorem FoR.on {w w' : World} (hb : Below w.heap.size w w') : ∀ (F : Fo) {b o : Nat}, b < w.heap.size → FoR w b o F → FoR w' b o F
  | .nil, _, _, _, _ => trivial
  | .cons h k r, b, o, hlt, ⟨h1, ⟨A, n, c, h2, h3, h4⟩, h5⟩ => by
    refine ⟨fun j v hj => (hb.cell (p := ⟨b, o + j, none⟩) hlt).trans (h1 j v hj), ⟨A, n, c, (hb.cell (p := ⟨b, o + 13, none⟩) hlt).trans h2, h3, fun hn => ?_⟩, FoR.on hb r hlt h5⟩
    obtain ⟨b', o', e, hlt', hk⟩ := h4 hn
    exact ⟨b', o', e, Nat.lt_of_lt_of_le hlt' hb.size, FoR.on hb k hlt' hk⟩
theorem KidsR.on {w w' : World} {A : Option Addr} {n : Nat} {F : Fo} (h : KidsR w A n F) (hb : Below w.heap.size w w') : KidsR w' A n F := by
  obtain ⟨h1, h2⟩ := h
  refine ⟨h1, fun hn => ?_⟩
  obtain ⟨b, o, e, hlt, hf⟩ := h2 hn
  exact ⟨b, o, e, Nat.lt_of_lt_of_le hlt hb.size, FoR.on hb F hlt hf⟩
/-- the node at a place: its cells, and those below it -/
theorem FoR.at {w : World} : ∀ {F : Fo} {b o : Nat} (i : Nat) {x : Nd}, FoR w b o F → (tops F)[i]? = some x → (∀ j v, x.1.cells[j]? = some v → w.cell? ⟨b, o + i * 14 + j, none⟩ = some v) ∧ ∃ A n c, w.cell? ⟨b, o + i * 14 + 13, none⟩ = some (.slice A n c) ∧ KidsR w A n x.2
  | .nil, _, _, _, _, _, hx => by simp [tops] at hx
  | .cons h k r, b, o, 0, x, ⟨h1, ⟨A, n, c, h2, h3, h4⟩, h5⟩, hx => by
    obtain rfl : (h, k) = x := by simpa [tops] using hx
    rw [Nat.zero_mul, Nat.add_zero]
    exact ⟨h1, A, n, c, h2, h3, h4⟩
  | .cons h k r, b, o, i + 1, x, ⟨h1, h2, h5⟩, hx => by
    have := FoR.at i h5 (by simpa [tops] using hx)
    rw [show o + (i + 1) * 14 = o + 14 + i * 14 from by omega]
    exact this
theorem KidsR.at {w : World} {A : Option Addr} {n : Nat} {F : Fo} (h : KidsR w A n F) {i : Nat} {x : Nd} (hx : (tops F)[i]? = some x) : ∃ b o, A = some ⟨b, o, none⟩ ∧ b < w.heap.size ∧ (∀ j v, x.1.cells[j]? = some v → w.cell? ⟨b, o + i * 14 + j, none⟩ = some v) ∧ ∃ B m c, w.cell? ⟨b, o + i * 14 + 13, none⟩ = some (.slice B m c) ∧ KidsR w B m x.2 := by
  have hi := (List.getElem?_eq_some_iff.1 hx).1
  have hn : n ≠ 0 := by have := h.1.1; unfold arity at this; omega
  obtain ⟨b, o, e, hlt, hf⟩ := h.2 hn
  obtain ⟨h1, h2⟩ := hf.at i hx
  exact ⟨b, o, e, hlt, h1, h2⟩
theorem KidsR.nil (w : World) (A : Option Addr) : KidsR w A 0 .nil := ⟨⟨rfl, Nat.zero_le _⟩, fun h => absurd rfl h⟩
theorem KidsR.get {w : World} {A : Option Addr} {n : Nat} {F : Fo} (h : KidsR w A n F) {i : Nat} (hi : i < n) : ∃ x, (tops F)[i]? = some x := ⟨_, List.getElem?_eq_getElem (by have := h.1.1; unfold arity at this; omega)⟩
/-- a node as it lies in a row: what it has, and the slice of those below it -/
structure El where
  h : Hd
  A : Option Addr
  n : Nat
  c : Nat
  f : Fo
def El.cells (e : El) : List Value := e.h.cells ++ [.slice e.A e.n e.c]
def El.nd (e : El) : Nd := (e.h, e.f)
def flatE : List El → List Value
  | [] => []
  | e :: r => e.cells ++ flatE r
theorem flatE_length : ∀ L : List El, (flatE L).length = L.length * 14
  | [] => rfl
  | e :: r => by
    have ih := flatE_length r
    rw [flatE, List.length_append, ih, List.length_cons]
    show 14 + _ = _
    omega
theorem flatE_append : ∀ L M : List El, flatE (L ++ M) = flatE L ++ flatE M
  | [], _ => rfl
  | e :: r, M => by rw [List.cons_append, flatE, flatE, flatE_append r M, List.append_assoc]
theorem flatE_at : ∀ (L : List El) (i : Nat) (e : El), L[i]? = some e → ∀ j x, e.cells[j]? = some x → (flatE L)[i * 14 + j]? = some x
  | [], _, _, h, _, _, _ => by simp at h
  | u :: r, 0, e, h, j, x, hj => by
    simp at h
    subst h
    have hl := (List.getElem?_eq_some_iff.1 hj).1
    rw [flatE, Nat.zero_mul, Nat.zero_add, List.getElem?_append_left hl]
    exact hj
  | u :: r, i + 1, e, h, j, x, hj => by
    have ih := flatE_at r i e (by simpa using h) j x hj
    rw [flatE, List.getElem?_append_right (by show 14 ≤ _; omega)]
    rw [← ih]
    congr 1
    show (i + 1) * 14 + j - 14 = i * 14 + j
    omega
/-- all of a row's nodes read as what they are -/
def Good (w : World) (L : List El) : Prop := ∀ e ∈ L, KidsR w e.A e.n e.f
theorem Good.on {w w' : World} {L : List El} (h : Good w L) (hb : Below w.heap.size w w') : Good w' L := fun e he => (h e he).on hb
/-- a slice that reads as these nodes in a row -/
def ElsR (w : World) (A : Option Addr) (n : Nat) (L : List El) : Prop :=
  L.length = n ∧ (n ≠ 0 → ∃ b o, A = some ⟨b, o, none⟩ ∧ b < w.heap.size ∧ ∀ i e, L[i]? = some e → ∀ j x, e.cells[j]? = some x → w.cell? ⟨b, o + i * 14 + j, none⟩ = some x)
theorem ElsR.on {w w' : World} {A : Option Addr} {n : Nat} {L : List El} (h : ElsR w A n L) (hb : Below w.heap.size w w') : ElsR w' A n L := by
  obtain ⟨h1, h3⟩ := h
  refine ⟨h1, fun hn => ?_⟩
  obtain ⟨b, o, e, hlt, hc⟩ := h3 hn
  exact ⟨b, o, e, Nat.lt_of_lt_of_le hlt hb.size, fun i e he j x hj => (hb.cell (p := ⟨b, o + i * 14 + j, none⟩) hlt).trans (hc i e he j x hj)⟩
/-- a row of one's own of nodes -/
def OwnE (B : Nat) (v : Value) (L : List El) (w : World) : Prop := w.ownsRow B 28 14 v L.length (flatE L)
theorem OwnE.on {B : Nat} {w w' : World} {v : Value} {L : List El} (h : OwnE B v L w) (hb : Below w.heap.size w w') : OwnE B v L w' := own_on h hb
theorem OwnE.append {B : Nat} {w : World} {v : Value} {L M : List El} {m : Nat} (hm : M.length = m) (h : w.ownsRow B 28 14 v (L.length + m) (flatE L ++ flatE M)) : OwnE B v (L ++ M) w := by
  unfold OwnE
  rw [flatE_append, List.length_append, hm]
  exact h
theorem OwnE.reads {B : Nat} {v : Value} {L : List El} {w : World} (h : OwnE B v L w) : ∃ A cap, v = .slice A L.length cap ∧ ElsR w A L.length L := by
  have h0 := h
  rcases h.2 with ⟨rfl, h1⟩ | ⟨g, cap, cur, rfl, hb, hgt, hrest⟩
  · exact ⟨_, _, by rw [h1], rfl, fun hn => absurd h1 hn⟩
  · refine ⟨_, _, rfl, rfl, fun hn => ⟨g, 0, rfl, (Array.getElem?_eq_some_iff.1 hgt).1, fun i e he j x hj => ?_⟩⟩
    have h1 := (List.getElem?_eq_some_iff.1 he).1
    have h2 : j < 14 := (List.getElem?_eq_some_iff.1 hj).1
    have e2 := World.ownsRow.cellAt h0 (i * 14 + j) (by omega)
    rw [Nat.zero_add, e2]
    exact flatE_at L i e he j x hj
end Go.Proofs.YtcgpggknmhlnkaaGreatDoor.Nod
