/- Zones: which label a cell has, the join over cells, and which zone is wrong, in plain lists; and slices that read as zones. No function of the program is named here. -/
import Derived.Test.YtedpgcmmnmlpeaaSpanText
import Derived.Test.YtedpgcmmnmlpeaaLabDefs
import Derived.Test.YtedpgcmmnmlpeaaKit4
namespace Go.Proofs.Ytedpgcmmnmlpeaa.Zone
open Go.RowKit Kit Reg Go.Proofs.Ytedpgcmmnmlpeaa.Span Go.Proofs.Ytedpgcmmnmlpeaa.Lab
open Go.Proofs.Ytedpgcmmnmlpeaa.Cats (U U_or U_zero)

structure Zn where
  a : Int
  b : Int
  c : Int
  d : Int
  l : Int
  s : Nat
def Zn.cells (z : Zn) : List Value := [.int .i64 z.a, .int .i64 z.b, .int .i64 z.c, .int .i64 z.d, .int .i64 z.l, .int .u64 z.s]
/-- has its span the cell? -/
def Zn.has (z : Zn) (x y : Int) : Bool := hasB z.a z.b z.c z.d x y
/-- a cell's container: the first zone's label that has it -/
def contF : List Zn → Int → Int → Int × Nat
  | [], _, _ => (0, 0)
  | z :: r, x, y => if z.has x y = true then (z.l, z.s) else contF r x y
theorem contF_U : ∀ {zs : List Zn} {x y : Int}, (∀ z ∈ zs, U z.s) → U (contF zs x y).2
  | [], _, _, _ => U_zero
  | z :: r, x, y, h => by
    unfold contF
    split
    · exact h z (by simp)
    · exact contF_U fun u hu => h u (by simp [hu])
theorem drop_at {α : Type} {l : List α} {k : Nat} {z : α} (h : l[k]? = some z) : l.drop k = z :: l.drop (k + 1) := by
  obtain ⟨hk, rfl⟩ := List.getElem?_eq_some_iff.1 h
  exact List.drop_eq_getElem_cons hk
theorem contF_hit {zs : List Zn} {k : Nat} {z : Zn} {x y : Int} (h : zs[k]? = some z) (hh : z.has x y = true) : contF (zs.drop k) x y = (z.l, z.s) := by rw [drop_at h, contF, if_pos hh]
theorem contF_miss {zs : List Zn} {k : Nat} {z : Zn} {x y : Int} (h : zs[k]? = some z) (hh : z.has x y = false) : contF (zs.drop k) x y = contF (zs.drop (k + 1)) x y := by rw [drop_at h, contF, if_neg (by rw [hh]; simp)]
theorem contF_end (zs : List Zn) (x y : Int) : contF (zs.drop zs.length) x y = (0, 0) := by rw [List.drop_length]; rfl
/-- the join of the bottom and the containers of cells -/
def overF (zs : List Zn) (cs : List (Int × Int)) : Int × Nat := cs.foldl (fun a c => (joinI a.1 (contF zs c.1 c.2).1, a.2 ||| (contF zs c.1 c.2).2)) (0, 0)
theorem overF_snoc (zs : List Zn) (cs : List (Int × Int)) (c : Int × Int) : overF zs (cs ++ [c]) = (joinI (overF zs cs).1 (contF zs c.1 c.2).1, (overF zs cs).2 ||| (contF zs c.1 c.2).2) := by simp [overF, List.foldl_append]
theorem over_U {zs : List Zn} (h : ∀ z ∈ zs, U z.s) : ∀ (cs : List (Int × Int)) (a : Int × Nat), U a.2 → U (cs.foldl (fun a c => (joinI a.1 (contF zs c.1 c.2).1, a.2 ||| (contF zs c.1 c.2).2)) a).2
  | [], _, ha => ha
  | _ :: r, _, ha => over_U h r _ (U_or ha (contF_U h))
theorem overF_U {zs : List Zn} (h : ∀ z ∈ zs, U z.s) (cs : List (Int × Int)) : U (overF zs cs).2 := over_U h cs _ U_zero
theorem over_ge {zs : List Zn} (h : ∀ z ∈ zs, U z.s) : ∀ (cs : List (Int × Int)) (a : Int × Nat), U a.2 →
    belowL a.1 a.2 (cs.foldl (fun a c => (joinI a.1 (contF zs c.1 c.2).1, a.2 ||| (contF zs c.1 c.2).2)) a).1 (cs.foldl (fun a c => (joinI a.1 (contF zs c.1 c.2).1, a.2 ||| (contF zs c.1 c.2).2)) a).2 = true ∧
    ∀ c ∈ cs, belowL (contF zs c.1 c.2).1 (contF zs c.1 c.2).2 (cs.foldl (fun a c => (joinI a.1 (contF zs c.1 c.2).1, a.2 ||| (contF zs c.1 c.2).2)) a).1 (cs.foldl (fun a c => (joinI a.1 (contF zs c.1 c.2).1, a.2 ||| (contF zs c.1 c.2).2)) a).2 = true
  | [], a, ha => ⟨below_refl ha, fun c hc => by cases hc⟩
  | d :: r, a, ha => by
    have hd : U (contF zs d.1 d.2).2 := contF_U h
    obtain ⟨h1, h2⟩ := over_ge h r (joinI a.1 (contF zs d.1 d.2).1, a.2 ||| (contF zs d.1 d.2).2) (U_or ha hd)
    have hu := over_U h r (joinI a.1 (contF zs d.1 d.2).1, a.2 ||| (contF zs d.1 d.2).2) (U_or ha hd)
    rw [List.foldl_cons]
    refine ⟨below_trans ha (U_or ha hd) hu (below_join_l ha hd) h1, fun c hc => ?_⟩
    rcases List.mem_cons.1 hc with rfl | hc
    · exact below_trans hd (U_or ha hd) hu (below_join_r ha hd) h1
    · exact h2 c hc
theorem overF_ge {zs : List Zn} (h : ∀ z ∈ zs, U z.s) {cs : List (Int × Int)} {c : Int × Int} (hc : c ∈ cs) : belowL (contF zs c.1 c.2).1 (contF zs c.1 c.2).2 (overF zs cs).1 (overF zs cs).2 = true := (over_ge h cs (0, 0) U_zero).2 c hc
/-- the cells whose container is at or below a label -/
def seenF (zs : List Zn) (cs : List (Int × Int)) (l : Int) (s : Nat) : List (Int × Int) := cs.filter fun c => belowL (contF zs c.1 c.2).1 (contF zs c.1 c.2).2 l s
theorem seenF_all {zs : List Zn} (h : ∀ z ∈ zs, U z.s) (cs : List (Int × Int)) : seenF zs cs (overF zs cs).1 (overF zs cs).2 = cs := List.filter_eq_self.2 fun _ hc => overF_ge h hc
theorem seenF_snoc (zs : List Zn) (cs : List (Int × Int)) (c : Int × Int) (l : Int) (s : Nat) : seenF zs (cs ++ [c]) l s = seenF zs cs l s ++ (if belowL (contF zs c.1 c.2).1 (contF zs c.1 c.2).2 l s = true then [c] else []) := by
  unfold seenF
  rw [List.filter_append]
  congr 1
  rw [List.filter_cons]
  simp
theorem seenF_len (zs : List Zn) (cs : List (Int × Int)) (l : Int) (s : Nat) : (seenF zs cs l s).length ≤ cs.length := List.length_filter_le _ _
/-- what is wrong with a zone at a place -/
def goodS (z : Zn) : Bool := mayS z.a z.b z.c z.d && (decide (z.a ≤ z.c) && decide (z.b ≤ z.d))
def whyI (k : Nat) (z : Zn) (rows cols : Int) : Int :=
  if 31 < k then 10 else if goodS z = false then 1 else if rows ≤ z.c ∨ cols ≤ z.d then 2 else if mayL z.l = false then 7 else 0
/-- the first zone that is wrong from a place on, and why -/
def wrongF : Nat → List Zn → Int → Int → Int × Int
  | _, [], _, _ => (0, 0)
  | k, z :: r, rows, cols => if whyI k z rows cols = 0 then wrongF (k + 1) r rows cols else (k, whyI k z rows cols)
theorem wrongF_hit {zs : List Zn} {k : Nat} {z : Zn} {x y : Int} (h : zs[k]? = some z) (hh : whyI k z x y ≠ 0) : wrongF k (zs.drop k) x y = ((k : Int), whyI k z x y) := by rw [drop_at h, wrongF, if_neg hh]
theorem wrongF_miss {zs : List Zn} {k : Nat} {z : Zn} {x y : Int} (h : zs[k]? = some z) (hh : whyI k z x y = 0) : wrongF k (zs.drop k) x y = wrongF (k + 1) (zs.drop (k + 1)) x y := by rw [drop_at h, wrongF, if_pos hh]
theorem wrongF_end (zs : List Zn) (x y : Int) : wrongF zs.length (zs.drop zs.length) x y = (0, 0) := by rw [List.drop_length]; rfl

/-- a slice, nil too, that reads as a list of zones -/
def ZonesR (w : World) (A : Option Addr) (n : Nat) (zs : List Zn) : Prop :=
  zs.length = n ∧ n ≤ 140737488355328 ∧ (∀ z ∈ zs, U z.s) ∧ (n ≠ 0 → ∃ b o, A = some ⟨b, o, none⟩ ∧ b < w.heap.size ∧ ∀ k z, zs[k]? = some z → ∀ j v, z.cells[j]? = some v → w.cell? ⟨b, o + k * 6 + j, none⟩ = some v)
theorem ZonesR.on {w w' : World} {A : Option Addr} {n : Nat} {zs : List Zn} (h : ZonesR w A n zs) (hb : Below w.heap.size w w') : ZonesR w' A n zs := by
  obtain ⟨h1, h2, hu, h3⟩ := h
  refine ⟨h1, h2, hu, fun hn => ?_⟩
  obtain ⟨b, o, rfl, hlt, hc⟩ := h3 hn
  exact ⟨b, o, rfl, Nat.lt_of_lt_of_le hlt hb.size, fun k z hk j v hj => (hb.cell (p := ⟨b, o + k * 6 + j, none⟩) hlt).trans (hc k z hk j v hj)⟩
/-- a zone's six cells -/
theorem zone_six {w : World} {b o k : Nat} {z : Zn} (h : ∀ j v, z.cells[j]? = some v → w.cell? ⟨b, o + k * 6 + j, none⟩ = some v) :
    w.cell? ⟨b, o + k * 6, none⟩ = some (.int .i64 z.a) ∧ w.cell? ⟨b, o + k * 6 + 1, none⟩ = some (.int .i64 z.b) ∧ w.cell? ⟨b, o + k * 6 + 2, none⟩ = some (.int .i64 z.c) ∧
    w.cell? ⟨b, o + k * 6 + 3, none⟩ = some (.int .i64 z.d) ∧ w.cell? ⟨b, o + k * 6 + 4, none⟩ = some (.int .i64 z.l) ∧ w.cell? ⟨b, o + k * 6 + 5, none⟩ = some (.int .u64 z.s) :=
  ⟨h 0 _ rfl, h 1 _ rfl, h 2 _ rfl, h 3 _ rfl, h 4 _ rfl, h 5 _ rfl⟩
theorem six {w : World} {b : Nat} {x y z u v t : Value} (h : CellsAt w b [x, y, z, u, v, t]) : w.cell? ⟨b, 0, none⟩ = some x ∧ w.cell? ⟨b, 1, none⟩ = some y ∧ w.cell? ⟨b, 2, none⟩ = some z ∧ w.cell? ⟨b, 3, none⟩ = some u ∧ w.cell? ⟨b, 4, none⟩ = some v ∧ w.cell? ⟨b, 5, none⟩ = some t :=
  ⟨(h.2 0 x rfl).1, (h.2 1 y rfl).1, (h.2 2 z rfl).1, (h.2 3 u rfl).1, (h.2 4 v rfl).1, (h.2 5 t rfl).1⟩
end Go.Proofs.Ytedpgcmmnmlpeaa.Zone
