/- The reference's small functions: how a value is taken, what is told, counted, the units, the other sign.
   A slice that reads as tables. No function of the program is named here. -/
import Derived.Test.YtebjedbppiphgaaGreatDoorKop28
import Derived.Test.YtebjedbppiphgaaGreatDoorKop20
import Derived.Test.YtebjedbppiphgaaGreatDoorKop22
namespace Go.Proofs.YtebjedbppiphgaaGreatDoor.Cal
open Go.RowKit Kit Reg Dec Dig Val Fld
open Txt (GotS)
/-- a value stored as the result, in memory of the call's own -/
theorem val_ends {w w1 : World} {g : Nat} {a b c : Value} (hA : CellsAt w1 g [a, b, c]) (hb : Below w.heap.size w w1) (hg : w.heap.size ≤ g) (x y z : Value) :
    (g < w1.heap.size ∧ w1.cell? ⟨g, 0, none⟩ = some a ∧ w1.cell? ⟨g, 1, none⟩ = some b ∧ w1.cell? ⟨g, 2, none⟩ = some c ∧ w1.frozen? ⟨g, 0, none⟩ = false ∧ w1.frozen? ⟨g, 1, none⟩ = false ∧ w1.frozen? ⟨g, 2, none⟩ = false) ∧
    ((((w1.setCell ⟨g, 0, none⟩ x).setCell ⟨g, 1, none⟩ y).setCell ⟨g, 2, none⟩ z).cell? ⟨g, 0, none⟩ = some x ∧ (((w1.setCell ⟨g, 0, none⟩ x).setCell ⟨g, 1, none⟩ y).setCell ⟨g, 2, none⟩ z).cell? ⟨g, 1, none⟩ = some y ∧
      (((w1.setCell ⟨g, 0, none⟩ x).setCell ⟨g, 1, none⟩ y).setCell ⟨g, 2, none⟩ z).cell? ⟨g, 2, none⟩ = some z) ∧
    Below w.heap.size w (((w1.setCell ⟨g, 0, none⟩ x).setCell ⟨g, 1, none⟩ y).setCell ⟨g, 2, none⟩ z) := by
  obtain ⟨p0, p1, p2, q0, q1, q2⟩ := hA.three
  exact ⟨⟨hA.1, p0, p1, p2, q0, q1, q2⟩, three_set p0 p1 p2, set3 hb hg x y z⟩
theorem second (w : World) (o : Obj) (cs : List Value) (ty : TypeId) : CellsAt ((w.alloc o).alloc (.cells cs.toArray ty)) (w.heap.size + 1) cs ∧ Below w.heap.size w ((w.alloc o).alloc (.cells cs.toArray ty)) := by
  have h := CellsAt.new (w.alloc o) cs ty
  rw [show (w.alloc o).heap.size = w.heap.size + 1 by simp] at h
  exact ⟨h, below2 w o _⟩
theorem first (w : World) (cs : List Value) (ty : TypeId) : CellsAt (w.alloc (.cells cs.toArray ty)) w.heap.size cs ∧ Below w.heap.size w (w.alloc (.cells cs.toArray ty)) := ⟨CellsAt.new w cs ty, below1 w _⟩

theorem rbad_v (c : Int) (h1 : 1 ≤ c) (h2 : c ≤ 7) (w : World) : Calls Tryz.prog 31 #[.int .i64 c] w (ValIs 4 c ⟨#[]⟩ w) := by
  have h := rbad_c c w
  rw [bad_in h1 h2] at h
  exact h
set_option maxRecDepth 100000 in
set_option maxHeartbeats 2000000 in
theorem rtaken_c (k : Nat) (v u : Vl) (hv : Ok v) (hu : takeV k v = u) (w : World) : Calls Tryz.prog 32 #[.int .u8 (k : Int), .agg #[.int .i64 v.k, .int .i64 v.n, .string v.t]] w (IsV u w) := by
  have HN := Lib.hid (fun w1 => rnum_t v hv w1)
  have HT := Lib.hid (fun w1 => rtxt_t v hv w1)
  have HB := Lib.hid (fun w1 => rtru_t v hv w1)
  obtain ⟨vk, vn, vt⟩ := v
  obtain ⟨h2, hb2⟩ := second w (.cells #[.int .i64 vk, .int .i64 vn, .string vt] 23) [.int .i64 0, .int .i64 0, .string ⟨#[]⟩] 23
  unfold takeV at hu
  by_cases c1 : k = 110
  · rw [if_pos c1] at hu
    subst c1
    rw [hu] at HN
    obtain ⟨uk, un, ut⟩ := u
    clear HT HB hu hv
    go_enter Tryz.func32, Tryz.ntmps32
    go_wp2_with fail
    refine (HN.out _).mono ?_
    rintro e w1 ⟨rfl, hb1⟩
    obtain ⟨⟨g0, p0, p1, p2, q0, q1, q2⟩, ⟨z0, z1, z2⟩, hb3⟩ := val_ends (h2.on hb1) (on hb2 hb1) (Nat.le_add_right _ 1) (.int .i64 uk) (.int .i64 un) (.string ut)
    clear h2 hb1 hb2
    go_wp2
    exact bodyPost_ret (v := .agg #[.int .i64 uk, .int .i64 un, .string ut]) (by simp [results, Tryz.results32, go_sem, z0, z1, z2]) rfl ⟨rfl, hb3⟩
  rw [if_neg c1] at hu
  have d1 : ((k : Int) == 110) = false := by rw [beq_eq_false_iff_ne]; omega
  by_cases c2 : k = 115
  · rw [if_pos c2] at hu
    subst c2
    rw [hu] at HT
    obtain ⟨uk, un, ut⟩ := u
    clear HN HB hu hv
    go_enter Tryz.func32, Tryz.ntmps32
    go_wp2_with fail
    refine (HT.out _).mono ?_
    rintro e w1 ⟨rfl, hb1⟩
    obtain ⟨⟨g0, p0, p1, p2, q0, q1, q2⟩, ⟨z0, z1, z2⟩, hb3⟩ := val_ends (h2.on hb1) (on hb2 hb1) (Nat.le_add_right _ 1) (.int .i64 uk) (.int .i64 un) (.string ut)
    clear h2 hb1 hb2
    go_wp2
    exact bodyPost_ret (v := .agg #[.int .i64 uk, .int .i64 un, .string ut]) (by simp [results, Tryz.results32, go_sem, z0, z1, z2]) rfl ⟨rfl, hb3⟩
  rw [if_neg c2] at hu
  have d2 : ((k : Int) == 115) = false := by rw [beq_eq_false_iff_ne]; omega
  by_cases c3 : k = 98
  · rw [if_pos c3] at hu
    subst c3
    rw [hu] at HB
    obtain ⟨uk, un, ut⟩ := u
    clear HT HN hu hv
    go_enter Tryz.func32, Tryz.ntmps32
    go_wp2_with fail
    refine (HB.out _).mono ?_
    rintro e w1 ⟨rfl, hb1⟩
    obtain ⟨⟨g0, p0, p1, p2, q0, q1, q2⟩, ⟨z0, z1, z2⟩, hb3⟩ := val_ends (h2.on hb1) (on hb2 hb1) (Nat.le_add_right _ 1) (.int .i64 uk) (.int .i64 un) (.string ut)
    clear h2 hb1 hb2
    go_wp2
    exact bodyPost_ret (v := .agg #[.int .i64 uk, .int .i64 un, .string ut]) (by simp [results, Tryz.results32, go_sem, z0, z1, z2]) rfl ⟨rfl, hb3⟩
  · rw [if_neg c3] at hu
    have d3 : ((k : Int) == 98) = false := by rw [beq_eq_false_iff_ne]; omega
    subst hu
    clear HT HB HN hv
    clear h2 hb2
    go_enter Tryz.func32, Tryz.ntmps32
    go_wp2
    exact bodyPost_ret (v := .agg #[.int .i64 vk, .int .i64 vn, .string vt]) (by simp [results, Tryz.results32, go_sem]) rfl ⟨rfl, below2 _ _ _⟩
set_option maxRecDepth 100000 in
set_option maxHeartbeats 2000000 in
theorem rtold_c (m : List UInt8) (b : Bool) (hm : m.length ≤ 256) (w : World) : Calls Tryz.prog 39 #[.agg #[.string ⟨m.toArray⟩, .bool b]] w (IsV (tV (m, b)) w) := by
  obtain ⟨h2, hb2⟩ := second w (.cells #[.string ⟨m.toArray⟩, .bool b] 59) [.int .i64 0, .int .i64 0, .string ⟨#[]⟩] 23
  cases b
  · have HB := Lib.hid (fun w1 => rbad_v 2 (by decide) (by decide) w1)
    show Calls Tryz.prog 39 #[.agg #[.string ⟨m.toArray⟩, .bool false]] w (ValIs 4 2 ⟨#[]⟩ w)
    go_enter Tryz.func39, Tryz.ntmps39
    go_wp2_with fail
    refine (HB.out _).mono ?_
    rintro e w1 ⟨rfl, hb1⟩
    obtain ⟨⟨g0, p0, p1, p2, q0, q1, q2⟩, ⟨z0, z1, z2⟩, hb3⟩ := val_ends (h2.on hb1) (on hb2 hb1) (Nat.le_add_right _ 1) (.int .i64 4) (.int .i64 2) (.string ⟨#[]⟩)
    clear h2 hb1 hb2
    go_wp2
    exact bodyPost_ret (v := .agg #[.int .i64 4, .int .i64 2, .string ⟨#[]⟩]) (by simp [results, Tryz.results39, go_sem, z0, z1, z2]) rfl ⟨rfl, hb3⟩
  · have HS := Lib.hid (fun w1 => rstr_in_c ⟨m.toArray⟩ hm w1)
    show Calls Tryz.prog 39 #[.agg #[.string ⟨m.toArray⟩, .bool true]] w (ValIs 2 0 ⟨m.toArray⟩ w)
    go_enter Tryz.func39, Tryz.ntmps39
    go_wp2_with fail
    refine (HS.out _).mono ?_
    rintro e w1 ⟨rfl, hb1⟩
    obtain ⟨⟨g0, p0, p1, p2, q0, q1, q2⟩, ⟨z0, z1, z2⟩, hb3⟩ := val_ends (h2.on hb1) (on hb2 hb1) (Nat.le_add_right _ 1) (.int .i64 2) (.int .i64 0) (.string ⟨m.toArray⟩)
    clear h2 hb1 hb2
    go_wp2
    exact bodyPost_ret (v := .agg #[.int .i64 2, .int .i64 0, .string ⟨m.toArray⟩]) (by simp [results, Tryz.results39, go_sem, z0, z1, z2]) rfl ⟨rfl, hb3⟩
/-- a value as a number, where it is one, and where it is none -/
theorem rnum_x (v : Vl) (hv : Ok v) (x : Int) (h : numT v = nV x) (w : World) : Calls Tryz.prog 16 #[.agg #[.int .i64 v.k, .int .i64 v.n, .string v.t]] w (ValIs 1 x ⟨#[]⟩ w) := by
  have e := rnum_t v hv w
  rw [h] at e
  exact e
theorem rnum_f (v : Vl) (hv : Ok v) (c : Int) (h : numT v = fV c) (w : World) : Calls Tryz.prog 16 #[.agg #[.int .i64 v.k, .int .i64 v.n, .string v.t]] w (ValIs 4 c ⟨#[]⟩ w) := by
  have e := rnum_t v hv w
  rw [h] at e
  exact e
def minV (v : Vl) : Vl := if (numT v).k = 4 then numT v else nV (-(numT v).n)
theorem min_x {v : Vl} {x : Int} (h : numT v = nV x) : minV v = nV (-x) := by unfold minV; rw [h]; exact if_neg (by simp [nV])
theorem min_f {v : Vl} {c : Int} (h : numT v = fV c) : minV v = fV c := by unfold minV; rw [h]; exact if_pos rfl
set_option maxRecDepth 100000 in
set_option maxHeartbeats 2000000 in
theorem rminus_c (v : Vl) (hv : Ok v) (w : World) : Calls Tryz.prog 12 #[.agg #[.int .i64 v.k, .int .i64 v.n, .string v.t]] w (IsV (minV v) w) := by
  obtain ⟨h2, hb2⟩ := second w (.cells #[.int .i64 v.k, .int .i64 v.n, .string v.t] 23) [.int .i64 0, .int .i64 0, .string ⟨#[]⟩] 23
  rcases num_ways hv with ⟨x, hx, x1, x2⟩ | ⟨c, hc, c1, c2⟩
  · have HN := Lib.hid (fun w1 => rnum_x v hv x hx w1)
    rw [min_x hx]
    show Calls Tryz.prog 12 #[.agg #[.int .i64 v.k, .int .i64 v.n, .string v.t]] w (ValIs 1 (-x) ⟨#[]⟩ w)
    have HM := Lib.hid (fun w1 => rnum_in_c (-x) (decide_eq_true (by omega)) w1)
    obtain ⟨vk, vn, vt⟩ := v
    clear hv hx
    go_enter Tryz.func12, Tryz.ntmps12
    go_wp2_with fail
    refine (HN.out _).mono ?_
    rintro e w1 ⟨rfl, hb1⟩
    replace h2 := (h2.on hb1).on_alloc (.cells #[.int .i64 1, .int .i64 x, .string ⟨#[]⟩] 23)
    replace hb2 := on_alloc (on hb2 hb1) (.cells #[.int .i64 1, .int .i64 x, .string ⟨#[]⟩] 23)
    clear hb1
    go_wp2_with fail
    refine (HM.out _).mono ?_
    rintro e w2 ⟨rfl, hb1⟩
    obtain ⟨⟨g0, p0, p1, p2, q0, q1, q2⟩, ⟨z0, z1, z2⟩, hb3⟩ := val_ends (h2.on hb1) (on hb2 hb1) (Nat.le_add_right _ 1) (.int .i64 1) (.int .i64 (-x)) (.string ⟨#[]⟩)
    clear h2 hb1 hb2
    go_wp2
    exact bodyPost_ret (v := .agg #[.int .i64 1, .int .i64 (-x), .string ⟨#[]⟩]) (by simp [results, Tryz.results12, go_sem, z0, z1, z2]) rfl ⟨rfl, hb3⟩
  · have HN := Lib.hid (fun w1 => rnum_f v hv c hc w1)
    rw [min_f hc]
    show Calls Tryz.prog 12 #[.agg #[.int .i64 v.k, .int .i64 v.n, .string v.t]] w (ValIs 4 c ⟨#[]⟩ w)
    obtain ⟨vk, vn, vt⟩ := v
    clear hv hc
    go_enter Tryz.func12, Tryz.ntmps12
    go_wp2_with fail
    refine (HN.out _).mono ?_
    rintro e w1 ⟨rfl, hb1⟩
    replace h2 := (h2.on hb1).on_alloc (.cells #[.int .i64 4, .int .i64 c, .string ⟨#[]⟩] 23)
    replace hb2 := on_alloc (on hb2 hb1) (.cells #[.int .i64 4, .int .i64 c, .string ⟨#[]⟩] 23)
    clear hb1
    obtain ⟨⟨g0, p0, p1, p2, q0, q1, q2⟩, ⟨z0, z1, z2⟩, hb3⟩ := val_ends h2 hb2 (Nat.le_add_right _ 1) (.int .i64 4) (.int .i64 c) (.string ⟨#[]⟩)
    clear h2 hb2
    go_wp2
    exact bodyPost_ret (v := .agg #[.int .i64 4, .int .i64 c, .string ⟨#[]⟩]) (by simp [results, Tryz.results12, go_sem, z0, z1, z2]) rfl ⟨rfl, hb3⟩
end Go.Proofs.YtebjedbppiphgaaGreatDoor.Cal
namespace Go.Proofs.YtebjedbppiphgaaGreatDoor.Cal
open Go.RowKit Kit Fld
/-- a table: its rows and columns, where its values lie, and these -/
structure Tb where
  r : Int
  c : Int
  A : Option Addr
  n : Nat
  d : Nat
  L : List Vl
def Tb.cells (t : Tb) : List Value := [.int .i64 t.r, .int .i64 t.c, .slice t.A t.n t.d]
/-- its values read as they are told, unless they are too many; there are at least none -/
def Tb.Reads (w : World) (t : Tb) : Prop := t.n ≤ 1000 → ValsR w t.A t.n t.L
theorem Tb.Reads.on {w w' : World} {t : Tb} (h : t.Reads w) (hb : Below w.heap.size w w') : t.Reads w' := fun hn => (h hn).on hb
/-- a slice, nil too, that reads as a list of tables -/
def TabsR (w : World) (A : Option Addr) (n : Nat) (T : List Tb) : Prop :=
  T.length = n ∧ (∀ t ∈ T, t.Reads w) ∧ (n ≠ 0 → ∃ b o, A = some ⟨b, o, none⟩ ∧ b < w.heap.size ∧ ∀ k t, T[k]? = some t → ∀ j x, t.cells[j]? = some x → w.cell? ⟨b, o + k * 3 + j, none⟩ = some x)
theorem TabsR.on {w w' : World} {A : Option Addr} {n : Nat} {T : List Tb} (h : TabsR w A n T) (hb : Below w.heap.size w w') : TabsR w' A n T := by
  obtain ⟨h1, hu, h3⟩ := h
  refine ⟨h1, fun t ht => (hu t ht).on hb, fun hn => ?_⟩
  obtain ⟨b, o, rfl, hlt, hc⟩ := h3 hn
  exact ⟨b, o, rfl, Nat.lt_of_lt_of_le hlt hb.size, fun k v hk j x hj => (hb.cell (p := ⟨b, o + k * 3 + j, none⟩) hlt).trans (hc k v hk j x hj)⟩
/-- the table at a place: its three cells -/
theorem TabsR.at {w : World} {A : Option Addr} {n : Nat} {T : List Tb} (h : TabsR w A n T) {k : Nat} {t : Tb} (hk : T[k]? = some t) : ∃ b o, A = some ⟨b, o, none⟩ ∧ b < w.heap.size ∧
    w.cell? ⟨b, o + k * 3, none⟩ = some (.int .i64 t.r) ∧ w.cell? ⟨b, o + k * 3 + 1, none⟩ = some (.int .i64 t.c) ∧ w.cell? ⟨b, o + k * 3 + 2, none⟩ = some (.slice t.A t.n t.d) := by
  obtain ⟨h1, _, h3⟩ := h
  have hlt := (List.getElem?_eq_some_iff.1 hk).1
  obtain ⟨b, o, e, hb, hc⟩ := h3 (by omega)
  exact ⟨b, o, e, hb, hc k t hk 0 _ rfl, hc k t hk 1 _ rfl, hc k t hk 2 _ rfl⟩
theorem TabsR.get {w : World} {A : Option Addr} {n : Nat} {T : List Tb} (h : TabsR w A n T) {k : Nat} (hk : k < n) : ∃ t, T[k]? = some t := ⟨_, List.getElem?_eq_getElem (by rw [h.1]; exact hk)⟩
theorem TabsR.reads {w : World} {A : Option Addr} {n : Nat} {T : List Tb} (h : TabsR w A n T) {k : Nat} {t : Tb} (hk : T[k]? = some t) : t.Reads w := h.2.1 t (List.mem_of_getElem? hk)
end Go.Proofs.YtebjedbppiphgaaGreatDoor.Cal
