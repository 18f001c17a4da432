/- The first fault and the numbers of a list: what the program's Numbers, the reference's Fault and Numbers answer, for every list of values that reads as one.
   Values as texts, and what Concat answers: the program's and the reference's.
   Any value that may be, taken as a number, a text, a truth: the program's and the reference's.
   The reference's small functions: how a value is taken, what is told, counted, the units, the other sign.
   A slice that reads as tables. No function of the program is named here. -/
import Derived.Test.YtebjedbppiphgaaGreatDoorKtu22
import Derived.Laws.OwnMore
import Derived.Test.YtebjedbppiphgaaGreatDoorKtu14
import Derived.Test.YtebjedbppiphgaaGreatDoorKtu11
import Derived.Test.YtebjedbppiphgaaGreatDoorKtu23
import Derived.Test.YtebjedbppiphgaaGreatDoorKtu20
import Derived.Test.YtebjedbppiphgaaGreatDoorKtu21
namespace Go.Proofs.YtebjedbppiphgaaGreatDoor.Fld
open Go.RowKit Kit Reg Dec Dig Val Txt
theorem infoI : (Tryz.prog.info? 2).map (fun i => (i.zero, i.size, i.bytes)) = some (some (.int .i64 0), 1, 8) := by kernel_rfl
theorem one_new {w : World} {g : Nat} (hg : g = w.heap.size) (x : Value) (ty : TypeId) : ∀ j u, [x][j]? = some u → (w.alloc (.cells #[x] ty)).cell? ((⟨g, 0, none⟩ : Addr).add j) = some u := by
  intro j u hj
  rw [show ((⟨g, 0, none⟩ : Addr).add j) = ⟨g, j, none⟩ by unfold Addr.add; split <;> simp_all, hg]
  exact ((CellsAt.new w [x] ty).2 j u hj).1
theorem one_cells (x : Value) (h : x.oneCell' = true) : ∀ u ∈ [x], u.oneCell' = true := fun u hu => by
  simp only [List.mem_singleton] at hu
  subst hu
  exact h
/-- what stays behind an append to a row of one's own -/
theorem own_below {B : Nat} {e : TypeId} {size : Nat} {w0 w w' : World} {v : Value} {n : Nat} {xs : List Value} {o : Obj} (h : w.ownsRow B e size v n xs) (hb : Below w0.heap.size w0 w) (hB : w0.heap.size ≤ B) (hg : (w.alloc o).grownBy w' v.ownBlock) : Below w0.heap.size w0 w' :=
  (on_alloc hb _).grown hg (by have := hb.size; simp; omega) (fun b e => Nat.le_trans hB (World.ownsRow.lt h b e).1)
theorem OwnI.snoc {B : Nat} {w : World} {v : Value} {xs : List Int} (x : Int) (h : w.ownsRow B 2 1 v (xs.length + 1) (xs.map (Value.int .i64) ++ [.int .i64 x])) : OwnI B v (xs ++ [x]) w := by
  unfold OwnI
  rw [List.map_append, List.length_append]
  exact h
/-- a list's numbers, and the empty value -/
def NumsEnd (xs : List Int) (w : World) (e : Ending) (w' : World) : Prop := ∃ A c, e = .returned (.tuple #[.slice A xs.length c, .agg #[.int .i64 0, .int .i64 0, .string ⟨#[]⟩]]) ∧ IntsR w' A xs ∧ Below w.heap.size w w'
/-- .. and where there is no memory there is none to spare -/
def NumsCap (xs : List Int) (w : World) (e : Ending) (w' : World) : Prop := ∃ A c, e = .returned (.tuple #[.slice A xs.length c, .agg #[.int .i64 0, .int .i64 0, .string ⟨#[]⟩]]) ∧ (IntsR w' A xs ∧ (A = none → c = 0)) ∧ Below w.heap.size w w'
theorem OwnI.none_ {B n c : Nat} {A : Option Addr} {xs : List Int} {w : World} (h : OwnI B (.slice A n c) xs w) (hA : A = none) : c = 0 := by
  rcases h.2 with ⟨h1, _⟩ | ⟨g, cap, cur, h1, _⟩
  · simp only [Value.slice.injEq] at h1
    exact h1.2.2
  · subst hA
    simp only [Value.slice.injEq] at h1
    cases h1.1
set_option maxRecDepth 100000 in
set_option maxHeartbeats 2000000 in
theorem numbers_cap (A : Option Addr) (n cap : Nat) (L : List Vl) (hf : NoF L) (w : World) (hz : ValsR w A n L) :
    Calls Tryz.prog 128 #[.slice A n cap] w (NumsCap (numsF L) w) := by
  obtain ⟨i0, hi, hz0, hz1, hz2⟩ := info_parts infoI
  have HZ := Lib.hid hz
  have HF := Lib.hid hf
  have hn9 := hz.2.1
  have hb0 := below1 w (.cells #[.int .i64 0, .int .i64 0, .string ⟨#[]⟩] 23)
  have hr := CellsAt.new w [.int .i64 0, .int .i64 0, .string ⟨#[]⟩] 23
  have hrow := World.ownsRow_lit (base := w.heap.size + 1) (e := 2) (size := 1) (w.alloc (.cells #[.int .i64 0, .int .i64 0, .string ⟨#[]⟩] 23)) #[] 0 (by simp) (by simp [maxLen]) rfl
  rw [show (w.alloc (.cells #[.int .i64 0, .int .i64 0, .string ⟨#[]⟩] 23)).heap.size = w.heap.size + 1 by simp] at hrow
  replace hb0 := on_alloc hb0 (.cells #[] 2)
  replace hr := hr.on_alloc (.cells #[] 2)
  clear hz hf
  go_enter Tryz.func128, Tryz.ntmps128
  go_wp2_with fail
  generalize (w.alloc (.cells #[.int .i64 0, .int .i64 0, .string ⟨#[]⟩] 23)).alloc (.cells #[] 2) = W at *
  go_loopw [4, 10] (fun o i wr => ∃ k : Nat, k ≤ n ∧ i = .int .i64 k ∧ OwnI (w.heap.size + 1) o (numsF (L.take k)) wr ∧ Below w.heap.size w wr ∧ CellsAt wr w.heap.size [.int .i64 0, .int .i64 0, .string ⟨#[]⟩]) (fun _ i _ => n - (intOf i).toNat)
  case atStart => exact ⟨0, Nat.zero_le _, rfl, hrow, hb0, hr⟩
  case round =>
    clear hb0 hr hrow
    obtain ⟨k, hk, rfl, hrow, hb0, hr⟩ := hrel
    have hlen : (numsF (L.take k)).length ≤ k := Nat.le_trans (numsF_len _) (by rw [List.length_take]; omega)
    by_cases hlt : k < n
    · obtain ⟨v, hv⟩ := HZ.out.get hlt
      obtain ⟨b, o, rfl, hb, c0, c1, c2⟩ := (HZ.out.on hb0).at hv
      have h4 := HF.out.at hv
      obtain ⟨vk, vn, vt⟩ := v
      dsimp only at c0 c1 c2 h4
      have q4 : (vk == 4) = false := by simpa using h4
      clear h4
      have HV := Lib.hid hv
      have hls : (wr.alloc (.cells #[.int .i64 vk, .int .i64 vn, .string vt] 23)).heap.size = wr.heap.size + 1 := by simp
      have hbx := below1 wr (.cells #[.int .i64 vk, .int .i64 vn, .string vt] 23)
      replace hb0 := on_alloc hb0 (.cells #[.int .i64 vk, .int .i64 vn, .string vt] 23)
      replace hr := hr.on_alloc (.cells #[.int .i64 vk, .int .i64 vn, .string vt] 23)
      replace hrow := hrow.on hbx
      have hx := CellsAt.new wr [.int .i64 vk, .int .i64 vn, .string vt] 23
      obtain ⟨x0, x1, x2, _⟩ := hx.three
      have hs0 := hb0.size
      clear hv hbx
      by_cases h1 : vk = 1
      · have HN : Hid (numsF (L.take (k + 1)) = numsF (L.take k) ++ [vn]) := Lib.hid (numsF_hit HV.out h1)
        subst h1
        clear HV
        generalize numsF (L.take k) = xs at *
        unfold OwnI at hrow
        go_wp2_with (at_builtin; refine wpList_append_own _ rfl _ _ 85 rfl (w.heap.size + 1) 2 i0 (.int .i64 0) 1 8 Tryz.underlying85 hi hz0 hz1 hz2 rfl (by decide) _ _ _ rfl (hrow.alloc _) ⟨_, 0, none⟩ 1 1 [.int .i64 vn] rfl rfl (one_new (by simp) _ _) (one_cells _ rfl) (by unfold maxLen; omega) (by omega) (by simp; omega) ?_)
        intro v1 w2 hown1 hg1 _
        have hb3 := own_below hrow hb0 (by omega) hg1
        have hrow1 := OwnI.snoc vn hown1
        replace hr := cells_grown (hr.on_alloc _) hg1 (own_far hrow (by omega))
        clear hown1 hg1 hrow hb0 c0 c1 c2 x0 x1 x2
        go_wp2
        go_roundw
        case rel => exact ⟨k + 1, by omega, by go_num, by rw [HN.out]; exact hrow1, hb3, hr⟩
        case measure => simp [intOf]; omega
      · have HN : Hid (numsF (L.take (k + 1)) = numsF (L.take k)) := Lib.hid (numsF_miss HV.out h1)
        have q1 : (vk == 1) = false := by simpa using h1
        clear HV
        go_wp2_with fail
        go_roundw
        case rel => exact ⟨k + 1, by omega, by go_num, by rw [HN.out]; exact hrow, hb0, hr⟩
        case measure => simp [intOf]; omega
    · obtain rfl : k = n := by omega
      rw [List.take_of_length_le (by rw [HZ.out.1]; omega)] at hrow hlen
      obtain ⟨A2, c2, rfl, hread⟩ := hrow.reads
      have hcap := hrow.none_
      obtain ⟨p0, p1, p2, f0, f1, f2⟩ := hr.three
      obtain ⟨z0, z1, z2⟩ := three_set (u := .int .i64 0) (v := .int .i64 0) (r := .string ⟨#[]⟩) p0 p1 p2
      have hb3 := set3 hb0 (Nat.le_refl _) (.int .i64 0) (.int .i64 0) (.string ⟨#[]⟩)
      have hl := hr.1
      have HR : Hid (IntsR (((wr.setCell ⟨w.heap.size, 0, none⟩ (.int .i64 0)).setCell ⟨w.heap.size, 1, none⟩ (.int .i64 0)).setCell ⟨w.heap.size, 2, none⟩ (.string ⟨#[]⟩)) A2 (numsF L)) := Lib.hid (by
        have h2 := hrow
        obtain ⟨A3, c3, e3, h3⟩ := OwnI.reads (show OwnI (w.heap.size + 1) (.slice A2 (numsF L).length c2) (numsF L) (((wr.setCell ⟨w.heap.size, 0, none⟩ (.int .i64 0)).setCell ⟨w.heap.size, 1, none⟩ (.int .i64 0)).setCell ⟨w.heap.size, 2, none⟩ (.string ⟨#[]⟩)) from
          ownsRow_setCell_below (ownsRow_setCell_below (ownsRow_setCell_below h2 (by simp) _) (by simp) _) (by simp) _)
        simp only [Value.slice.injEq] at e3
        obtain ⟨rfl, _, _⟩ := e3
        exact h3)
      clear hrow hread
      go_wp2_with fail
      exact bodyPost_ret (v := .tuple #[.slice A2 (numsF L).length c2, .agg #[.int .i64 0, .int .i64 0, .string ⟨#[]⟩]]) (by simp [results, Tryz.results128, go_sem, z0, z1, z2]) rfl ⟨A2, c2, rfl, ⟨HR.out, hcap⟩, hb3⟩
theorem numbers_no (A : Option Addr) (n cap : Nat) (L : List Vl) (hf : NoF L) (w : World) (hz : ValsR w A n L) :
    Calls Tryz.prog 128 #[.slice A n cap] w (NumsEnd (numsF L) w) :=
  (numbers_cap A n cap L hf w hz).mono fun _ _ ⟨A2, c2, he, hr, hb⟩ => ⟨A2, c2, he, hr.1, hb⟩
end Go.Proofs.YtebjedbppiphgaaGreatDoor.Fld
namespace Go.Proofs.YtebjedbppiphgaaGreatDoor.Fld
open Go.RowKit Kit Reg Dec Dig Val Txt
theorem infoT : (Tryz.prog.info? 9).map (fun i => (i.zero, i.size, i.bytes)) = some (some (.string ⟨#[]⟩), 1, 16) := by kernel_rfl
theorem OwnT.snoc {B : Nat} {w : World} {v : Value} {xs : List (List UInt8)} {x : List UInt8} {y : ByteArray} (hy : Hid (y = ⟨x.toArray⟩)) (h : w.ownsRow B 9 1 v (xs.length + 1) ((xs.map fun l => Value.string ⟨l.toArray⟩) ++ [.string y])) : OwnT B v (xs ++ [x]) w := by
  unfold OwnT
  rw [List.map_append, List.length_append]
  rw [hy.out] at h
  exact h
theorem text_is {t : ByteArray} {l : List UInt8} (h : t.data.toList = l) : t = ⟨l.toArray⟩ := Dig.bytes_eq (by simp [h])
theorem text_c (v : Vl) (hm : v.may) (hf : v.fits) (h4 : ¬ v.k = 4) (w : World) (hL : Dig.Libs w) : Calls Tryz.prog 112 #[.agg #[.int .i64 v.k, .int .i64 v.n, .string v.t]] w (ValIs 2 0 ⟨(wordsF v).toArray⟩ w) := by
  rcases may_ways hm with rfl | ⟨x, rfl, _⟩ | ⟨t, rfl, _⟩ | rfl | rfl | ⟨x, rfl, _⟩
  · exact astext_e w
  · exact (astext_n x hf.1 hf.2 w hL).mono fun e w' ⟨s, he, hs, hb⟩ => by
      obtain rfl := text_is hs
      exact ⟨he, hb⟩
  · show Calls Tryz.prog 112 #[.agg #[.int .i64 2, .int .i64 0, .string t]] w (ValIs 2 0 ⟨t.data.toList.toArray⟩ w)
    have e : (⟨t.data.toList.toArray⟩ : ByteArray) = t := (text_is rfl).symm
    rw [e]
    exact astext_t t w
  · exact astext_b0 w
  · exact astext_b1 w
  · exact absurd rfl h4
theorem text_bad (v : Vl) (hm : v.may) (h4 : v.k = 4) (w : World) : Calls Tryz.prog 112 #[.agg #[.int .i64 v.k, .int .i64 v.n, .string v.t]] w (ValIs 4 v.n ⟨#[]⟩ w) := by
  rw [may_fault hm h4]
  exact astext_f v.n w
end Go.Proofs.YtebjedbppiphgaaGreatDoor.Fld
namespace Go.Proofs.YtebjedbppiphgaaGreatDoor.Cal
open Go.RowKit Kit Reg Dec Dig Val Fld
/-- a call answers a value -/
def IsV (v : Vl) (w : World) : Ending → World → Prop := ValIs v.k v.n v.t w
theorem num_c (v : Vl) (hv : Ok v) (w : World) (hL : Dig.Libs w) : Calls Tryz.prog 19 #[.agg #[.int .i64 v.k, .int .i64 v.n, .string v.t]] w (IsV (numT v) w) := by
  rcases may_ways hv.1 with rfl | ⟨n, rfl, h⟩ | ⟨t, rfl, h⟩ | rfl | rfl | ⟨n, rfl, h1, h2⟩
  · exact asnum_e w
  · exact asnum_n n w
  · obtain ⟨x, b, e⟩ : ∃ x b, readD t.data.toList = (x, b) := ⟨_, _, rfl⟩
    cases b
    · rw [show numT ⟨2, 0, t⟩ = fV 2 by show (if (readD t.data.toList).2 = true then _ else _) = _; rw [e]; rfl]
      exact asnum_tno t (by omega) x e w hL
    · rw [show numT ⟨2, 0, t⟩ = nV x by show (if (readD t.data.toList).2 = true then _ else _) = _; rw [e]; rfl]
      exact asnum_tyes t (by omega) x e w hL
  · exact asnum_b0 w
  · exact asnum_b1 w
  · exact asnum_f n w
theorem txt_c (v : Vl) (hv : Ok v) (w : World) (hL : Dig.Libs w) : Calls Tryz.prog 112 #[.agg #[.int .i64 v.k, .int .i64 v.n, .string v.t]] w (IsV (txtT v) w) := by
  by_cases h : v.k = 4
  · rw [show txtT v = fV v.n from if_pos h]
    exact text_bad v hv.1 h w
  · rw [show txtT v = sV (wordsF v) from if_neg h]
    exact text_c v hv.1 hv.2 h w hL
end Go.Proofs.YtebjedbppiphgaaGreatDoor.Cal
namespace Go.Proofs.YtebjedbppiphgaaGreatDoor.Cal
open Go.RowKit Kit Reg Dec Dig Val Fld
/-- a value stored as the result, in memory of the call's own -/
theorem val_ends {w w1 : World} {g : Nat} {a b c : Value} (hA : CellsAt w1 g [a, b, c]) (hb : Below w.heap.size w w1) (hg : w.heap.size ≤ g) (x y z : Value) :
    (g < w1.heap.size ∧ w1.cell? ⟨g, 0, none⟩ = some a ∧ w1.cell? ⟨g, 1, none⟩ = some b ∧ w1.cell? ⟨g, 2, none⟩ = some c ∧ w1.frozen? ⟨g, 0, none⟩ = false ∧ w1.frozen? ⟨g, 1, none⟩ = false ∧ w1.frozen? ⟨g, 2, none⟩ = false) ∧
    ((((w1.setCell ⟨g, 0, none⟩ x).setCell ⟨g, 1, none⟩ y).setCell ⟨g, 2, none⟩ z).cell? ⟨g, 0, none⟩ = some x ∧ (((w1.setCell ⟨g, 0, none⟩ x).setCell ⟨g, 1, none⟩ y).setCell ⟨g, 2, none⟩ z).cell? ⟨g, 1, none⟩ = some y ∧
      (((w1.setCell ⟨g, 0, none⟩ x).setCell ⟨g, 1, none⟩ y).setCell ⟨g, 2, none⟩ z).cell? ⟨g, 2, none⟩ = some z) ∧
    Below w.heap.size w (((w1.setCell ⟨g, 0, none⟩ x).setCell ⟨g, 1, none⟩ y).setCell ⟨g, 2, none⟩ z) := by
  obtain ⟨p0, p1, p2, q0, q1, q2⟩ := hA.three
  exact ⟨⟨hA.1, p0, p1, p2, q0, q1, q2⟩, three_set p0 p1 p2, set3 hb hg x y z⟩
theorem second (w : World) (o : Obj) (cs : List Value) (ty : TypeId) : CellsAt ((w.alloc o).alloc (.cells cs.toArray ty)) (w.heap.size + 1) cs ∧ Below w.heap.size w ((w.alloc o).alloc (.cells cs.toArray ty)) := by
  have h := CellsAt.new (w.alloc o) cs ty
  rw [show (w.alloc o).heap.size = w.heap.size + 1 by simp] at h
  exact ⟨h, below2 w o _⟩
theorem first (w : World) (cs : List Value) (ty : TypeId) : CellsAt (w.alloc (.cells cs.toArray ty)) w.heap.size cs ∧ Below w.heap.size w (w.alloc (.cells cs.toArray ty)) := ⟨CellsAt.new w cs ty, below1 w _⟩

def minV (v : Vl) : Vl := if (numT v).k = 4 then numT v else nV (-(numT v).n)
theorem min_x {v : Vl} {x : Int} (h : numT v = nV x) : minV v = nV (-x) := by unfold minV; rw [h]; exact if_neg (by simp [nV])
theorem min_f {v : Vl} {c : Int} (h : numT v = fV c) : minV v = fV c := by unfold minV; rw [h]; exact if_pos rfl
end Go.Proofs.YtebjedbppiphgaaGreatDoor.Cal
namespace Go.Proofs.YtebjedbppiphgaaGreatDoor.Cal
open Go.RowKit Kit Fld
/-- a table: its rows and columns, where its values lie, and these -/
structure Tb where
  r : Int
  c : Int
  A : Option Addr
  n : Nat
  d : Nat
  L : List Vl
def Tb.cells (t : Tb) : List Value := [.int .i64 t.r, .int .i64 t.c, .slice t.A t.n t.d]
/-- its values read as they are told, unless they are too many; there are at least none -/
def Tb.Reads (w : World) (t : Tb) : Prop := t.n ≤ 1000 → ValsR w t.A t.n t.L
theorem Tb.Reads.on {w w' : World} {t : Tb} (h : t.Reads w) (hb : Below w.heap.size w w') : t.Reads w' := fun hn => (h hn).on hb
/-- a slice, nil too, that reads as a list of tables -/
def TabsR (w : World) (A : Option Addr) (n : Nat) (T : List Tb) : Prop :=
  T.length = n ∧ (∀ t ∈ T, t.Reads w) ∧ (n ≠ 0 → ∃ b o, A = some ⟨b, o, none⟩ ∧ b < w.heap.size ∧ ∀ k t, T[k]? = some t → ∀ j x, t.cells[j]? = some x → w.cell? ⟨b, o + k * 3 + j, none⟩ = some x)
theorem TabsR.on {w w' : World} {A : Option Addr} {n : Nat} {T : List Tb} (h : TabsR w A n T) (hb : Below w.heap.size w w') : TabsR w' A n T := by
  obtain ⟨h1, hu, h3⟩ := h
  refine ⟨h1, fun t ht => (hu t ht).on hb, fun hn => ?_⟩
  obtain ⟨b, o, rfl, hlt, hc⟩ := h3 hn
  exact ⟨b, o, rfl, Nat.lt_of_lt_of_le hlt hb.size, fun k v hk j x hj => (hb.cell (p := ⟨b, o + k * 3 + j, none⟩) hlt).trans (hc k v hk j x hj)⟩
/-- the table at a place: its three cells -/
theorem TabsR.at {w : World} {A : Option Addr} {n : Nat} {T : List Tb} (h : TabsR w A n T) {k : Nat} {t : Tb} (hk : T[k]? = some t) : ∃ b o, A = some ⟨b, o, none⟩ ∧ b < w.heap.size ∧
    w.cell? ⟨b, o + k * 3, none⟩ = some (.int .i64 t.r) ∧ w.cell? ⟨b, o + k * 3 + 1, none⟩ = some (.int .i64 t.c) ∧ w.cell? ⟨b, o + k * 3 + 2, none⟩ = some (.slice t.A t.n t.d) := by
  obtain ⟨h1, _, h3⟩ := h
  have hlt := (List.getElem?_eq_some_iff.1 hk).1
  obtain ⟨b, o, e, hb, hc⟩ := h3 (by omega)
  exact ⟨b, o, e, hb, hc k t hk 0 _ rfl, hc k t hk 1 _ rfl, hc k t hk 2 _ rfl⟩
theorem TabsR.get {w : World} {A : Option Addr} {n : Nat} {T : List Tb} (h : TabsR w A n T) {k : Nat} (hk : k < n) : ∃ t, T[k]? = some t := ⟨_, List.getElem?_eq_getElem (by rw [h.1]; exact hk)⟩
theorem TabsR.reads {w : World} {A : Option Addr} {n : Nat} {T : List Tb} (h : TabsR w A n T) {k : Nat} {t : Tb} (hk : T[k]? = some t) : t.Reads w := h.2.1 t (List.mem_of_getElem? hk)
end Go.Proofs.YtebjedbppiphgaaGreatDoor.Cal
