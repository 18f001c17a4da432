/- The program's ofNumbers: functions of one number, or of two. Written by wip/gen21e.py.
   What the reference's Rept and Put answer: for texts of at most 400 bytes.
   The program's ofTexts: functions of one text, of two, of three. Written by wip/gen21f.py.
   What the reference's LARGE, SMALL and RANK answer. Written by wip/gen20f.py. -/
import Derived.Test.YtebjedbppiphgaaGreatDoorKtu31
import Derived.Test.YtebjedbppiphgaaGreatDoorKtu38
import Derived.Test.YtebjedbppiphgaaGreatDoorKtu22
import Derived.Lib.AppendStr
import Derived.Test.YtebjedbppiphgaaGreatDoorKtu24
import Derived.Test.YtebjedbppiphgaaGreatDoorKtu21
import Derived.Test.YtebjedbppiphgaaGreatDoorKtu19
import Derived.Lib.BufferWrite
import Derived.Laws.MakeOwn
import Derived.Laws.CopyOwn
import Derived.Test.YtebjedbppiphgaaGreatDoorKtu34
import Derived.BigQuiet
namespace Go.Proofs.YtebjedbppiphgaaGreatDoor.Cal
open Go.RowKit Kit Reg Dec Dig Val Fld
open Txt (StrsO)
theorem numbers_bad (A : Option Addr) (n cap : Nat) (L : List Vl) (hok : ∀ v ∈ L, Ok v) (p : Nat) (v : Vl) (hv : L[p]? = some v) (h4 : (numT v).k = 4) (hno : ∀ (k : Nat) (u : Vl), k < p → L[k]? = some u → ¬ (numT u).k = 4) (w : World) (hz : ValsR w A n L) (hL : Dig.Libs w) :
    Calls Tryz.prog 77 #[.slice A n cap] w (FaultGot (numT v) w) := by
  have hp : p < n := by rw [← hz.1]; exact (List.getElem?_eq_some_iff.1 hv).1
  exact (numbers_walk A n cap L hok p (Nat.le_of_lt hp) hno (fun _ => ⟨v, hv, h4⟩) w hz hL).mono fun _ _ h => h.2 v hp hv
theorem numbers_good (A : Option Addr) (n cap : Nat) (L : List Vl) (hok : ∀ v ∈ L, Ok v) (hno : ∀ v ∈ L, ¬ (numT v).k = 4) (w : World) (hz : ValsR w A n L) (hL : Dig.Libs w) :
    Calls Tryz.prog 77 #[.slice A n cap] w (NumsCap (L.map numN) w) :=
  (numbers_walk A n cap L hok n (Nat.le_refl _) (fun _ u _ hu => hno u (List.mem_of_getElem? hu)) (fun h => absurd h (Nat.lt_irrefl _)) w hz hL).mono fun _ _ h => h.1 rfl
theorem texts_bad (A : Option Addr) (n cap : Nat) (L : List Vl) (hok : ∀ v ∈ L, Ok v) (p : Nat) (v : Vl) (hv : L[p]? = some v) (h4 : (txtT v).k = 4) (hno : ∀ (k : Nat) (u : Vl), k < p → L[k]? = some u → ¬ (txtT u).k = 4) (w : World) (hz : ValsR w A n L) (hL : Dig.Libs w) :
    Calls Tryz.prog 84 #[.slice A n cap] w (FaultGot (txtT v) w) := by
  have hp : p < n := by rw [← hz.1]; exact (List.getElem?_eq_some_iff.1 hv).1
  exact (texts_walk A n cap L hok p (Nat.le_of_lt hp) hno (fun _ => ⟨v, hv, h4⟩) w hz hL).mono fun _ _ h => h.2 v hp hv
theorem texts_good (A : Option Addr) (n cap : Nat) (L : List Vl) (hok : ∀ v ∈ L, Ok v) (hno : ∀ v ∈ L, ¬ (txtT v).k = 4) (w : World) (hz : ValsR w A n L) (hL : Dig.Libs w) :
    Calls Tryz.prog 84 #[.slice A n cap] w (TextsGot (L.map wordsF) w) :=
  (texts_walk A n cap L hok n (Nat.le_refl _) (fun _ u _ hu => hno u (List.mem_of_getElem? hu)) (fun h => absurd h (Nat.lt_irrefl _)) w hz hL).mono fun _ _ h => h.1 rfl
theorem numbers_reads (A : Option Addr) (n cap : Nat) (L : List Vl) (hok : ∀ v ∈ L, Ok v) (xs : List Int) (h : L.map numT = xs.map nV) (w : World) (hz : ValsR w A n L) (hL : Dig.Libs w) :
    Calls Tryz.prog 77 #[.slice A n cap] w fun e w' => ∃ A2 c2, e = .returned (.tuple #[.slice A2 n c2, .agg #[.int .i64 0, .int .i64 0, .string ⟨#[]⟩]]) ∧ IntsR w' A2 xs ∧ Below w.heap.size w w' := by
  have e1 : L.map numN = xs := by
    have h2 := congrArg (List.map Vl.n) h
    rw [List.map_map, List.map_map] at h2
    have h3 : xs.map (Vl.n ∘ nV) = xs := by
      rw [show Vl.n ∘ nV = id from rfl, List.map_id]
    rw [h3] at h2
    exact h2
  have e2 : (L.map numN).length = n := by rw [List.length_map, hz.1]
  refine (numbers_good A n cap L hok (fun v hv => ?_) w hz hL).mono fun e w' ⟨A2, c2, he, ⟨hr, _⟩, hb⟩ => ?_
  · have hm : numT v ∈ xs.map nV := by rw [← h]; exact List.mem_map.2 ⟨v, hv, rfl⟩
    obtain ⟨x, _, hx⟩ := List.mem_map.1 hm
    rw [← hx]
    simp [nV]
  · rw [e2] at he
    rw [e1] at hr
    exact ⟨A2, c2, he, hr, hb⟩
/-- a slice that reads as texts -/
def StrsB (w : World) (A : Option Addr) (ts : List ByteArray) : Prop := ∃ g o, A = some ⟨g, o, none⟩ ∧ g < w.heap.size ∧ ∀ i t, ts[i]? = some t → w.cell? ⟨g, o + i, none⟩ = some (.string t)
theorem StrsB.on {w w' : World} {A : Option Addr} {ts : List ByteArray} (h : StrsB w A ts) (hb : Below w.heap.size w w') : StrsB w' A ts := by
  obtain ⟨g, o, hA, hg, h⟩ := h
  exact ⟨g, o, hA, Nat.lt_of_lt_of_le hg hb.size, fun i c hc => (hb.cell (p := ⟨g, o + i, none⟩) hg).trans (h i c hc)⟩
theorem texts_reads (A : Option Addr) (n cap : Nat) (L : List Vl) (hok : ∀ v ∈ L, Ok v) (ts : List ByteArray) (hne : ts ≠ []) (h : L.map txtT = ts.map (fun t => (⟨2, 0, t⟩ : Vl))) (w : World) (hz : ValsR w A n L) (hL : Dig.Libs w) :
    Calls Tryz.prog 84 #[.slice A n cap] w fun e w' => ∃ A2 c2, e = .returned (.tuple #[.slice A2 n c2, .agg #[.int .i64 0, .int .i64 0, .string ⟨#[]⟩]]) ∧ StrsB w' A2 ts ∧ Below w.heap.size w w' := by
  have hw : ∀ v ∈ L, txtT v = sV (wordsF v) := fun v hv => by
    have hm : txtT v ∈ ts.map (fun t => (⟨2, 0, t⟩ : Vl)) := by rw [← h]; exact List.mem_map.2 ⟨v, hv, rfl⟩
    obtain ⟨x, _, hx⟩ := List.mem_map.1 hm
    unfold txtT at hx ⊢
    split
    · rename_i h4
      rw [if_pos h4] at hx
      simp [fV] at hx
    · rfl
  have e1 : ∀ (i : Nat) (t : ByteArray), ts[i]? = some t → ∃ v, L[i]? = some v ∧ t = ⟨(wordsF v).toArray⟩ := fun i t ht => by
    have h2 : (L.map txtT)[i]? = some ⟨2, 0, t⟩ := by rw [h, List.getElem?_map, ht]; rfl
    rw [List.getElem?_map] at h2
    obtain ⟨v, hv, e⟩ := Option.map_eq_some_iff.1 h2
    refine ⟨v, hv, ?_⟩
    rw [hw v (List.mem_of_getElem? hv)] at e
    simp only [sV, Vl.mk.injEq] at e
    exact e.2.2.symm
  have e2 : (L.map wordsF).length = n := by rw [List.length_map, hz.1]
  refine (texts_good A n cap L hok (fun v hv => by rw [hw v hv]; simp [sV]) w hz hL).mono fun e w' ⟨A2, c2, he, hr, hb⟩ => ?_
  rw [e2] at he
  refine ⟨A2, c2, he, ?_, hb⟩
  rcases hr with hr | ⟨g, o, hA, hg, hc⟩
  · exfalso
    have h3 := congrArg List.length h
    rw [List.map_eq_nil_iff] at hr
    rw [hr] at h3
    exact hne (List.eq_nil_of_length_eq_zero (by simpa using h3.symm))
  · refine ⟨g, o, hA, hg, fun i t ht => ?_⟩
    obtain ⟨v, hv, rfl⟩ := e1 i t ht
    exact hc i _ (by rw [List.getElem?_map, hv]; rfl)
set_option maxRecDepth 100000 in
set_option maxHeartbeats 2000000 in
theorem oftexts_bad (fn : Int) (A : Option Addr) (n cap : Nat) (x : Vl) (h4 : x.k = 4) (w : World) (HN0 : ∀ w1, Below w.heap.size w w1 → Calls Tryz.prog 84 #[.slice A n cap] w1 (FaultGot x w1)) :
    Calls Tryz.prog 51 #[.int .i64 fn, .slice A n cap] w (IsV x w) := by
  obtain ⟨h2, hb2⟩ := first w [.int .i64 0, .int .i64 0, .string ⟨#[]⟩] 23
  obtain ⟨xk, xn, xt⟩ := x
  obtain rfl : xk = 4 := h4
  have HN : Hid (∀ w1, Below w.heap.size w w1 → Calls Tryz.prog 84 #[.slice A n cap] w1 fun e w' => e = .returned (.tuple #[.slice none 0 0, .agg #[.int .i64 4, .int .i64 xn, .string xt]]) ∧ Below w1.heap.size w1 w') := Lib.hid HN0
  have HI : Hid (∀ w1, Calls Tryz.prog 42 #[.agg #[.int .i64 4, .int .i64 xn, .string xt]] w1 fun e w' => e = .returned (.bool true) ∧ Below w1.heap.size w1 w') := Lib.hid (fun w1 => isfault_v 4 xn xt true rfl w1)
  clear HN0
  show Calls Tryz.prog 51 _ w (ValIs 4 xn xt w)
  go_enter Tryz.func51, Tryz.ntmps51
  go_wp2_with fail
  generalize w.alloc (.cells #[.int .i64 0, .int .i64 0, .string ⟨#[]⟩] 23) = W at *
  refine (HN.out _ hb2).mono ?_
  rintro e w1 ⟨rfl, hb1⟩
  replace h2 := (h2.on hb1).on_alloc (.cells #[.int .i64 4, .int .i64 xn, .string xt] 23)
  replace hb2 := on_alloc (on hb2 hb1) (.cells #[.int .i64 4, .int .i64 xn, .string xt] 23)
  clear hb1
  have hx := CellsAt.new w1 [.int .i64 4, .int .i64 xn, .string xt] 23
  obtain ⟨x0, x1, x2, -⟩ := hx.three
  go_wp2_with fail
  generalize w1.alloc (.cells #[.int .i64 4, .int .i64 xn, .string xt] 23) = X1 at *
  refine (HI.out _).mono ?_
  rintro e w2 ⟨rfl, hb1⟩
  replace h2 := h2.on hb1
  replace hb2 := on hb2 hb1
  replace hx := hx.on hb1
  clear x0 x1 x2 hb1
  obtain ⟨x0, x1, x2, -⟩ := hx.three
  obtain ⟨⟨g0, p0, p1, p2, q0, q1, q2⟩, ⟨z0, z1, z2⟩, hb3⟩ := val_ends h2 hb2 (Nat.le_refl _) (.int .i64 4) (.int .i64 xn) (.string xt)
  clear h2 hb2
  go_wp2
  exact bodyPost_ret (v := .agg #[.int .i64 4, .int .i64 xn, .string xt]) (by simp [results, Tryz.results51, go_sem, z0, z1, z2]) rfl ⟨rfl, hb3⟩
end Go.Proofs.YtebjedbppiphgaaGreatDoor.Cal
namespace Go.Proofs.YtebjedbppiphgaaGreatDoor.Txt
open Go.RowKit Kit Reg
theorem own_below {B : Nat} {w0 w w' : World} {v : Value} {n : Nat} {xs : List Value} (h : w.ownsRow B 5 1 v n xs) (hb : Below w0.heap.size w0 w) (hB : w0.heap.size ≤ B) (hg : w.grownBy w' v.ownBlock) : Below w0.heap.size w0 w' :=
  hb.grown hg (by have := hb.size; omega) (fun b e => Nat.le_trans hB (World.ownsRow.lt h b e).1)
end Go.Proofs.YtebjedbppiphgaaGreatDoor.Txt
namespace Go.Proofs.YtebjedbppiphgaaGreatDoor.Cal
open Go.RowKit Kit Reg Dec Dig Val Fld
set_option maxRecDepth 100000 in
set_option maxHeartbeats 2000000 in
theorem ptx_FIND (A : Option Addr) (cap : Nat) (t s : ByteArray) (ht : t.size ≤ 256) (hs : s.size ≤ 256) (w : World) (HN0 : ∀ w1, Below w.heap.size w w1 → Calls Tryz.prog 84 #[.slice A 2 cap] w1 fun e w' => ∃ A2 c2, e = .returned (.tuple #[.slice A2 2 c2, .agg #[.int .i64 0, .int .i64 0, .string ⟨#[]⟩]]) ∧ StrsB w' A2 [t, s] ∧ Below w1.heap.size w1 w') :
    Calls Tryz.prog 51 #[.int .i64 21, .slice A 2 cap] w (IsV (findV t.data.toList s.data.toList) w) := by
  obtain ⟨h2, hb2⟩ := first w [.int .i64 0, .int .i64 0, .string ⟨#[]⟩] 23
  have HN := Lib.hid HN0
  have HI : Hid (∀ w1, Calls Tryz.prog 42 #[.agg #[.int .i64 0, .int .i64 0, .string ⟨#[]⟩]] w1 fun e w' => e = .returned (.bool false) ∧ Below w1.heap.size w1 w') := Lib.hid (fun w1 => isfault_v 0 0 ⟨#[]⟩ false rfl w1)
  have hlen : (Run.ps s.data.toList).length ≤ 256 := Nat.le_trans (Run.ps_len _) (by rw [Dig.len]; exact hs)
  obtain ⟨r0, hr0⟩ : ∃ r0, findO t.data.toList s.data.toList = r0 := ⟨_, rfl⟩
  have HA : Hid (∀ w1, Calls Tryz.prog 110 #[.string t, .string s] w1 fun e w' => e = .returned (Run.foundV r0) ∧ Below w1.heap.size w1 w') := Lib.hid fun w1 => (Run.find_c t s _ _ rfl rfl (by omega) (by omega) w1).mono fun e w' ⟨r, he, hr, hb⟩ => by
    obtain rfl : r0 = r := hr0.symm.trans (find_one hr)
    exact ⟨he, hb⟩
  obtain ⟨n, q, hn, hf, HZ⟩ : ∃ (n : Int) (q : Bool), Run.foundV r0 = .tuple #[.int .i64 n, .bool q] ∧ (0 ≤ n ∧ n ≤ 256) ∧ ∀ w1, Calls Tryz.prog 109 #[.int .i64 (n + 1), .bool q, .int .i64 2] w1 (IsV (findV t.data.toList s.data.toList) w1) := by
    cases r0 with
    | none => exact ⟨0, false, rfl, by omega, fun w1 => by rw [findV_none hr0]; exact placed_no _ 2 (by decide) (by decide) w1⟩
    | some k =>
      have := find_lt hr0
      exact ⟨k, true, rfl, by omega, fun w1 => by rw [findV_some hr0]; exact placed_yes _ 2 (by omega) (by omega) w1⟩
  rw [hn] at HA
  replace HZ := Lib.hid HZ
  obtain ⟨⟨a, b, c⟩, hz⟩ : ∃ v, findV t.data.toList s.data.toList = v := ⟨_, rfl⟩
  rw [hz] at HZ ⊢
  have HZ2 : Hid (∀ w1, Calls Tryz.prog 109 #[.int .i64 (n + 1), .bool q, .int .i64 2] w1 (ValIs a b c w1)) := HZ
  clear HZ hz hr0 hn hlen
  show Calls Tryz.prog 51 _ w (ValIs a b c w)
  clear HN0
  go_enter Tryz.func51, Tryz.ntmps51
  go_wp2_with fail
  generalize w.alloc (.cells #[.int .i64 0, .int .i64 0, .string ⟨#[]⟩] 23) = W at *
  refine (HN.out _ hb2).mono ?_
  rintro e w1 ⟨A2, c2, rfl, hr, hb1⟩
  replace h2 := (h2.on hb1).on_alloc (.cells #[.int .i64 0, .int .i64 0, .string ⟨#[]⟩] 23)
  replace hb2 := on_alloc (on hb2 hb1) (.cells #[.int .i64 0, .int .i64 0, .string ⟨#[]⟩] 23)
  replace hr := hr.on (below1 w1 (.cells #[.int .i64 0, .int .i64 0, .string ⟨#[]⟩] 23))
  clear hb1
  obtain ⟨x0, x1, x2, -⟩ := (CellsAt.new w1 [.int .i64 0, .int .i64 0, .string ⟨#[]⟩] 23).three
  go_wp2_with fail
  generalize w1.alloc (.cells #[.int .i64 0, .int .i64 0, .string ⟨#[]⟩] 23) = X1 at *
  refine (HI.out _).mono ?_
  rintro e w2 ⟨rfl, hb1⟩
  replace h2 := h2.on hb1
  replace hb2 := on hb2 hb1
  replace hr := hr.on hb1
  clear x0 x1 x2 hb1 HN HI
  obtain ⟨g, o, rfl, hg, hc⟩ := hr
  have c0 := hc 0 _ rfl
  have c1 := hc 1 _ rfl
  rw [Nat.add_zero] at c0
  clear hc
  go_wp2_with fail
  have C0 := fun d os => cell_regrown c0 d os
  have C1 := fun d os => cell_regrown c1 d os
  clear c0 c1
  refine wp_region_mem 12 (fun d => match d with
    | 94 => some (Is (.tuple #[.int .i64 n, .bool q]))
    | _ => none) (by kernel_rfl) (by kernel_rfl) ?_
  simp only [List.take_succ_cons, List.take_zero, List.drop_succ_cons, List.drop_zero]
  repeat (first | ((with_reducible refine wpM_calm ?_ ?_ ?_ ?_); exact rfl; exact rfl; exact rfl; intro K hK; go_big_quiet_op; go_big_quiet_on) | ((with_reducible refine wpM_skip ?_ ?_); exact rfl; simp only [Act.put, List.setIfInBounds_toArray, List.set_cons_succ, List.set_cons_zero]))
  refine wpM_exact rfl rfl rfl Tryz.func110 (by kernel_rfl) (by kernel_rfl) (fun w1 hw1 _ => HA.out w1) rfl (by simp only [Act.put, List.setIfInBounds_toArray, List.set_cons_succ, List.set_cons_zero]; rfl) ?_
  repeat (first | ((with_reducible refine wpM_calm ?_ ?_ ?_ ?_); exact rfl; exact rfl; exact rfl; intro K hK; go_big_quiet_op; go_big_quiet_on) | ((with_reducible refine wpM_skip ?_ ?_); exact rfl; simp only [Act.put, List.setIfInBounds_toArray, List.set_cons_succ, List.set_cons_zero]))
  refine wpM_nil ?_
  intro w3 hw3 _
  replace h2 := h2.on hw3
  replace hb2 := on hb2 hw3
  clear hw3 HA C0 C1
  have n1 := hf.1
  have n2 := hf.2
  go_wp2_with fail
  refine (HZ2.out _).mono ?_
  rintro e w3 ⟨rfl, hb1⟩
  replace h2 := h2.on hb1
  replace hb2 := on hb2 hb1
  clear hb1
  obtain ⟨⟨g0, p0, p1, p2, q0, q1, q2⟩, ⟨z0, z1, z2⟩, hb3⟩ := val_ends h2 hb2 (Nat.le_refl _) (.int .i64 a) (.int .i64 b) (.string c)
  clear h2 hb2
  go_wp2
  exact bodyPost_ret (v := .agg #[.int .i64 a, .int .i64 b, .string c]) (by simp [results, Tryz.results51, go_sem, z0, z1, z2]) rfl ⟨rfl, hb3⟩
end Go.Proofs.YtebjedbppiphgaaGreatDoor.Cal
namespace Go.Proofs.YtebjedbppiphgaaGreatDoor.Cal
open Go.RowKit Kit Reg Dec Dig Val Fld
/-- a slice that reads as a list's numbers -/
def NumsP (xs : List Int) (v : Value) (w : World) : Prop := ∃ A c, v = .slice A xs.length c ∧ Odr.NumsR w A xs.length c xs
theorem NumsP.up {xs : List Int} {v : Value} {w : World} (h : Up (NumsP xs v) w) : NumsP xs v w := by
  obtain ⟨w1, ⟨A, c, e, h1⟩, hb⟩ := h
  exact ⟨A, c, e, h1.on hb⟩
end Go.Proofs.YtebjedbppiphgaaGreatDoor.Cal
