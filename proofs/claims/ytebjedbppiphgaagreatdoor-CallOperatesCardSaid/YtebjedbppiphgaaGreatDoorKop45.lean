/- What the reference's Binary answers. Written by wip/gen20g.py. -/
import Derived.Test.YtebjedbppiphgaaGreatDoorKop43
import Derived.Test.YtebjedbppiphgaaGreatDoorKop44
import Derived.Test.YtebjedbppiphgaaGreatDoorKop21
import Derived.BigQuiet
import Derived.Lib.SlBytesConst
namespace Go.Proofs.YtebjedbppiphgaaGreatDoor.Cal
open Go.RowKit Kit Reg Dec Dig Val Fld
open Txt (GotS StrsO)
/-- two texts in memory that is made for them -/
theorem strs_two (w : World) (s t : ByteArray) : StrsO (w.alloc (.cells #[.string s, .string t] 9)) (some ⟨w.heap.size, 0, none⟩) [s.data.toList, t.data.toList] := by
  have h := (CellsAt.new w [.string s, .string t] 9)
  obtain ⟨c0, c1, -⟩ := h.two
  refine .inr ⟨w.heap.size, 0, rfl, h.1, fun i n hi => ?_⟩
  match i with
  | 0 =>
    obtain rfl : s.data.toList = n := by simpa using hi
    exact c0
  | 1 =>
    obtain rfl : t.data.toList = n := by simpa using hi
    exact c1
  | i + 2 => simp at hi
theorem cell_marked (W : World) (C : Array Value) (ty : TypeId) (f : Nat × Nat) {g k : Nat} {v : Value} (h : C[k]? = some v) (hg : g = W.heap.size) : (W.alloc (.cells C ty f)).cell? ⟨g, k, none⟩ = some v := by
  subst hg
  simp [World.cell?, World.alloc, -World.alloc_eq, h]
/-- how an operator takes both: by its number, counted from 0 on -/
def kinds12 : List Nat := [110, 110, 110, 110, 110, 115, 120, 120, 120, 120, 120, 120]
def kdN (k : Nat) : Nat := kinds12.getD k 0
theorem taken_low {v : Vl} (h : v.may) : v.k = 1 → -9223372036854775807 ≤ v.n := fun h1 => may_num_low h h1
theorem take_low {k : Nat} {v : Vl} (h : k ≤ 4) (hv : Ok v) : (takeV (kdN k) v).k = 1 ∨ (takeV (kdN k) v).k = 4 := by
  have e : kdN k = 110 := by
    have : k = 0 ∨ k = 1 ∨ k = 2 ∨ k = 3 ∨ k = 4 := by omega
    rcases this with rfl | rfl | rfl | rfl | rfl <;> rfl
  rw [e, show takeV 110 v = numT v from if_pos rfl]
  rcases num_ways hv with ⟨x, h, _⟩ | ⟨c, h, _⟩
  · rw [h]; exact .inl rfl
  · rw [h]; exact .inr rfl
theorem sub_add {a b n : Int} {k : Bool} (hb1 : -9223372036854775807 ≤ b) (hb2 : b ≤ 9223372036854775807) (h : subD a b = (n, k)) : addD a (-b) = (n, k) := by
  rw [← h]
  unfold addD subD
  have e : mayD (-b) = mayD b := by
    unfold mayD
    rw [decide_eq_true hb1, decide_eq_true (show -9223372036854775807 ≤ -b by omega)]
  rw [e, Int.sub_eq_add_neg]
/-- what an operator makes of two values that are taken, and are no faults -/
def truthC (k : Nat) (r : Int) : Bool := if k = 6 then decide (r = 0) else if k = 7 then decide (r ≠ 0) else if k = 8 then decide (r < 0) else if k = 9 then decide (r ≤ 0) else if k = 10 then decide (0 < r) else decide (0 ≤ r)
def takenV (k : Nat) (x y : Vl) : Vl := if k ≤ 4 then opV ((k : Int) + 1) x.n y.n else if k = 5 then tV (Txt.roomD (x.t.data.toList ++ y.t.data.toList)) else bV (truthC k (cmpV x y))
def binV (op : Int) (a b : Vl) : Vl := if op < 1 ∨ 12 < op then fV 2 else
  if (takeV (kdN (op.toNat - 1)) a).k = 4 then takeV (kdN (op.toNat - 1)) a else if (takeV (kdN (op.toNat - 1)) b).k = 4 then takeV (kdN (op.toNat - 1)) b else takenV (op.toNat - 1) (takeV (kdN (op.toNat - 1)) a) (takeV (kdN (op.toNat - 1)) b)
theorem binV_at {k : Nat} (hk : k < 12) (a b : Vl) : binV ((k : Int) + 1) a b = if (takeV (kdN k) a).k = 4 then takeV (kdN k) a else if (takeV (kdN k) b).k = 4 then takeV (kdN k) b else takenV k (takeV (kdN k) a) (takeV (kdN k) b) := by
  unfold binV
  rw [if_neg (by omega), show ((k : Int) + 1).toNat - 1 = k by omega]
set_option maxRecDepth 100000 in
set_option maxHeartbeats 2000000 in
theorem rbin_out (op : Int) (ho : op < 1 ∨ 12 < op) (a b : Vl) (w : World) : Calls Tryz.prog 10 #[.int .i64 op, .agg #[.int .i64 a.k, .int .i64 a.n, .string a.t], .agg #[.int .i64 b.k, .int .i64 b.n, .string b.t]] w (IsV (fV 2) w) := by
  obtain ⟨h2, hb2⟩ := third w (.cells #[.int .i64 a.k, .int .i64 a.n, .string a.t] 23) (.cells #[.int .i64 b.k, .int .i64 b.n, .string b.t] 23) [.int .i64 0, .int .i64 0, .string ⟨#[]⟩] 23
  have HB := Lib.hid (fun w1 => rbad_v 2 (by decide) (by decide) w1)
  show Calls Tryz.prog 10 _ w (ValIs (4) (2) (⟨#[]⟩) w)
  by_cases c1 : op < 1
  · have d1 : decide (op < 1) = true := decide_eq_true c1
    go_enter Tryz.func10, Tryz.ntmps10
    go_wp2_with fail
    refine (HB.out _).mono ?_
    rintro e w1 ⟨rfl, hb1⟩
    replace h2 := h2.on hb1
    replace hb2 := on hb2 hb1
    clear hb1
    obtain ⟨⟨g0, p0, p1, p2, q0, q1, q2⟩, ⟨z0, z1, z2⟩, hb3⟩ := val_ends h2 hb2 (Nat.le_add_right _ 2) (.int .i64 4) (.int .i64 2) (.string ⟨#[]⟩)
    clear h2 hb2
    go_wp2
    exact bodyPost_ret (v := .agg #[.int .i64 4, .int .i64 2, .string ⟨#[]⟩]) (by simp [results, Tryz.results10, go_sem, z0, z1, z2]) rfl ⟨rfl, hb3⟩
  · have d1 : decide (op < 1) = false := decide_eq_false c1
    have d2 : decide (12 < op) = true := decide_eq_true (by omega)
    go_enter Tryz.func10, Tryz.ntmps10
    go_wp2_with fail
    refine (HB.out _).mono ?_
    rintro e w1 ⟨rfl, hb1⟩
    replace h2 := h2.on hb1
    replace hb2 := on hb2 hb1
    clear hb1
    obtain ⟨⟨g0, p0, p1, p2, q0, q1, q2⟩, ⟨z0, z1, z2⟩, hb3⟩ := val_ends h2 hb2 (Nat.le_add_right _ 2) (.int .i64 4) (.int .i64 2) (.string ⟨#[]⟩)
    clear h2 hb2
    go_wp2
    exact bodyPost_ret (v := .agg #[.int .i64 4, .int .i64 2, .string ⟨#[]⟩]) (by simp [results, Tryz.results10, go_sem, z0, z1, z2]) rfl ⟨rfl, hb3⟩
set_option maxRecDepth 100000 in
set_option maxHeartbeats 16000000 in
theorem rbin_in (k : Nat) (hk : k < 12) (a b x y : Vl) (ha : Ok a) (hb : Ok b) (hx : takeV (kdN k) a = x) (hy : takeV (kdN k) b = y) (w : World) : Calls Tryz.prog 10 #[.int .i64 ((k : Int) + 1), .agg #[.int .i64 a.k, .int .i64 a.n, .string a.t], .agg #[.int .i64 b.k, .int .i64 b.n, .string b.t]] w (IsV (if x.k = 4 then x else if y.k = 4 then y else takenV k x y) w) := by
  obtain ⟨z, hz⟩ : ∃ z, (if x.k = 4 then x else if y.k = 4 then y else takenV k x y) = z := ⟨_, rfl⟩
  rw [hz]
  replace hz := Lib.hid hz
  have hxo : Ok x := hx ▸ take_ok (kdN k) ha
  have hyo : Ok y := hy ▸ take_ok (kdN k) hb
  have hxw : k ≤ 4 → x.k = 1 ∨ x.k = 4 := fun h => hx ▸ take_low h ha
  have hyw : k ≤ 4 → y.k = 1 ∨ y.k = 4 := fun h => hy ▸ take_low h hb
  have HX := Lib.hid (fun w1 => rtaken_c (kdN k) a x ha hx w1)
  have HY := Lib.hid (fun w1 => rtaken_c (kdN k) b y hb hy w1)
  obtain ⟨kd, hkd⟩ : ∃ q, kdN k = q := ⟨_, rfl⟩
  rw [hkd] at HX HY
  have d1 : decide ((k : Int) + 1 < 1) = false := decide_eq_false (by omega)
  have d2 : decide ((12 : Int) < (k : Int) + 1) = false := decide_eq_false (by omega)
  have HK : Hid (kinds12[k]? = some kd) := Lib.hid (by
    have e : kinds12[k]? = some (kdN k) := by
      unfold kdN
      rw [List.getD_eq_getElem?_getD, List.getElem?_eq_getElem (show k < kinds12.length from hk)]
      rfl
    rw [e, hkd])
  obtain ⟨ak, an, at_⟩ := a
  obtain ⟨bk, bn, bt⟩ := b
  obtain ⟨xk, xn, xt⟩ := x
  obtain ⟨yk, yn, yt⟩ := y
  have HX2 : Hid (∀ w1, Calls Tryz.prog 32 #[.int .u8 (kd : Int), .agg #[.int .i64 ak, .int .i64 an, .string at_]] w1 (ValIs xk xn xt w1)) := HX
  have HY2 : Hid (∀ w1, Calls Tryz.prog 32 #[.int .u8 (kd : Int), .agg #[.int .i64 bk, .int .i64 bn, .string bt]] w1 (ValIs yk yn yt w1)) := HY
  clear ha hb hx hy hkd HX HY
  obtain ⟨h2, hb2⟩ := third w (.cells #[.int .i64 ak, .int .i64 an, .string at_] 23) (.cells #[.int .i64 bk, .int .i64 bn, .string bt] 23) [.int .i64 0, .int .i64 0, .string ⟨#[]⟩] 23
  have hA := ((CellsAt.new w [.int .i64 ak, .int .i64 an, .string at_] 23).on_alloc (.cells #[.int .i64 bk, .int .i64 bn, .string bt] 23)).on_alloc (.cells #[.int .i64 0, .int .i64 0, .string ⟨#[]⟩] 23)
  have hB := (second w (.cells #[.int .i64 ak, .int .i64 an, .string at_] 23) [.int .i64 bk, .int .i64 bn, .string bt] 23).1.on_alloc (.cells #[.int .i64 0, .int .i64 0, .string ⟨#[]⟩] 23)
  have HCV := Go.Lib.run_convert_bytes_const (P := Tryz.prog) (((w.alloc (.cells #[.int .i64 ak, .int .i64 an, .string at_] 23)).alloc (.cells #[.int .i64 bk, .int .i64 bn, .string bt] 23)).alloc (.cells #[.int .i64 0, .int .i64 0, .string ⟨#[]⟩] 23)) 50 5 #[.int .u8 110, .int .u8 110, .int .u8 110, .int .u8 110, .int .u8 110, .int .u8 115, .int .u8 120, .int .u8 120, .int .u8 120, .int .u8 120, .int .u8 120, .int .u8 120] 12 12 Tryz.underlying50 Tryz.underlying5
  rw [show (((w.alloc (.cells #[.int .i64 ak, .int .i64 an, .string at_] 23)).alloc (.cells #[.int .i64 bk, .int .i64 bn, .string bt] 23)).alloc (.cells #[.int .i64 0, .int .i64 0, .string ⟨#[]⟩] 23)).heap.size = w.heap.size + 1 + 1 + 1 by simp] at HCV
  have h3 := h2.on_alloc (.cells #[.int .u8 110, .int .u8 110, .int .u8 110, .int .u8 110, .int .u8 110, .int .u8 115, .int .u8 120, .int .u8 120, .int .u8 120, .int .u8 120, .int .u8 120, .int .u8 120] 5 (12, 13))
  have hA3 := hA.on_alloc (.cells #[.int .u8 110, .int .u8 110, .int .u8 110, .int .u8 110, .int .u8 110, .int .u8 115, .int .u8 120, .int .u8 120, .int .u8 120, .int .u8 120, .int .u8 120, .int .u8 120] 5 (12, 13))
  have hB3 := hB.on_alloc (.cells #[.int .u8 110, .int .u8 110, .int .u8 110, .int .u8 110, .int .u8 110, .int .u8 115, .int .u8 120, .int .u8 120, .int .u8 120, .int .u8 120, .int .u8 120, .int .u8 120] 5 (12, 13))
  have hb3 := on_alloc hb2 (.cells #[.int .u8 110, .int .u8 110, .int .u8 110, .int .u8 110, .int .u8 110, .int .u8 115, .int .u8 120, .int .u8 120, .int .u8 120, .int .u8 120, .int .u8 120, .int .u8 120] 5 (12, 13))
  rw [show w.heap.size + 2 = w.heap.size + 1 + 1 from rfl] at h3
  have hKc : ((((w.alloc (.cells #[.int .i64 ak, .int .i64 an, .string at_] 23)).alloc (.cells #[.int .i64 bk, .int .i64 bn, .string bt] 23)).alloc (.cells #[.int .i64 0, .int .i64 0, .string ⟨#[]⟩] 23)).alloc (.cells #[.int .u8 110, .int .u8 110, .int .u8 110, .int .u8 110, .int .u8 110, .int .u8 115, .int .u8 120, .int .u8 120, .int .u8 120, .int .u8 120, .int .u8 120, .int .u8 120] 5 (12, 13))).cell? ⟨w.heap.size + 1 + 1 + 1, k, none⟩ = some (.int .u8 kd) := by
    have e := HK.out
    have e2 : (#[.int .u8 110, .int .u8 110, .int .u8 110, .int .u8 110, .int .u8 110, .int .u8 115, .int .u8 120, .int .u8 120, .int .u8 120, .int .u8 120, .int .u8 120, .int .u8 120] : Array Value)[k]? = (kinds12[k]?).map fun d => Value.int .u8 (d : Int) := by
      have : k = 0 ∨ k = 1 ∨ k = 2 ∨ k = 3 ∨ k = 4 ∨ k = 5 ∨ k = 6 ∨ k = 7 ∨ k = 8 ∨ k = 9 ∨ k = 10 ∨ k = 11 := by omega
      rcases this with rfl | rfl | rfl | rfl | rfl | rfl | rfl | rfl | rfl | rfl | rfl | rfl <;> rfl
    rw [e] at e2
    exact cell_marked _ _ _ _ e2 (by simp)
  clear h2 hA hB hb2
  go_enter Tryz.func10, Tryz.ntmps10
  go_wp2_with fail
  clear HCV HK
  generalize (((w.alloc (.cells #[.int .i64 ak, .int .i64 an, .string at_] 23)).alloc (.cells #[.int .i64 bk, .int .i64 bn, .string bt] 23)).alloc (.cells #[.int .i64 0, .int .i64 0, .string ⟨#[]⟩] 23)).alloc (.cells #[.int .u8 110, .int .u8 110, .int .u8 110, .int .u8 110, .int .u8 110, .int .u8 115, .int .u8 120, .int .u8 120, .int .u8 120, .int .u8 120, .int .u8 120, .int .u8 120] 5 (12, 13)) = W at *
  obtain ⟨a0, a1, a2, -⟩ := hA3.three
  obtain ⟨b0, b1, b2, -⟩ := hB3.three
  have hlt := h3.1
  have A0 := fun d os => cell_regrown a0 d os
  have A1 := fun d os => cell_regrown a1 d os
  have A2 := fun d os => cell_regrown a2 d os
  have B0 := fun d os => cell_regrown b0 d os
  have B1 := fun d os => cell_regrown b1 d os
  have B2 := fun d os => cell_regrown b2 d os
  have KC := fun d os => cell_regrown hKc d os
  clear a0 a1 a2 b0 b1 b2 hKc hA3 hB3
  refine wp_region_new 16 (fun d => match d with
    | 27 => some (Is (.agg #[.int .i64 xk, .int .i64 xn, .string xt]))
    | 34 => some (Is (.agg #[.int .i64 yk, .int .i64 yn, .string yt]))
    | 8 => some (NewCells W.heap.size [.int .i64 0, .int .i64 0, .string ⟨#[]⟩])
    | 9 => some (NewCells W.heap.size [.int .i64 0, .int .i64 0, .string ⟨#[]⟩])
    | _ => none) (fun d => d == 8 || d == 9) (by kernel_rfl) (by kernel_rfl) ?_
  simp only [List.take_succ_cons, List.take_zero, List.drop_succ_cons, List.drop_zero]
  repeat (first | ((with_reducible refine wpM_calm ?_ ?_ ?_ ?_); exact rfl; exact rfl; exact rfl; intro K hK; go_big_quiet_op; go_big_quiet_on) | ((with_reducible refine wpM_skip ?_ ?_); exact rfl; simp only [Act.put, List.setIfInBounds_toArray, List.set_cons_succ, List.set_cons_zero]))
  refine wpM_exact rfl rfl rfl Tryz.func32 (by kernel_rfl) (by kernel_rfl) (fun w1 _ _ => HX2.out w1) rfl (by simp only [Act.put, List.setIfInBounds_toArray, List.set_cons_succ, List.set_cons_zero]; rfl) ?_
  repeat (first | ((with_reducible refine wpM_calm ?_ ?_ ?_ ?_); exact rfl; exact rfl; exact rfl; intro K hK; go_big_quiet_op; go_big_quiet_on) | ((with_reducible refine wpM_skip ?_ ?_); exact rfl; simp only [Act.put, List.setIfInBounds_toArray, List.set_cons_succ, List.set_cons_zero]))
  refine wpM_exact rfl rfl rfl Tryz.func32 (by kernel_rfl) (by kernel_rfl) (fun w1 _ _ => HY2.out w1) rfl (by simp only [Act.put, List.setIfInBounds_toArray, List.set_cons_succ, List.set_cons_zero]; rfl) ?_
  refine wpM_alloc _ (.cells #[.int .i64 0, .int .i64 0, .string ⟨#[]⟩] 23) rfl rfl rfl (fun w1 => by simp [go_sem]) (fun w1 h1 => (NewCells.mk w1 _ _ h1.size).2) ?_ (by rintro v ⟨_, b, rfl, _⟩; exact ⟨b, rfl⟩)
  intro b8 a' ha'
  simp only [Act.put, List.setIfInBounds_toArray, List.set_cons_succ, List.set_cons_zero] at ha'
  subst ha'
  refine wpM_alloc _ (.cells #[.int .i64 0, .int .i64 0, .string ⟨#[]⟩] 23) rfl rfl rfl (fun w1 => by simp [go_sem]) (fun w1 h1 => (NewCells.mk w1 _ _ h1.size).2) ?_ (by rintro v ⟨_, b, rfl, _⟩; exact ⟨b, rfl⟩)
  intro b9 a' ha'
  simp only [Act.put, List.setIfInBounds_toArray, List.set_cons_succ, List.set_cons_zero] at ha'
  subst ha'
  refine wpM_nil ?_
  intro w3 hw3 hG
  have hne : b8 ≠ b9 := hG.2.1 14 b8 15 b9 (.inl (.inr ⟨rfl, rfl⟩)) (.inr ⟨rfl, rfl⟩) (by decide)
  obtain ⟨hB9, k9⟩ := NewCells.at (Fct.put_at (hG.2.2.1 15))
  obtain ⟨hB8, k8⟩ := NewCells.at (Fct.put_at (Fct.put_old (hG.2.2.1 14)))
  have hs2 := hb3.size
  clear hG A0 A1 A2 B0 B1 B2 KC HX2 HY2
  replace h3 := ((h3.on hw3).put3_far (c := b8) (by omega) (.int .i64 xk) (.int .i64 xn) (.string xt)).put3_far (c := b9) (by omega) (.int .i64 yk) (.int .i64 yn) (.string yt)
  obtain ⟨m0, m1, m2, f0, f1, f2⟩ := k8.three
  obtain ⟨j0, j1, j2, y0, y1, y2⟩ := (k9.put3_far hne (.int .i64 xk) (.int .i64 xn) (.string xt)).three
  have q8 := (k8.put3 (.int .i64 xk) (.int .i64 xn) (.string xt)).put3_far hne.symm (.int .i64 yk) (.int .i64 yn) (.string yt)
  have q9 := (k9.put3_far hne (.int .i64 xk) (.int .i64 xn) (.string xt)).put3 (.int .i64 yk) (.int .i64 yn) (.string yt)
  replace hb3 := set3 (set3 (on hb3 hw3) (b := b8) (by omega) (.int .i64 xk) (.int .i64 xn) (.string xt)) (b := b9) (by omega) (.int .i64 yk) (.int .i64 yn) (.string yt)
  simp only [put3] at h3 q8 q9
  clear k8 k9 hw3
  rename_i aK
  replace aK := Lib.hid aK
  go_wp2_with fail
  generalize (((((w3.setCell ⟨b8, 0, none⟩ (.int .i64 xk)).setCell ⟨b8, 1, none⟩ (.int .i64 xn)).setCell ⟨b8, 2, none⟩ (.string xt)).setCell ⟨b9, 0, none⟩ (.int .i64 yk)).setCell ⟨b9, 1, none⟩ (.int .i64 yn)).setCell ⟨b9, 2, none⟩ (.string yt) = W5 at *
  clear m0 m1 m2 f0 f1 f2 j0 j1 j2 y0 y1 y2
  refine aK.out _ _ ?_
  clear aK
  by_cases x4 : xk = 4
  · subst x4
    obtain rfl : (⟨4, xn, xt⟩ : Vl) = z := by rw [← hz.out]; rfl
    obtain ⟨s0, s1, s2, _⟩ := q8.three
    obtain ⟨⟨g0, p0, p1, p2, q0, q1, q2⟩, ⟨z0, z1, z2⟩, hb4⟩ := val_ends h3 hb3 (by omega) (.int .i64 4) (.int .i64 xn) (.string xt)
    clear h3 hb3 q8 q9 hz hxo hyo
    go_wp2
    exact bodyPost_ret (v := .agg #[.int .i64 4, .int .i64 xn, .string xt]) (by simp [results, Tryz.results10, go_sem, z0, z1, z2]) rfl ⟨rfl, hb4⟩
  have e4 : (xk == 4) = false := by rw [beq_eq_false_iff_ne]; exact x4
  by_cases y4 : yk = 4
  · subst y4
    obtain rfl : (⟨4, yn, yt⟩ : Vl) = z := by rw [← hz.out]; exact ((if_neg x4).trans (if_pos rfl)).symm
    obtain ⟨s0, s1, s2, -⟩ := q8.three
    obtain ⟨t0, t1, t2, -⟩ := q9.three
    obtain ⟨⟨g0, p0, p1, p2, q0, q1, q2⟩, ⟨z0, z1, z2⟩, hb4⟩ := val_ends h3 hb3 (by omega) (.int .i64 4) (.int .i64 yn) (.string yt)
    clear h3 hb3 q8 q9 hz hxo hyo
    go_wp2
    exact bodyPost_ret (v := .agg #[.int .i64 4, .int .i64 yn, .string yt]) (by simp [results, Tryz.results10, go_sem, z0, z1, z2]) rfl ⟨rfl, hb4⟩
  have f4 : (yk == 4) = false := by rw [beq_eq_false_iff_ne]; exact y4
  replace hz : takenV k ⟨xk, xn, xt⟩ ⟨yk, yn, yt⟩ = z := by rw [← hz.out]; exact ((if_neg x4).trans (if_neg y4)).symm
  obtain ⟨r, hr⟩ : ∃ r, cmpV ⟨xk, xn, xt⟩ ⟨yk, yn, yt⟩ = r := ⟨_, rfl⟩
  have HC : Hid (∀ w1, Calls Tryz.prog 33 #[.agg #[.int .i64 xk, .int .i64 xn, .string xt], .agg #[.int .i64 yk, .int .i64 yn, .string yt]] w1 fun e w' => e = .returned (.int .i64 r) ∧ Below w1.heap.size w1 w') := Lib.hid (fun w1 => hr ▸ rcompare_w ⟨xk, xn, xt⟩ ⟨yk, yn, yt⟩ hxo.1 hyo.1 x4 y4 w1)
  have hr3 := cmp_ways3 ⟨xk, xn, xt⟩ ⟨yk, yn, yt⟩
  rw [hr] at hr3
  have hbx := hxo.2
  have hby := hyo.2
  have hsx : xt.size ≤ 256 := Lok.may_size hxo.1
  have hsy : yt.size ≤ 256 := Lok.may_size hyo.1
  have hnx := taken_low hxo.1
  have hny := taken_low hyo.1
  replace hxw : k ≤ 4 → xk = 1 := fun h => (hxw h).resolve_right x4
  replace hyw : k ≤ 4 → yk = 1 := fun h => (hyw h).resolve_right y4
  unfold Vl.fits at hbx hby
  dsimp only at hbx hby hnx hny
  obtain ⟨s0, s1, s2, -⟩ := q8.three
  obtain ⟨t0, t1, t2, -⟩ := q9.three
  clear x4 y4 hxo hyo
  have hk12 : k = 0 ∨ k = 1 ∨ k = 2 ∨ k = 3 ∨ k = 4 ∨ k = 5 ∨ k = 6 ∨ k = 7 ∨ k = 8 ∨ k = 9 ∨ k = 10 ∨ k = 11 := by omega
  rcases hk12 with rfl | rfl | rfl | rfl | rfl | rfl | rfl | rfl | rfl | rfl | rfl | rfl
  · have hzz : gV (addD xn yn) = z := hz
    obtain ⟨⟨m, q⟩, hq⟩ : ∃ y, addD xn yn = y := ⟨_, rfl⟩
    obtain rfl : xk = 1 := hxw (by omega)
    obtain rfl : yk = 1 := hyw (by omega)
    replace hnx := hnx rfl
    replace hny := hny rfl
    obtain ⟨⟨a, b⟩, hg⟩ : ∃ y, gotV m q = y := ⟨_, rfl⟩
    have HA := Lib.hid (fun w1 => radd_c xn yn (by omega) (by omega) m q hq w1)
    have HO := Lib.hid (fun w1 => rof_c m q a b hg w1)
    rw [hq, gV_eq hg] at hzz
    subst hzz
    clear hz hq hg hr hr3 hxw hyw 
    go_wp2_with fail
    refine (HC.out _).mono ?_
    rintro e w1 ⟨rfl, hb1⟩
    replace h3 := h3.on hb1
    replace hb3 := on hb3 hb1
    replace q8 := q8.on hb1
    replace q9 := q9.on hb1
    clear s0 s1 s2 t0 t1 t2 hb1 HC
    obtain ⟨s0, s1, s2, -⟩ := q8.three
    obtain ⟨t0, t1, t2, -⟩ := q9.three
    clear q8 q9
    go_wp2_with fail
    refine (HA.out _).mono ?_
    rintro e w1 ⟨rfl, hb1⟩
    replace h3 := h3.on hb1
    replace hb3 := on hb3 hb1
    clear hb1
    go_wp2_with fail
    refine (HO.out _).mono ?_
    rintro e w1 ⟨rfl, hb1⟩
    replace h3 := h3.on hb1
    replace hb3 := on hb3 hb1
    clear hb1
    obtain ⟨⟨g0, p0, p1, p2, q0, q1, q2⟩, ⟨z0, z1, z2⟩, hb4⟩ := val_ends h3 hb3 (by omega) (.int .i64 a) (.int .i64 b) (.string ⟨#[]⟩)
    clear h3 hb3
    go_wp2
    exact bodyPost_ret (v := .agg #[.int .i64 a, .int .i64 b, .string ⟨#[]⟩]) (by simp [results, Tryz.results10, go_sem, z0, z1, z2]) rfl ⟨rfl, hb4⟩
  · have hzz : gV (subD xn yn) = z := hz
    obtain ⟨⟨m, q⟩, hq⟩ : ∃ y, subD xn yn = y := ⟨_, rfl⟩
    obtain rfl : xk = 1 := hxw (by omega)
    obtain rfl : yk = 1 := hyw (by omega)
    replace hnx := hnx rfl
    replace hny := hny rfl
    obtain ⟨⟨a, b⟩, hg⟩ : ∃ y, gotV m q = y := ⟨_, rfl⟩
    have HA := Lib.hid (fun w1 => radd_c xn (-yn) (by omega) (by omega) m q (sub_add hny hby.2 hq) w1)
    have HO := Lib.hid (fun w1 => rof_c m q a b hg w1)
    rw [hq, gV_eq hg] at hzz
    subst hzz
    clear hz hq hg hr hr3 hxw hyw 
    go_wp2_with fail
    refine (HC.out _).mono ?_
    rintro e w1 ⟨rfl, hb1⟩
    replace h3 := h3.on hb1
    replace hb3 := on hb3 hb1
    replace q8 := q8.on hb1
    replace q9 := q9.on hb1
    clear s0 s1 s2 t0 t1 t2 hb1 HC
    obtain ⟨s0, s1, s2, -⟩ := q8.three
    obtain ⟨t0, t1, t2, -⟩ := q9.three
    clear q8 q9
    go_wp2_with fail
    refine (HA.out _).mono ?_
    rintro e w1 ⟨rfl, hb1⟩
    replace h3 := h3.on hb1
    replace hb3 := on hb3 hb1
    clear hb1
    go_wp2_with fail
    refine (HO.out _).mono ?_
    rintro e w1 ⟨rfl, hb1⟩
    replace h3 := h3.on hb1
    replace hb3 := on hb3 hb1
    clear hb1
    obtain ⟨⟨g0, p0, p1, p2, q0, q1, q2⟩, ⟨z0, z1, z2⟩, hb4⟩ := val_ends h3 hb3 (by omega) (.int .i64 a) (.int .i64 b) (.string ⟨#[]⟩)
    clear h3 hb3
    go_wp2
    exact bodyPost_ret (v := .agg #[.int .i64 a, .int .i64 b, .string ⟨#[]⟩]) (by simp [results, Tryz.results10, go_sem, z0, z1, z2]) rfl ⟨rfl, hb4⟩
  · have hzz : gV (scaledD xn yn 10000) = z := hz
    obtain ⟨⟨m, q⟩, hq⟩ : ∃ y, scaledD xn yn 10000 = y := ⟨_, rfl⟩
    obtain rfl : xk = 1 := hxw (by omega)
    obtain rfl : yk = 1 := hyw (by omega)
    replace hnx := hnx rfl
    replace hny := hny rfl
    obtain ⟨⟨a, b⟩, hg⟩ : ∃ y, gotV m q = y := ⟨_, rfl⟩
    have HA := Lib.hid (fun w1 => rmul_c xn yn (by omega) (by omega) m q hq w1)
    have HO := Lib.hid (fun w1 => rof_c m q a b hg w1)
    rw [hq, gV_eq hg] at hzz
    subst hzz
    clear hz hq hg hr hr3 hxw hyw 
    go_wp2_with fail
    refine (HC.out _).mono ?_
    rintro e w1 ⟨rfl, hb1⟩
    replace h3 := h3.on hb1
    replace hb3 := on hb3 hb1
    replace q8 := q8.on hb1
    replace q9 := q9.on hb1
    clear s0 s1 s2 t0 t1 t2 hb1 HC
    obtain ⟨s0, s1, s2, -⟩ := q8.three
    obtain ⟨t0, t1, t2, -⟩ := q9.three
    clear q8 q9
    go_wp2_with fail
    refine (HA.out _).mono ?_
    rintro e w1 ⟨rfl, hb1⟩
    replace h3 := h3.on hb1
    replace hb3 := on hb3 hb1
    clear hb1
    go_wp2_with fail
    refine (HO.out _).mono ?_
    rintro e w1 ⟨rfl, hb1⟩
    replace h3 := h3.on hb1
    replace hb3 := on hb3 hb1
    clear hb1
    obtain ⟨⟨g0, p0, p1, p2, q0, q1, q2⟩, ⟨z0, z1, z2⟩, hb4⟩ := val_ends h3 hb3 (by omega) (.int .i64 a) (.int .i64 b) (.string ⟨#[]⟩)
    clear h3 hb3
    go_wp2
    exact bodyPost_ret (v := .agg #[.int .i64 a, .int .i64 b, .string ⟨#[]⟩]) (by simp [results, Tryz.results10, go_sem, z0, z1, z2]) rfl ⟨rfl, hb4⟩
  · by_cases y0 : yn = 0
    · obtain rfl : fV 1 = z := by rw [← hz]; exact (if_pos y0).symm
      have HB := Lib.hid (fun w1 => rbad_v 1 (by decide) (by decide) w1)
      obtain rfl : xk = 1 := hxw (by omega)
      obtain rfl : yk = 1 := hyw (by omega)
      subst y0
      clear hz hr hr3 hxw hyw hnx hny
      go_wp2_with fail
      refine (HC.out _).mono ?_
      rintro e w1 ⟨rfl, hb1⟩
      replace h3 := h3.on hb1
      replace hb3 := on hb3 hb1
      replace q8 := q8.on hb1
      replace q9 := q9.on hb1
      clear s0 s1 s2 t0 t1 t2 hb1 HC
      obtain ⟨s0, s1, s2, -⟩ := q8.three
      obtain ⟨t0, t1, t2, -⟩ := q9.three
      clear q8 q9
      go_wp2_with fail
      refine (HB.out _).mono ?_
      rintro e w1 ⟨rfl, hb1⟩
      replace h3 := h3.on hb1
      replace hb3 := on hb3 hb1
      clear hb1
      obtain ⟨⟨g0, p0, p1, p2, q0, q1, q2⟩, ⟨z0, z1, z2⟩, hb4⟩ := val_ends h3 hb3 (by omega) (.int .i64 4) (.int .i64 1) (.string ⟨#[]⟩)
      clear h3 hb3
      go_wp2
      exact bodyPost_ret (v := .agg #[.int .i64 4, .int .i64 1, .string ⟨#[]⟩]) (by simp [results, Tryz.results10, go_sem, z0, z1, z2]) rfl ⟨rfl, hb4⟩
    · have d5 : (yn == 0) = false := by rw [beq_eq_false_iff_ne]; exact y0
      have hzz : gV (scaledD xn 10000 yn) = z := by rw [← hz]; exact (if_neg y0).symm
      obtain ⟨⟨m, q⟩, hq⟩ : ∃ y, scaledD xn 10000 yn = y := ⟨_, rfl⟩
      obtain rfl : xk = 1 := hxw (by omega)
      obtain rfl : yk = 1 := hyw (by omega)
      replace hnx := hnx rfl
      replace hny := hny rfl
      obtain ⟨⟨a, b⟩, hg⟩ : ∃ y, gotV m q = y := ⟨_, rfl⟩
      have HA := Lib.hid (fun w1 => rdiv_c xn yn (by omega) (by omega) m q hq w1)
      have HO := Lib.hid (fun w1 => rof_c m q a b hg w1)
      rw [hq, gV_eq hg] at hzz
      subst hzz
      clear hz hq hg hr hr3 hxw hyw 
      go_wp2_with fail
      refine (HC.out _).mono ?_
      rintro e w1 ⟨rfl, hb1⟩
      replace h3 := h3.on hb1
      replace hb3 := on hb3 hb1
      replace q8 := q8.on hb1
      replace q9 := q9.on hb1
      clear s0 s1 s2 t0 t1 t2 hb1 HC
      obtain ⟨s0, s1, s2, -⟩ := q8.three
      obtain ⟨t0, t1, t2, -⟩ := q9.three
      clear q8 q9
      go_wp2_with fail
      refine (HA.out _).mono ?_
      rintro e w1 ⟨rfl, hb1⟩
      replace h3 := h3.on hb1
      replace hb3 := on hb3 hb1
      clear hb1
      go_wp2_with fail
      refine (HO.out _).mono ?_
      rintro e w1 ⟨rfl, hb1⟩
      replace h3 := h3.on hb1
      replace hb3 := on hb3 hb1
      clear hb1
      obtain ⟨⟨g0, p0, p1, p2, q0, q1, q2⟩, ⟨z0, z1, z2⟩, hb4⟩ := val_ends h3 hb3 (by omega) (.int .i64 a) (.int .i64 b) (.string ⟨#[]⟩)
      clear h3 hb3
      go_wp2
      exact bodyPost_ret (v := .agg #[.int .i64 a, .int .i64 b, .string ⟨#[]⟩]) (by simp [results, Tryz.results10, go_sem, z0, z1, z2]) rfl ⟨rfl, hb4⟩
  · have hzz : gV (Pow.powerD xn yn) = z := hz
    obtain ⟨⟨m, q⟩, hq⟩ : ∃ y, Pow.powerD xn yn = y := ⟨_, rfl⟩
    obtain rfl : xk = 1 := hxw (by omega)
    obtain rfl : yk = 1 := hyw (by omega)
    replace hnx := hnx rfl
    replace hny := hny rfl
    obtain ⟨⟨a, b⟩, hg⟩ : ∃ y, gotV m q = y := ⟨_, rfl⟩
    have HA := Lib.hid (fun w1 => Pow.rpower_c xn yn (by omega) (by omega) m q hq w1)
    have HO := Lib.hid (fun w1 => rof_c m q a b hg w1)
    rw [hq, gV_eq hg] at hzz
    subst hzz
    clear hz hq hg hr hr3 hxw hyw 
    go_wp2_with fail
    refine (HC.out _).mono ?_
    rintro e w1 ⟨rfl, hb1⟩
    replace h3 := h3.on hb1
    replace hb3 := on hb3 hb1
    replace q8 := q8.on hb1
    replace q9 := q9.on hb1
    clear s0 s1 s2 t0 t1 t2 hb1 HC
    obtain ⟨s0, s1, s2, -⟩ := q8.three
    obtain ⟨t0, t1, t2, -⟩ := q9.three
    clear q8 q9
    go_wp2_with fail
    refine (HA.out _).mono ?_
    rintro e w1 ⟨rfl, hb1⟩
    replace h3 := h3.on hb1
    replace hb3 := on hb3 hb1
    clear hb1
    go_wp2_with fail
    refine (HO.out _).mono ?_
    rintro e w1 ⟨rfl, hb1⟩
    replace h3 := h3.on hb1
    replace hb3 := on hb3 hb1
    clear hb1
    obtain ⟨⟨g0, p0, p1, p2, q0, q1, q2⟩, ⟨z0, z1, z2⟩, hb4⟩ := val_ends h3 hb3 (by omega) (.int .i64 a) (.int .i64 b) (.string ⟨#[]⟩)
    clear h3 hb3
    go_wp2
    exact bodyPost_ret (v := .agg #[.int .i64 a, .int .i64 b, .string ⟨#[]⟩]) (by simp [results, Tryz.results10, go_sem, z0, z1, z2]) rfl ⟨rfl, hb4⟩
  · have hl9 : ∀ l ∈ [xt.data.toList, yt.data.toList], l.length ≤ 1000 := fun l hl => by
      rcases List.mem_cons.1 hl with rfl | hl
      · rw [Dig.len]; omega
      · rw [List.mem_singleton.1 hl, Dig.len]; omega
    obtain ⟨⟨m, q⟩, hmq⟩ : ∃ x, Txt.roomD [xt.data.toList, yt.data.toList].flatten = x := ⟨_, rfl⟩
    have hm9 := Txt.room_len hmq
    have HJ := Lib.hid (fun g w1 h => Txt.rjoin_c (some ⟨g, 0, none⟩) 2 2 [xt.data.toList, yt.data.toList] rfl (by decide) hl9 m q hmq w1 h)
    have HN := Lib.hid (fun w1 => rtold_c m q hm9 w1)
    have hzz : tV (m, q) = z := by
      rw [← hz, ← hmq]
      show _ = tV (Txt.roomD (xt.data.toList ++ yt.data.toList))
      simp
    obtain ⟨⟨tk, tn, tt⟩, htv⟩ : ∃ v, tV (m, q) = v := ⟨_, rfl⟩
    rw [htv] at HN hzz
    subst hzz
    have HN2 : Hid (∀ w1, Calls Tryz.prog 39 #[.agg #[.string ⟨m.toArray⟩, .bool q]] w1 (ValIs tk tn tt w1)) := HN
    have HST := Lib.hid (fun (w1 : World) => strs_two w1 xt yt)
    clear hz hr hr3 hxw hyw hnx hny hmq hm9 htv HN hl9
    go_wp2_with fail
    refine (HC.out _).mono ?_
    rintro e w1 ⟨rfl, hb1⟩
    replace h3 := h3.on hb1
    replace hb3 := on hb3 hb1
    replace q8 := q8.on hb1
    replace q9 := q9.on hb1
    clear s0 s1 s2 t0 t1 t2 hb1 HC
    obtain ⟨s0, s1, s2, -⟩ := q8.three
    obtain ⟨t0, t1, t2, -⟩ := q9.three
    clear q8 q9
    go_wp2_with fail
    refine (HJ.out _ _ (HST.out _)).mono ?_
    rintro e w2 ⟨rfl, hb1⟩
    replace h3 := (h3.on_alloc (.cells #[.string xt, .string yt] 9)).on hb1
    replace hb3 := on (on_alloc hb3 (.cells #[.string xt, .string yt] 9)) hb1
    clear hb1 s0 s1 s2 t0 t1 t2
    go_wp2_with fail
    refine (HN2.out _).mono ?_
    rintro e w1 ⟨rfl, hb1⟩
    replace h3 := h3.on hb1
    replace hb3 := on hb3 hb1
    clear hb1
    obtain ⟨⟨g0, p0, p1, p2, q0, q1, q2⟩, ⟨z0, z1, z2⟩, hb4⟩ := val_ends h3 hb3 (by omega) (.int .i64 tk) (.int .i64 tn) (.string tt)
    clear h3 hb3
    go_wp2
    exact bodyPost_ret (v := .agg #[.int .i64 tk, .int .i64 tn, .string tt]) (by simp [results, Tryz.results10, go_sem, z0, z1, z2]) rfl ⟨rfl, hb4⟩
  · obtain ⟨q, hq⟩ : ∃ q, truthC 6 r = q := ⟨_, rfl⟩
    have hzz : bV q = z := by rw [← hz, ← hq, ← hr]; rfl
    obtain ⟨m, hm⟩ : ∃ m : Int, (if q = true then 1 else 0) = m := ⟨_, rfl⟩
    have HB := Lib.hid (fun w1 => rbool_c q w1)
    replace hzz : (⟨3, m, ⟨#[]⟩⟩ : Vl) = z := by rw [← hzz, ← hm]; rfl
    rw [hm] at HB
    subst hzz
    clear hz hr hm hxw hyw hnx hny
    rcases hr3 with rfl | rfl | rfl
    all_goals
      simp [truthC] at hq
      subst hq
      go_wp2_with fail
      refine (HC.out _).mono ?_
      rintro e w1 ⟨rfl, hb1⟩
      replace h3 := h3.on hb1
      replace hb3 := on hb3 hb1
      replace q8 := q8.on hb1
      replace q9 := q9.on hb1
      clear s0 s1 s2 t0 t1 t2 hb1 HC
      obtain ⟨s0, s1, s2, -⟩ := q8.three
      obtain ⟨t0, t1, t2, -⟩ := q9.three
      clear q8 q9
      go_wp2_with fail
      refine (HB.out _).mono ?_
      rintro e w2 ⟨rfl, hb1⟩
      replace h3 := CellsAt.on (CellsAt.on_alloc h3 _) hb1
      replace hb3 := on (on_alloc hb3 _) hb1
      clear hb1 s0 s1 s2 t0 t1 t2
      obtain ⟨⟨g0, p0, p1, p2, q0, q1, q2⟩, ⟨z0, z1, z2⟩, hb4⟩ := val_ends h3 hb3 (by omega) (.int .i64 3) (.int .i64 m) (.string ⟨#[]⟩)
      clear h3 hb3
      go_wp2
      exact bodyPost_ret (v := .agg #[.int .i64 3, .int .i64 m, .string ⟨#[]⟩]) (by simp [results, Tryz.results10, go_sem, z0, z1, z2]) rfl ⟨rfl, hb4⟩
  · obtain ⟨q, hq⟩ : ∃ q, truthC 7 r = q := ⟨_, rfl⟩
    have hzz : bV q = z := by rw [← hz, ← hq, ← hr]; rfl
    obtain ⟨m, hm⟩ : ∃ m : Int, (if q = true then 1 else 0) = m := ⟨_, rfl⟩
    have HB := Lib.hid (fun w1 => rbool_c q w1)
    replace hzz : (⟨3, m, ⟨#[]⟩⟩ : Vl) = z := by rw [← hzz, ← hm]; rfl
    rw [hm] at HB
    subst hzz
    clear hz hr hm hxw hyw hnx hny
    rcases hr3 with rfl | rfl | rfl
    all_goals
      simp [truthC] at hq
      subst hq
      go_wp2_with fail
      refine (HC.out _).mono ?_
      rintro e w1 ⟨rfl, hb1⟩
      replace h3 := h3.on hb1
      replace hb3 := on hb3 hb1
      replace q8 := q8.on hb1
      replace q9 := q9.on hb1
      clear s0 s1 s2 t0 t1 t2 hb1 HC
      obtain ⟨s0, s1, s2, -⟩ := q8.three
      obtain ⟨t0, t1, t2, -⟩ := q9.three
      clear q8 q9
      go_wp2_with fail
      refine (HB.out _).mono ?_
      rintro e w2 ⟨rfl, hb1⟩
      replace h3 := CellsAt.on (CellsAt.on_alloc h3 _) hb1
      replace hb3 := on (on_alloc hb3 _) hb1
      clear hb1 s0 s1 s2 t0 t1 t2
      obtain ⟨⟨g0, p0, p1, p2, q0, q1, q2⟩, ⟨z0, z1, z2⟩, hb4⟩ := val_ends h3 hb3 (by omega) (.int .i64 3) (.int .i64 m) (.string ⟨#[]⟩)
      clear h3 hb3
      go_wp2
      exact bodyPost_ret (v := .agg #[.int .i64 3, .int .i64 m, .string ⟨#[]⟩]) (by simp [results, Tryz.results10, go_sem, z0, z1, z2]) rfl ⟨rfl, hb4⟩
  · obtain ⟨q, hq⟩ : ∃ q, truthC 8 r = q := ⟨_, rfl⟩
    have hzz : bV q = z := by rw [← hz, ← hq, ← hr]; rfl
    obtain ⟨m, hm⟩ : ∃ m : Int, (if q = true then 1 else 0) = m := ⟨_, rfl⟩
    have HB := Lib.hid (fun w1 => rbool_c q w1)
    replace hzz : (⟨3, m, ⟨#[]⟩⟩ : Vl) = z := by rw [← hzz, ← hm]; rfl
    rw [hm] at HB
    subst hzz
    clear hz hr hm hxw hyw hnx hny
    rcases hr3 with rfl | rfl | rfl
    all_goals
      simp [truthC] at hq
      subst hq
      go_wp2_with fail
      refine (HC.out _).mono ?_
      rintro e w1 ⟨rfl, hb1⟩
      replace h3 := h3.on hb1
      replace hb3 := on hb3 hb1
      replace q8 := q8.on hb1
      replace q9 := q9.on hb1
      clear s0 s1 s2 t0 t1 t2 hb1 HC
      obtain ⟨s0, s1, s2, -⟩ := q8.three
      obtain ⟨t0, t1, t2, -⟩ := q9.three
      clear q8 q9
      go_wp2_with fail
      refine (HB.out _).mono ?_
      rintro e w2 ⟨rfl, hb1⟩
      replace h3 := CellsAt.on (CellsAt.on_alloc h3 _) hb1
      replace hb3 := on (on_alloc hb3 _) hb1
      clear hb1 s0 s1 s2 t0 t1 t2
      obtain ⟨⟨g0, p0, p1, p2, q0, q1, q2⟩, ⟨z0, z1, z2⟩, hb4⟩ := val_ends h3 hb3 (by omega) (.int .i64 3) (.int .i64 m) (.string ⟨#[]⟩)
      clear h3 hb3
      go_wp2
      exact bodyPost_ret (v := .agg #[.int .i64 3, .int .i64 m, .string ⟨#[]⟩]) (by simp [results, Tryz.results10, go_sem, z0, z1, z2]) rfl ⟨rfl, hb4⟩
  · obtain ⟨q, hq⟩ : ∃ q, truthC 9 r = q := ⟨_, rfl⟩
    have hzz : bV q = z := by rw [← hz, ← hq, ← hr]; rfl
    obtain ⟨m, hm⟩ : ∃ m : Int, (if q = true then 1 else 0) = m := ⟨_, rfl⟩
    have HB := Lib.hid (fun w1 => rbool_c q w1)
    replace hzz : (⟨3, m, ⟨#[]⟩⟩ : Vl) = z := by rw [← hzz, ← hm]; rfl
    rw [hm] at HB
    subst hzz
    clear hz hr hm hxw hyw hnx hny
    rcases hr3 with rfl | rfl | rfl
    all_goals
      simp [truthC] at hq
      subst hq
      go_wp2_with fail
      refine (HC.out _).mono ?_
      rintro e w1 ⟨rfl, hb1⟩
      replace h3 := h3.on hb1
      replace hb3 := on hb3 hb1
      replace q8 := q8.on hb1
      replace q9 := q9.on hb1
      clear s0 s1 s2 t0 t1 t2 hb1 HC
      obtain ⟨s0, s1, s2, -⟩ := q8.three
      obtain ⟨t0, t1, t2, -⟩ := q9.three
      clear q8 q9
      go_wp2_with fail
      refine (HB.out _).mono ?_
      rintro e w2 ⟨rfl, hb1⟩
      replace h3 := CellsAt.on (CellsAt.on_alloc h3 _) hb1
      replace hb3 := on (on_alloc hb3 _) hb1
      clear hb1 s0 s1 s2 t0 t1 t2
      obtain ⟨⟨g0, p0, p1, p2, q0, q1, q2⟩, ⟨z0, z1, z2⟩, hb4⟩ := val_ends h3 hb3 (by omega) (.int .i64 3) (.int .i64 m) (.string ⟨#[]⟩)
      clear h3 hb3
      go_wp2
      exact bodyPost_ret (v := .agg #[.int .i64 3, .int .i64 m, .string ⟨#[]⟩]) (by simp [results, Tryz.results10, go_sem, z0, z1, z2]) rfl ⟨rfl, hb4⟩
  · obtain ⟨q, hq⟩ : ∃ q, truthC 10 r = q := ⟨_, rfl⟩
    have hzz : bV q = z := by rw [← hz, ← hq, ← hr]; rfl
    obtain ⟨m, hm⟩ : ∃ m : Int, (if q = true then 1 else 0) = m := ⟨_, rfl⟩
    have HB := Lib.hid (fun w1 => rbool_c q w1)
    replace hzz : (⟨3, m, ⟨#[]⟩⟩ : Vl) = z := by rw [← hzz, ← hm]; rfl
    rw [hm] at HB
    subst hzz
    clear hz hr hm hxw hyw hnx hny
    rcases hr3 with rfl | rfl | rfl
    all_goals
      simp [truthC] at hq
      subst hq
      go_wp2_with fail
      refine (HC.out _).mono ?_
      rintro e w1 ⟨rfl, hb1⟩
      replace h3 := h3.on hb1
      replace hb3 := on hb3 hb1
      replace q8 := q8.on hb1
      replace q9 := q9.on hb1
      clear s0 s1 s2 t0 t1 t2 hb1 HC
      obtain ⟨s0, s1, s2, -⟩ := q8.three
      obtain ⟨t0, t1, t2, -⟩ := q9.three
      clear q8 q9
      go_wp2_with fail
      refine (HB.out _).mono ?_
      rintro e w2 ⟨rfl, hb1⟩
      replace h3 := CellsAt.on (CellsAt.on_alloc h3 _) hb1
      replace hb3 := on (on_alloc hb3 _) hb1
      clear hb1 s0 s1 s2 t0 t1 t2
      obtain ⟨⟨g0, p0, p1, p2, q0, q1, q2⟩, ⟨z0, z1, z2⟩, hb4⟩ := val_ends h3 hb3 (by omega) (.int .i64 3) (.int .i64 m) (.string ⟨#[]⟩)
      clear h3 hb3
      go_wp2
      exact bodyPost_ret (v := .agg #[.int .i64 3, .int .i64 m, .string ⟨#[]⟩]) (by simp [results, Tryz.results10, go_sem, z0, z1, z2]) rfl ⟨rfl, hb4⟩
  · obtain ⟨q, hq⟩ : ∃ q, truthC 11 r = q := ⟨_, rfl⟩
    have hzz : bV q = z := by rw [← hz, ← hq, ← hr]; rfl
    obtain ⟨m, hm⟩ : ∃ m : Int, (if q = true then 1 else 0) = m := ⟨_, rfl⟩
    have HB := Lib.hid (fun w1 => rbool_c q w1)
    replace hzz : (⟨3, m, ⟨#[]⟩⟩ : Vl) = z := by rw [← hzz, ← hm]; rfl
    rw [hm] at HB
    subst hzz
    clear hz hr hm hxw hyw hnx hny
    rcases hr3 with rfl | rfl | rfl
    all_goals
      simp [truthC] at hq
      subst hq
      go_wp2_with fail
      refine (HC.out _).mono ?_
      rintro e w1 ⟨rfl, hb1⟩
      replace h3 := h3.on hb1
      replace hb3 := on hb3 hb1
      replace q8 := q8.on hb1
      replace q9 := q9.on hb1
      clear s0 s1 s2 t0 t1 t2 hb1 HC
      obtain ⟨s0, s1, s2, -⟩ := q8.three
      obtain ⟨t0, t1, t2, -⟩ := q9.three
      clear q8 q9
      go_wp2_with fail
      refine (HB.out _).mono ?_
      rintro e w2 ⟨rfl, hb1⟩
      replace h3 := CellsAt.on (CellsAt.on_alloc h3 _) hb1
      replace hb3 := on (on_alloc hb3 _) hb1
      clear hb1 s0 s1 s2 t0 t1 t2
      obtain ⟨⟨g0, p0, p1, p2, q0, q1, q2⟩, ⟨z0, z1, z2⟩, hb4⟩ := val_ends h3 hb3 (by omega) (.int .i64 3) (.int .i64 m) (.string ⟨#[]⟩)
      clear h3 hb3
      go_wp2
      exact bodyPost_ret (v := .agg #[.int .i64 3, .int .i64 m, .string ⟨#[]⟩]) (by simp [results, Tryz.results10, go_sem, z0, z1, z2]) rfl ⟨rfl, hb4⟩
theorem rbin_c (op : Int) (a b : Vl) (ha : Ok a) (hb : Ok b) (w : World) : Calls Tryz.prog 10 #[.int .i64 op, .agg #[.int .i64 a.k, .int .i64 a.n, .string a.t], .agg #[.int .i64 b.k, .int .i64 b.n, .string b.t]] w (IsV (binV op a b) w) := by
  by_cases h : op < 1 ∨ 12 < op
  · rw [show binV op a b = fV 2 from if_pos h]
    exact rbin_out op h a b w
  · obtain ⟨k, hk⟩ := Int.eq_ofNat_of_zero_le (show 0 ≤ op - 1 by omega)
    obtain rfl : op = (k : Int) + 1 := by omega
    rw [binV_at (by omega)]
    exact rbin_in k (by omega) a b _ _ ha hb rfl rfl w
end Go.Proofs.YtebjedbppiphgaaGreatDoor.Cal
