/- The laws' check of life. Written by wip/gen21m.py. -/
import Derived.Test.YtebjedbppiphgaaGreatDoorKtu42
import Derived.Test.YtebjedbppiphgaaGreatDoorKtu43
namespace Go.Proofs.YtebjedbppiphgaaGreatDoor.Cal
open Go.RowKit Kit Reg Dec Dig Val Fld
open Crt (CLibs)
/-- a table of one value, new; a slice of two tables, new -/
def OneV (x : Vl) (v : Value) (w : World) : Prop := ∃ g, v = .agg #[.int .i64 1, .int .i64 1, .slice (some ⟨g, 0, none⟩) 1 1] ∧ ValsR w (some ⟨g, 0, none⟩) 1 [x]
theorem OneV.up {x : Vl} {v : Value} {w : World} (h : Up (OneV x v) w) : OneV x v w := by
  obtain ⟨w1, ⟨g, e, h1⟩, hb⟩ := h
  exact ⟨g, e, h1.on hb⟩
def TabsV (P : List Tb → Prop) (v : Value) (w : World) : Prop := ∃ b T, v = .slice (some ⟨b, 0, none⟩) 2 2 ∧ P T ∧ TabsR w (some ⟨b, 0, none⟩) 2 T
theorem TabsV.up {P : List Tb → Prop} {v : Value} {w : World} (h : Up (TabsV P v) w) : TabsV P v w := by
  obtain ⟨w1, ⟨b, T, e, hP, h1⟩, hb⟩ := h
  exact ⟨b, T, e, hP, h1.on hb⟩
/-- two tables in memory that is made for them -/
theorem tabs_new2 (w : World) (t u : Tb) (ht : t.Reads w) (hu : u.Reads w) : TabsR (w.alloc (.cells #[.int .i64 t.r, .int .i64 t.c, .slice t.A t.n t.d, .int .i64 u.r, .int .i64 u.c, .slice u.A u.n u.d] 33)) (some ⟨w.heap.size, 0, none⟩) 2 [t, u] := by
  have h := CellsAt.new w [.int .i64 t.r, .int .i64 t.c, .slice t.A t.n t.d, .int .i64 u.r, .int .i64 u.c, .slice u.A u.n u.d] 33
  refine ⟨rfl, fun v hv => ?_, fun _ => ⟨w.heap.size, 0, rfl, h.1, fun k v hk j x hj => ?_⟩⟩
  · rcases List.mem_cons.1 hv with rfl | hv
    · exact ht.on (below1 _ _)
    · rw [List.mem_singleton] at hv
      rw [hv]
      exact hu.on (below1 _ _)
  · have e : ([.int .i64 t.r, .int .i64 t.c, .slice t.A t.n t.d, .int .i64 u.r, .int .i64 u.c, .slice u.A u.n u.d] : List Value)[0 + k * 3 + j]? = some x := by
      have h3 : j < 3 := (List.getElem?_eq_some_iff.1 hj).1
      match k, hk with
      | 0, hk =>
        obtain rfl : t = v := by simpa using hk
        match j, hj with
        | 0, hj => exact hj
        | 1, hj => exact hj
        | 2, hj => exact hj
      | 1, hk =>
        obtain rfl : u = v := by simpa using hk
        match j, hj with
        | 0, hj => exact hj
        | 1, hj => exact hj
        | 2, hj => exact hj
      | k + 2, hk => simp at hk
    exact (h.2 _ x e).1
def oneTb (A : Option Addr) (x : Vl) : Tb := ⟨1, 1, A, 1, 1, [x]⟩
def xN : Vl := ⟨2, 0, ⟨#[110]⟩⟩
def xAnna : Vl := ⟨2, 0, ⟨#[97, 110, 110, 97]⟩⟩
def x1 : Vl := ⟨1, 10000, ⟨#[]⟩⟩
def L35 : List Vl := [⟨1, 30000, ⟨#[]⟩⟩, ⟨1, 50000, ⟨#[]⟩⟩]
def tab35 (A : Option Addr) : Tb := ⟨2, 1, A, 2, 2, L35⟩
theorem ok_N : Ok xN := ⟨by unfold Vl.may xN; decide, by decide, by decide⟩
theorem ok_Anna : Ok xAnna := ⟨by unfold Vl.may xAnna; decide, by decide, by decide⟩
theorem ok_1 : Ok x1 := ⟨by unfold Vl.may x1; decide, by decide, by decide⟩
theorem ok_35 : ∀ v ∈ L35, Ok v := fun v hv => by
  rcases List.mem_cons.1 hv with rfl | hv
  · exact ⟨by unfold Vl.may; decide, by decide, by decide⟩
  · rw [List.mem_singleton] at hv
    rw [hv]
    exact ⟨by unfold Vl.may; decide, by decide, by decide⟩
theorem acc_two {fn : Int} {t u : Tb} (hf : Fnm.fitsF fn 2 = true) (h0 : AccT fn 0 t) (h1 : AccT fn 1 u) : AccB fn 2 [t, u] := ⟨hf, fun i v hv => by
  match i, hv with
  | 0, hv =>
    obtain rfl : t = v := by simpa using hv
    exact h0
  | 1, hv =>
    obtain rfl : u = v := by simpa using hv
    exact h1
  | i + 2, hv => simp at hv⟩
theorem find_n : findO [110] [97, 110, 110, 97] = some 1 := find_one (.inr ⟨by decide, by decide, by decide, fun j hj => by
  obtain rfl : j = 0 := by omega
  decide⟩)
theorem acc_v {fn : Int} {i : Nat} {A : Option Addr} {x : Vl} (h : kdF fn i = 118) : AccT fn i (oneTb A x) := ⟨by rw [h]; decide, by rw [h]; decide, by rw [h]; decide, ⟨by show (1 : Int) ≤ 1; decide, by show (1 : Int) ≤ 1; decide, by show 1 ≤ 1000; decide, rfl⟩, fun _ => rfl⟩
theorem life_find (b : Nat) (A B : Option Addr) (w : World) (hz : TabsR w (some ⟨b, 0, none⟩) 2 [oneTb A xN, oneTb B xAnna]) (hL : CLibs w) : Calls Tryz.prog 17 #[.int .i64 21, .slice (some ⟨b, 0, none⟩) 2 2] w (ValIs 1 20000 ⟨#[]⟩ w) := by
  have h6 : ∀ t ∈ [oneTb A xN, oneTb B xAnna], t.n ≤ 60 := fun t ht => by
    rcases List.mem_cons.1 ht with rfl | ht
    · show 1 ≤ 60; decide
    · rw [List.mem_singleton] at ht
      rw [ht]; show 1 ≤ 60; decide
  have h := pv_FIND (some ⟨b, 0, none⟩) 2 2 [oneTb A xN, oneTb B xAnna] h6 (two_ok ok_N ok_Anna) w hz hL.1
  rw [callV_yes (acc_two (by kernel_rfl) (acc_v (by kernel_rfl)) (acc_v (by kernel_rfl)))] at h
  rw [show takenL ⟨#[115, 115]⟩ (allL [oneTb A xN, oneTb B xAnna]) = [txtT xN, txtT xAnna] from rfl, pick_2 (by rw [list_of rfl]; decide)] at h
  rw [if_neg (by rw [show (txtT xN).k = 2 from rfl]; decide), if_neg (by rw [show (txtT xAnna).k = 2 from rfl]; decide)] at h
  have e : fin_FIND [txtT xN, txtT xAnna] = ⟨1, 20000, ⟨#[]⟩⟩ := findV_some find_n
  rw [e] at h
  exact h
theorem large_35 : Odr.largeD [30000, 50000] 1 = (50000, true) := by
  have hs : Odr.srt [30000, 50000] = [30000, 50000] := Odr.srt_one (List.Perm.refl _) (by decide)
  have h := Odr.largeD_yes (l := [30000, 50000]) (j := 1) (x := 50000) (by rw [hs]; rfl)
  exact h
theorem life_large (b : Nat) (A B : Option Addr) (w : World) (hz : TabsR w (some ⟨b, 0, none⟩) 2 [tab35 A, oneTb B x1]) (hL : CLibs w) : Calls Tryz.prog 17 #[.int .i64 34, .slice (some ⟨b, 0, none⟩) 2 2] w (ValIs 1 50000 ⟨#[]⟩ w) := by
  have h6 : ∀ t ∈ [tab35 A, oneTb B x1], t.n ≤ 60 := fun t ht => by
    rcases List.mem_cons.1 ht with rfl | ht
    · show 2 ≤ 60; decide
    · rw [List.mem_singleton] at ht
      rw [ht]; show 1 ≤ 60; decide
  have hk : kdF 34 0 = 114 := by kernel_rfl
  have hacc : AccB 34 2 [tab35 A, oneTb B x1] := acc_two (by kernel_rfl) ⟨by rw [hk]; decide, by rw [hk]; decide, by rw [hk]; decide, ⟨by show (1 : Int) ≤ 2; decide, by show (1 : Int) ≤ 1; decide, by show 2 ≤ 1000; decide, rfl⟩, fun e => by rw [hk] at e; cases e⟩ (acc_v (by kernel_rfl))
  have z0 : ∀ w1, Below w.heap.size w w1 → ValsR w1 A 2 L35 := fun w1 hb => (hz.reads (k := 0) (t := tab35 A) rfl (by show 2 ≤ 1000; decide)).on hb
  have z1 : ∀ w1, Below w.heap.size w w1 → ValsR w1 B 1 [x1] := fun w1 hb => (hz.reads (k := 1) (t := oneTb B x1) rfl (by show 1 ≤ 1000; decide)).on hb
  refine pcall_order 34 (.inl rfl) (some ⟨b, 0, none⟩) 2 (by decide) (tab35 A) (oneTb B x1) h6 hacc ⟨1, 50000, ⟨#[]⟩⟩ w hz fun w1 hb => ?_
  have hN : NoF L35 := fun v hv => by
    rcases List.mem_cons.1 hv with rfl | hv
    · decide
    · rw [List.mem_singleton] at hv
      rw [hv]; decide
  have h := por_LARGE A B 2 2 1 [30000, 50000] 2 (by decide) 10000 (by decide) (by decide) w1 (fun w2 hb2 => (numbers_cap A 2 2 L35 hN w2 (z0 w2 (on hb hb2))).mono fun e w' ⟨A3, c3, he, hr, hb⟩ => ⟨A3, c3, he, nums_of (L := L35) (fun v hv => (ok_35 v hv).1) (fun v hv => (ok_35 v hv).2) hr.1 hr.2, hb⟩)
    (fun w2 hb2 => numbers_reads B 1 1 [x1] (fun v hv => by rw [List.mem_singleton.1 hv]; exact ok_1) [10000] rfl w2 (z1 w2 (on hb hb2)) ((hL.1.grown hb).grown hb2))
  rw [show unI 10000 = 1 from rfl, large_35] at h
  exact h
theorem life_if (b : Nat) (A : Option Addr) (w : World) (hz : TabsR w (some ⟨b, 0, none⟩) 2 [tab35 A, tab35 A]) : Calls Tryz.prog 17 #[.int .i64 25, .slice (some ⟨b, 0, none⟩) 2 2] w (ValIs 4 2 ⟨#[]⟩ w) := by
  have hk : kdF 25 0 = 101 := by kernel_rfl
  exact pcall_no 25 (some ⟨b, 0, none⟩) 2 2 [tab35 A, tab35 A] (fun t ht => by
    rcases List.mem_cons.1 ht with rfl | ht
    · show 2 ≤ 60; decide
    · rw [List.mem_singleton] at ht
      rw [ht]; show 2 ≤ 60; decide) (fun h => (h.2 0 (tab35 A) rfl).2.1 hk) w hz
theorem life_div : binV 4 ⟨1, 10000, ⟨#[]⟩⟩ ⟨2, 0, ⟨#[52]⟩⟩ = ⟨1, 2500, ⟨#[]⟩⟩ := by kernel_rfl
theorem life_min : minV ⟨3, 1, ⟨#[]⟩⟩ = ⟨1, -10000, ⟨#[]⟩⟩ := by kernel_rfl
set_option maxRecDepth 100000 in
set_option maxHeartbeats 16000000 in
theorem alive_c (w : World) (hL : CLibs w) : Calls Tryz.prog 8 #[] w (LawEnd w) := by
  have N30 : Hid (∀ w1, Calls Tryz.prog 23 #[.int .i64 30000] w1 (ValIs 1 30000 ⟨#[]⟩ w1)) := Lib.hid (fun w1 => num_v 30000 (by decide) w1 (by decide))
  have N50 : Hid (∀ w1, Calls Tryz.prog 23 #[.int .i64 50000] w1 (ValIs 1 50000 ⟨#[]⟩ w1)) := Lib.hid (fun w1 => num_v 50000 (by decide) w1 (by decide))
  have N10 : Hid (∀ w1, Calls Tryz.prog 23 #[.int .i64 10000] w1 (ValIs 1 10000 ⟨#[]⟩ w1)) := Lib.hid (fun w1 => num_v 10000 (by decide) w1 (by decide))
  have N25 : Hid (∀ w1, Calls Tryz.prog 23 #[.int .i64 2500] w1 (ValIs 1 2500 ⟨#[]⟩ w1)) := Lib.hid (fun w1 => num_v 2500 (by decide) w1 (by decide))
  have N20 : Hid (∀ w1, Calls Tryz.prog 23 #[.int .i64 20000] w1 (ValIs 1 20000 ⟨#[]⟩ w1)) := Lib.hid (fun w1 => num_v 20000 (by decide) w1 (by decide))
  have NM : Hid (∀ w1, Calls Tryz.prog 23 #[.int .i64 (-10000)] w1 (ValIs 1 (-10000) ⟨#[]⟩ w1)) := Lib.hid (fun w1 => num_v (-10000) (by decide) w1 (by decide))
  have S4 : Hid (∀ w1, Calls Tryz.prog 24 #[.string ⟨#[52]⟩] w1 (ValIs 2 0 ⟨#[52]⟩ w1)) := Lib.hid (fun w1 => str_in_c ⟨#[52]⟩ (by decide) w1)
  have SN : Hid (∀ w1, Calls Tryz.prog 24 #[.string ⟨#[110]⟩] w1 (ValIs 2 0 ⟨#[110]⟩ w1)) := Lib.hid (fun w1 => str_in_c ⟨#[110]⟩ (by decide) w1)
  have SA : Hid (∀ w1, Calls Tryz.prog 24 #[.string ⟨#[97, 110, 110, 97]⟩] w1 (ValIs 2 0 ⟨#[97, 110, 110, 97]⟩ w1)) := Lib.hid (fun w1 => str_in_c ⟨#[97, 110, 110, 97]⟩ (by decide) w1)
  have HB2 : Hid (∀ w1, Calls Tryz.prog 26 #[.int .i64 2] w1 (ValIs 4 2 ⟨#[]⟩ w1)) := Lib.hid (fun w1 => bad_v 2 (by decide) (by decide) w1)
  have HBt : Hid (∀ w1, Calls Tryz.prog 27 #[.bool true] w1 (ValIs 3 1 ⟨#[]⟩ w1)) := Lib.hid (fun w1 => bool_c true w1)
  have HDiv : Hid (∀ w1, CLibs w1 → Calls Tryz.prog 9 #[.int .i64 4, .agg #[.int .i64 1, .int .i64 10000, .string ⟨#[]⟩], .agg #[.int .i64 2, .int .i64 0, .string ⟨#[52]⟩]] w1 (ValIs 1 2500 ⟨#[]⟩ w1)) := Lib.hid (fun w1 hL => by
    have h := bin_c 4 ⟨1, 10000, ⟨#[]⟩⟩ ⟨2, 0, ⟨#[52]⟩⟩ ok_1 ⟨by unfold Vl.may; decide, by decide, by decide⟩ w1 hL.1
    rw [life_div] at h
    exact h)
  have HMin : Hid (∀ w1, CLibs w1 → Calls Tryz.prog 11 #[.agg #[.int .i64 3, .int .i64 1, .string ⟨#[]⟩]] w1 (ValIs 1 (-10000) ⟨#[]⟩ w1)) := Lib.hid (fun w1 hL => by
    have h := minus_c ⟨3, 1, ⟨#[]⟩⟩ ⟨by unfold Vl.may; decide, by decide, by decide⟩ w1 hL.1
    rw [life_min] at h
    exact h)
  have HL := Lib.hid hL
  clear hL
  go_enter Tryz.func8, Tryz.ntmps8
  go_wp2_with fail
  refine (N30.out _).mono ?_
  rintro e w1 ⟨rfl, hb0⟩
  go_wp2_with fail
  refine (N50.out _).mono ?_
  rintro e w2 ⟨rfl, hb1⟩
  replace hb0 := on hb0 hb1
  clear hb1
  have hV : ValsR (w2.alloc (.cells #[.int .i64 1, .int .i64 30000, .string ⟨#[]⟩, .int .i64 1, .int .i64 50000, .string ⟨#[]⟩] 23)) (some ⟨w2.heap.size, 0, none⟩) 2 L35 := vals_two w2 ⟨1, 30000, ⟨#[]⟩⟩ ⟨1, 50000, ⟨#[]⟩⟩ ⟨by decide, by decide⟩ ⟨by decide, by decide⟩
  have hT := Lok.newAt (w0 := w2.alloc (.cells #[.int .i64 1, .int .i64 30000, .string ⟨#[]⟩, .int .i64 1, .int .i64 50000, .string ⟨#[]⟩] 23)) (g := w2.heap.size + 1) (by simp) [.int .i64 2, .int .i64 1, .slice (some ⟨w2.heap.size, 0, none⟩) 2 2] 33
  replace hV := hV.on (below1 (w2.alloc (.cells #[.int .i64 1, .int .i64 30000, .string ⟨#[]⟩, .int .i64 1, .int .i64 50000, .string ⟨#[]⟩] 23)) (.cells #[.int .i64 2, .int .i64 1, .slice (some ⟨w2.heap.size, 0, none⟩) 2 2] 33))
  replace hb0 := on_alloc (on_alloc hb0 (.cells #[.int .i64 1, .int .i64 30000, .string ⟨#[]⟩, .int .i64 1, .int .i64 50000, .string ⟨#[]⟩] 23)) (.cells #[.int .i64 2, .int .i64 1, .slice (some ⟨w2.heap.size, 0, none⟩) 2 2] 33)
  have HZ := Lib.hid hV
  clear hV
  go_wp2_with fail
  generalize (w2.alloc (.cells #[.int .i64 1, .int .i64 30000, .string ⟨#[]⟩, .int .i64 1, .int .i64 50000, .string ⟨#[]⟩] 23)).alloc (.cells #[.int .i64 2, .int .i64 1, .slice (some ⟨w2.heap.size, 0, none⟩) 2 2] 33) = W at *
  have HL1 := Lib.hid (HL.out.grown hb0)
  obtain ⟨c0, c1, c2, _⟩ := hT.three
  generalize w2.heap.size = gv at *
  have C0 := fun d os => cell_regrown c0 d os
  have C1 := fun d os => cell_regrown c1 d os
  have C2 := fun d os => cell_regrown c2 d os
  clear c0 c1 c2 hT HL
  refine wp_region_mem 39 (fun d => match d with
    | 6 => some (Is (.agg #[.int .i64 1, .int .i64 10000, .string ⟨#[]⟩]))
    | 7 => some (Is (.agg #[.int .i64 2, .int .i64 0, .string ⟨#[52]⟩]))
    | 8 => some (Is (.agg #[.int .i64 1, .int .i64 2500, .string ⟨#[]⟩]))
    | 9 => some (Is (.agg #[.int .i64 1, .int .i64 2500, .string ⟨#[]⟩]))
    | 12 => some (Is (.agg #[.int .i64 2, .int .i64 0, .string ⟨#[110]⟩]))
    | 13 => some (OneV xN)
    | 14 => some (Is (.agg #[.int .i64 2, .int .i64 0, .string ⟨#[97, 110, 110, 97]⟩]))
    | 15 => some (OneV xAnna)
    | 16 => some (TabsV fun T => ∃ A B, T = [oneTb A xN, oneTb B xAnna])
    | 17 => some (Is (.agg #[.int .i64 1, .int .i64 20000, .string ⟨#[]⟩]))
    | 18 => some (Is (.agg #[.int .i64 1, .int .i64 20000, .string ⟨#[]⟩]))
    | 23 => some (Is (.agg #[.int .i64 1, .int .i64 10000, .string ⟨#[]⟩]))
    | 24 => some (OneV x1)
    | 25 => some (TabsV fun T => ∃ B, T = [tab35 (some ⟨gv, 0, none⟩), oneTb B x1])
    | 26 => some (Is (.agg #[.int .i64 1, .int .i64 50000, .string ⟨#[]⟩]))
    | 27 => some (Is (.agg #[.int .i64 1, .int .i64 50000, .string ⟨#[]⟩]))
    | 33 => some (TabsV fun T => T = [tab35 (some ⟨gv, 0, none⟩), tab35 (some ⟨gv, 0, none⟩)])
    | 34 => some (Is (.agg #[.int .i64 4, .int .i64 2, .string ⟨#[]⟩]))
    | 35 => some (Is (.agg #[.int .i64 4, .int .i64 2, .string ⟨#[]⟩]))
    | 39 => some (Is (.agg #[.int .i64 3, .int .i64 1, .string ⟨#[]⟩]))
    | 40 => some (Is (.agg #[.int .i64 1, .int .i64 (-10000), .string ⟨#[]⟩]))
    | 41 => some (Is (.agg #[.int .i64 1, .int .i64 (-10000), .string ⟨#[]⟩]))
    | _ => none) (by kernel_rfl) (by kernel_rfl) ?_
  try simp only [List.append]
  simp only [List.take_succ_cons, List.take_zero, List.drop_succ_cons, List.drop_zero]
  repeat (first | ((with_reducible refine wpM_calm ?_ ?_ ?_ ?_); exact rfl; exact rfl; exact rfl; intro K hK; go_big_quiet_op; go_big_quiet_on) | ((with_reducible refine wpM_skip ?_ ?_); exact rfl; simp only [Act.put, List.setIfInBounds_toArray, List.set_cons_succ, List.set_cons_zero]))
  refine wpM_exact rfl rfl rfl Tryz.func23 (by kernel_rfl) (by kernel_rfl) (fun w1 hw1 _ => N10.out w1) rfl (by simp only [Act.put, List.setIfInBounds_toArray, List.set_cons_succ, List.set_cons_zero]; rfl) ?_
  repeat (first | ((with_reducible refine wpM_calm ?_ ?_ ?_ ?_); exact rfl; exact rfl; exact rfl; intro K hK; go_big_quiet_op; go_big_quiet_on) | ((with_reducible refine wpM_skip ?_ ?_); exact rfl; simp only [Act.put, List.setIfInBounds_toArray, List.set_cons_succ, List.set_cons_zero]))
  refine wpM_exact rfl rfl rfl Tryz.func24 (by kernel_rfl) (by kernel_rfl) (fun w1 hw1 _ => S4.out w1) rfl (by simp only [Act.put, List.setIfInBounds_toArray, List.set_cons_succ, List.set_cons_zero]; rfl) ?_
  repeat (first | ((with_reducible refine wpM_calm ?_ ?_ ?_ ?_); exact rfl; exact rfl; exact rfl; intro K hK; go_big_quiet_op; go_big_quiet_on) | ((with_reducible refine wpM_skip ?_ ?_); exact rfl; simp only [Act.put, List.setIfInBounds_toArray, List.set_cons_succ, List.set_cons_zero]))
  refine wpM_exact rfl rfl rfl Tryz.func9 (by kernel_rfl) (by kernel_rfl) (fun w1 hw1 _ => HDiv.out w1 (HL1.out.grown hw1)) rfl (by simp only [Act.put, List.setIfInBounds_toArray, List.set_cons_succ, List.set_cons_zero]; rfl) ?_
  repeat (first | ((with_reducible refine wpM_calm ?_ ?_ ?_ ?_); exact rfl; exact rfl; exact rfl; intro K hK; go_big_quiet_op; go_big_quiet_on) | ((with_reducible refine wpM_skip ?_ ?_); exact rfl; simp only [Act.put, List.setIfInBounds_toArray, List.set_cons_succ, List.set_cons_zero]))
  refine wpM_exact rfl rfl rfl Tryz.func23 (by kernel_rfl) (by kernel_rfl) (fun w1 hw1 _ => N25.out w1) rfl (by simp only [Act.put, List.setIfInBounds_toArray, List.set_cons_succ, List.set_cons_zero]; rfl) ?_
  repeat (first | ((with_reducible refine wpM_calm ?_ ?_ ?_ ?_); exact rfl; exact rfl; exact rfl; intro K hK; go_big_quiet_op; go_big_quiet_on) | ((with_reducible refine wpM_skip ?_ ?_); exact rfl; simp only [Act.put, List.setIfInBounds_toArray, List.set_cons_succ, List.set_cons_zero]))
  refine wpM_exact rfl rfl rfl Tryz.func24 (by kernel_rfl) (by kernel_rfl) (fun w1 hw1 _ => SN.out w1) rfl (by simp only [Act.put, List.setIfInBounds_toArray, List.set_cons_succ, List.set_cons_zero]; rfl) ?_
  repeat (first | ((with_reducible refine wpM_calm ?_ ?_ ?_ ?_); exact rfl; exact rfl; exact rfl; intro K hK; go_big_quiet_op; go_big_quiet_on) | ((with_reducible refine wpM_skip ?_ ?_); exact rfl; simp only [Act.put, List.setIfInBounds_toArray, List.set_cons_succ, List.set_cons_zero]))
  refine wpM_call _ rfl rfl rfl Tryz.func25 (by kernel_rfl) (by kernel_rfl) (fun w1 hw1 _ => (one_c 2 0 ⟨#[110]⟩ ⟨by decide, by decide⟩ w1).mono fun e w2 ⟨g, _, he, hz, hb⟩ => ⟨_, he, hb, g, rfl, hz⟩) rfl ?_
  rintro v1 ⟨_, g1, rfl, _⟩ a1 ha1
  simp only [Act.put, List.setIfInBounds_toArray, List.set_cons_succ, List.set_cons_zero] at ha1
  subst ha1
  repeat (first | ((with_reducible refine wpM_calm ?_ ?_ ?_ ?_); exact rfl; exact rfl; exact rfl; intro K hK; go_big_quiet_op; go_big_quiet_on) | ((with_reducible refine wpM_skip ?_ ?_); exact rfl; simp only [Act.put, List.setIfInBounds_toArray, List.set_cons_succ, List.set_cons_zero]))
  refine wpM_exact rfl rfl rfl Tryz.func24 (by kernel_rfl) (by kernel_rfl) (fun w1 hw1 _ => SA.out w1) rfl (by simp only [Act.put, List.setIfInBounds_toArray, List.set_cons_succ, List.set_cons_zero]; rfl) ?_
  repeat (first | ((with_reducible refine wpM_calm ?_ ?_ ?_ ?_); exact rfl; exact rfl; exact rfl; intro K hK; go_big_quiet_op; go_big_quiet_on) | ((with_reducible refine wpM_skip ?_ ?_); exact rfl; simp only [Act.put, List.setIfInBounds_toArray, List.set_cons_succ, List.set_cons_zero]))
  refine wpM_call _ rfl rfl rfl Tryz.func25 (by kernel_rfl) (by kernel_rfl) (fun w1 hw1 _ => (one_c 2 0 ⟨#[97, 110, 110, 97]⟩ ⟨by decide, by decide⟩ w1).mono fun e w2 ⟨g, _, he, hz, hb⟩ => ⟨_, he, hb, g, rfl, hz⟩) rfl ?_
  rintro v2 ⟨_, g2, rfl, _⟩ a2 ha2
  simp only [Act.put, List.setIfInBounds_toArray, List.set_cons_succ, List.set_cons_zero] at ha2
  subst ha2
  repeat (first | ((with_reducible refine wpM_calm ?_ ?_ ?_ ?_); exact rfl; exact rfl; exact rfl; intro K hK; go_big_quiet_op; go_big_quiet_on) | ((with_reducible refine wpM_skip ?_ ?_); exact rfl; simp only [Act.put, List.setIfInBounds_toArray, List.set_cons_succ, List.set_cons_zero]))
  refine wpM_makes _ rfl rfl (fun w5 hw5 hl => ?_) ?_
  · obtain ⟨gx1, ex1, hx1⟩ := OneV.up ((looks_at (k := 7) (d := 13) hl (by kernel_rfl) (by kernel_rfl)).1.1.2 rfl)
    obtain rfl : g1 = gx1 := by simpa using ex1
    obtain ⟨gx2, ex2, hx2⟩ := OneV.up ((looks_at (k := 9) (d := 15) hl (by kernel_rfl) (by kernel_rfl)).2 rfl)
    obtain rfl : g2 = gx2 := by simpa using ex2
    simp [go_sem, variesUpon]
    exact ⟨below1 _ _, w5.heap.size, [oneTb (some ⟨g1, 0, none⟩) xN, oneTb (some ⟨g2, 0, none⟩) xAnna], rfl, ⟨_, _, rfl⟩, tabs_new2 w5 (oneTb (some ⟨g1, 0, none⟩) xN) (oneTb (some ⟨g2, 0, none⟩) xAnna) (fun _ => hx1) (fun _ => hx2)⟩
  rintro v3 ⟨_, b3, T3, rfl, _⟩ a3 ha3
  simp only [Act.put, List.setIfInBounds_toArray, List.set_cons_succ, List.set_cons_zero] at ha3
  subst ha3
  repeat (first | ((with_reducible refine wpM_calm ?_ ?_ ?_ ?_); exact rfl; exact rfl; exact rfl; intro K hK; go_big_quiet_op; go_big_quiet_on) | ((with_reducible refine wpM_skip ?_ ?_); exact rfl; simp only [Act.put, List.setIfInBounds_toArray, List.set_cons_succ, List.set_cons_zero]))
  refine wpM_exact rfl rfl rfl Tryz.func17 (by kernel_rfl) (by kernel_rfl) ?_ rfl (by simp only [Act.put, List.setIfInBounds_toArray, List.set_cons_succ, List.set_cons_zero]; rfl) ?_
  · intro w5 hw5 hl
    obtain ⟨b9, T9, e9, hP, ht⟩ := TabsV.up ((looks_at (k := 10) (d := 16) hl (by kernel_rfl) (by kernel_rfl)).2 rfl)
    simp only [Value.slice.injEq, Option.some.injEq, Addr.mk.injEq] at e9
    obtain ⟨⟨rfl, -, -⟩, -, -⟩ := e9
    obtain ⟨A9, B9, rfl⟩ := hP
    exact life_find _ A9 B9 w5 ht (HL1.out.grown hw5)
  repeat (first | ((with_reducible refine wpM_calm ?_ ?_ ?_ ?_); exact rfl; exact rfl; exact rfl; intro K hK; go_big_quiet_op; go_big_quiet_on) | ((with_reducible refine wpM_skip ?_ ?_); exact rfl; simp only [Act.put, List.setIfInBounds_toArray, List.set_cons_succ, List.set_cons_zero]))
  refine wpM_exact rfl rfl rfl Tryz.func23 (by kernel_rfl) (by kernel_rfl) (fun w1 hw1 _ => N20.out w1) rfl (by simp only [Act.put, List.setIfInBounds_toArray, List.set_cons_succ, List.set_cons_zero]; rfl) ?_
  repeat (first | ((with_reducible refine wpM_calm ?_ ?_ ?_ ?_); exact rfl; exact rfl; exact rfl; intro K hK; go_big_quiet_op; go_big_quiet_on) | ((with_reducible refine wpM_skip ?_ ?_); exact rfl; simp only [Act.put, List.setIfInBounds_toArray, List.set_cons_succ, List.set_cons_zero]))
  refine wpM_exact rfl rfl rfl Tryz.func23 (by kernel_rfl) (by kernel_rfl) (fun w1 hw1 _ => N10.out w1) rfl (by simp only [Act.put, List.setIfInBounds_toArray, List.set_cons_succ, List.set_cons_zero]; rfl) ?_
  repeat (first | ((with_reducible refine wpM_calm ?_ ?_ ?_ ?_); exact rfl; exact rfl; exact rfl; intro K hK; go_big_quiet_op; go_big_quiet_on) | ((with_reducible refine wpM_skip ?_ ?_); exact rfl; simp only [Act.put, List.setIfInBounds_toArray, List.set_cons_succ, List.set_cons_zero]))
  refine wpM_call _ rfl rfl rfl Tryz.func25 (by kernel_rfl) (by kernel_rfl) (fun w1 hw1 _ => (one_c 1 10000 ⟨#[]⟩ ⟨by decide, by decide⟩ w1).mono fun e w2 ⟨g, _, he, hz, hb⟩ => ⟨_, he, hb, g, rfl, hz⟩) rfl ?_
  rintro v4 ⟨_, g4, rfl, _⟩ a4 ha4
  simp only [Act.put, List.setIfInBounds_toArray, List.set_cons_succ, List.set_cons_zero] at ha4
  subst ha4
  repeat (first | ((with_reducible refine wpM_calm ?_ ?_ ?_ ?_); exact rfl; exact rfl; exact rfl; intro K hK; go_big_quiet_op; go_big_quiet_on) | ((with_reducible refine wpM_skip ?_ ?_); exact rfl; simp only [Act.put, List.setIfInBounds_toArray, List.set_cons_succ, List.set_cons_zero]))
  refine wpM_makes _ rfl rfl (fun w5 hw5 hl => ?_) ?_
  · obtain ⟨gx4, ex4, hx4⟩ := OneV.up ((looks_at (k := 18) (d := 24) hl (by kernel_rfl) (by kernel_rfl)).2 rfl)
    obtain rfl : g4 = gx4 := by simpa using ex4
    simp [go_sem, variesUpon]
    exact ⟨below1 _ _, w5.heap.size, [tab35 (some ⟨gv, 0, none⟩), oneTb (some ⟨g4, 0, none⟩) x1], rfl, ⟨_, rfl⟩, tabs_new2 w5 (tab35 (some ⟨gv, 0, none⟩)) (oneTb (some ⟨g4, 0, none⟩) x1) (fun _ => HZ.out.on hw5) (fun _ => hx4)⟩
  rintro v5 ⟨_, b5, T5, rfl, _⟩ a5 ha5
  simp only [Act.put, List.setIfInBounds_toArray, List.set_cons_succ, List.set_cons_zero] at ha5
  subst ha5
  repeat (first | ((with_reducible refine wpM_calm ?_ ?_ ?_ ?_); exact rfl; exact rfl; exact rfl; intro K hK; go_big_quiet_op; go_big_quiet_on) | ((with_reducible refine wpM_skip ?_ ?_); exact rfl; simp only [Act.put, List.setIfInBounds_toArray, List.set_cons_succ, List.set_cons_zero]))
  refine wpM_exact rfl rfl rfl Tryz.func17 (by kernel_rfl) (by kernel_rfl) ?_ rfl (by simp only [Act.put, List.setIfInBounds_toArray, List.set_cons_succ, List.set_cons_zero]; rfl) ?_
  · intro w5 hw5 hl
    obtain ⟨b9, T9, e9, hP, ht⟩ := TabsV.up ((looks_at (k := 19) (d := 25) hl (by kernel_rfl) (by kernel_rfl)).2 rfl)
    simp only [Value.slice.injEq, Option.some.injEq, Addr.mk.injEq] at e9
    obtain ⟨⟨rfl, -, -⟩, -, -⟩ := e9
    obtain ⟨B9, rfl⟩ := hP
    exact life_large _ _ B9 w5 ht (HL1.out.grown hw5)
  repeat (first | ((with_reducible refine wpM_calm ?_ ?_ ?_ ?_); exact rfl; exact rfl; exact rfl; intro K hK; go_big_quiet_op; go_big_quiet_on) | ((with_reducible refine wpM_skip ?_ ?_); exact rfl; simp only [Act.put, List.setIfInBounds_toArray, List.set_cons_succ, List.set_cons_zero]))
  refine wpM_exact rfl rfl rfl Tryz.func23 (by kernel_rfl) (by kernel_rfl) (fun w1 hw1 _ => N50.out w1) rfl (by simp only [Act.put, List.setIfInBounds_toArray, List.set_cons_succ, List.set_cons_zero]; rfl) ?_
  repeat (first | ((with_reducible refine wpM_calm ?_ ?_ ?_ ?_); exact rfl; exact rfl; exact rfl; intro K hK; go_big_quiet_op; go_big_quiet_on) | ((with_reducible refine wpM_skip ?_ ?_); exact rfl; simp only [Act.put, List.setIfInBounds_toArray, List.set_cons_succ, List.set_cons_zero]))
  refine wpM_makes _ rfl rfl (fun w5 hw5 hl => ?_) ?_
  · simp [go_sem, variesUpon]
    exact ⟨below1 _ _, w5.heap.size, [tab35 (some ⟨gv, 0, none⟩), tab35 (some ⟨gv, 0, none⟩)], rfl, rfl, tabs_new2 w5 (tab35 (some ⟨gv, 0, none⟩)) (tab35 (some ⟨gv, 0, none⟩)) (fun _ => HZ.out.on hw5) (fun _ => HZ.out.on hw5)⟩
  rintro v6 ⟨_, b6, T6, rfl, _⟩ a6 ha6
  simp only [Act.put, List.setIfInBounds_toArray, List.set_cons_succ, List.set_cons_zero] at ha6
  subst ha6
  repeat (first | ((with_reducible refine wpM_calm ?_ ?_ ?_ ?_); exact rfl; exact rfl; exact rfl; intro K hK; go_big_quiet_op; go_big_quiet_on) | ((with_reducible refine wpM_skip ?_ ?_); exact rfl; simp only [Act.put, List.setIfInBounds_toArray, List.set_cons_succ, List.set_cons_zero]))
  refine wpM_exact rfl rfl rfl Tryz.func17 (by kernel_rfl) (by kernel_rfl) ?_ rfl (by simp only [Act.put, List.setIfInBounds_toArray, List.set_cons_succ, List.set_cons_zero]; rfl) ?_
  · intro w5 hw5 hl
    obtain ⟨b9, T9, e9, hP, ht⟩ := TabsV.up ((looks_at (k := 27) (d := 33) hl (by kernel_rfl) (by kernel_rfl)).2 rfl)
    simp only [Value.slice.injEq, Option.some.injEq, Addr.mk.injEq] at e9
    obtain ⟨⟨rfl, -, -⟩, -, -⟩ := e9
    subst hP
    exact life_if _ _ w5 ht
  repeat (first | ((with_reducible refine wpM_calm ?_ ?_ ?_ ?_); exact rfl; exact rfl; exact rfl; intro K hK; go_big_quiet_op; go_big_quiet_on) | ((with_reducible refine wpM_skip ?_ ?_); exact rfl; simp only [Act.put, List.setIfInBounds_toArray, List.set_cons_succ, List.set_cons_zero]))
  refine wpM_exact rfl rfl rfl Tryz.func26 (by kernel_rfl) (by kernel_rfl) (fun w1 hw1 _ => HB2.out w1) rfl (by simp only [Act.put, List.setIfInBounds_toArray, List.set_cons_succ, List.set_cons_zero]; rfl) ?_
  repeat (first | ((with_reducible refine wpM_calm ?_ ?_ ?_ ?_); exact rfl; exact rfl; exact rfl; intro K hK; go_big_quiet_op; go_big_quiet_on) | ((with_reducible refine wpM_skip ?_ ?_); exact rfl; simp only [Act.put, List.setIfInBounds_toArray, List.set_cons_succ, List.set_cons_zero]))
  refine wpM_exact rfl rfl rfl Tryz.func27 (by kernel_rfl) (by kernel_rfl) (fun w1 hw1 _ => HBt.out w1) rfl (by simp only [Act.put, List.setIfInBounds_toArray, List.set_cons_succ, List.set_cons_zero]; rfl) ?_
  repeat (first | ((with_reducible refine wpM_calm ?_ ?_ ?_ ?_); exact rfl; exact rfl; exact rfl; intro K hK; go_big_quiet_op; go_big_quiet_on) | ((with_reducible refine wpM_skip ?_ ?_); exact rfl; simp only [Act.put, List.setIfInBounds_toArray, List.set_cons_succ, List.set_cons_zero]))
  refine wpM_exact rfl rfl rfl Tryz.func11 (by kernel_rfl) (by kernel_rfl) (fun w1 hw1 _ => HMin.out w1 (HL1.out.grown hw1)) rfl (by simp only [Act.put, List.setIfInBounds_toArray, List.set_cons_succ, List.set_cons_zero]; rfl) ?_
  repeat (first | ((with_reducible refine wpM_calm ?_ ?_ ?_ ?_); exact rfl; exact rfl; exact rfl; intro K hK; go_big_quiet_op; go_big_quiet_on) | ((with_reducible refine wpM_skip ?_ ?_); exact rfl; simp only [Act.put, List.setIfInBounds_toArray, List.set_cons_succ, List.set_cons_zero]))
  refine wpM_exact rfl rfl rfl Tryz.func23 (by kernel_rfl) (by kernel_rfl) (fun w1 hw1 _ => NM.out w1) rfl (by simp only [Act.put, List.setIfInBounds_toArray, List.set_cons_succ, List.set_cons_zero]; rfl) ?_
  repeat (first | ((with_reducible refine wpM_calm ?_ ?_ ?_ ?_); exact rfl; exact rfl; exact rfl; intro K hK; go_big_quiet_op; go_big_quiet_on) | ((with_reducible refine wpM_skip ?_ ?_); exact rfl; simp only [Act.put, List.setIfInBounds_toArray, List.set_cons_succ, List.set_cons_zero]))
  refine wpM_nil ?_
  intro w9 hw9 _
  go_wp2
  go_ret
  exact ⟨rfl, on hb0 hw9⟩
end Go.Proofs.YtebjedbppiphgaaGreatDoor.Cal
