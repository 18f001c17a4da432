/- LexBlanks, out of contracts. -/
import Derived.Test.YtmoednmgmmgjeaaDoorLexAlive
import Derived.Test.YtmoednmgmmgjeaaDoorLexSame
import Derived.Test.YtmoednmgmmgjeaaDoorLexSignsT
import Derived.Test.YtmoednmgmmgjeaaDoorRegion
import Derived.BigQuiet
import Derived.Deep.QuietTactic
namespace Go.Proofs.YtmoednmgmmgjeaaDoor.Lex
open Go.RowKit Kit Reg Dec Dig

/-- what Lex answers, as a value -/
def LexV (U : List Tok) (n : Nat) (v : Value) (w : World) : Prop := ∃ A cap, v = .tuple #[.slice A n cap, .int .i64 0, .int .i64 0] ∧ ToksR w A n U
theorem below_drew (w : World) : Below w.heap.size w w.drew := ⟨rfl, rfl, rfl, Nat.le_refl _, fun _ _ => rfl⟩
theorem more_fits {l : List UInt8} {T : List Tok} (h : LexO l 0 T) (hl : l.length ≤ 200) : FitsT T := by
  obtain ⟨h1, h2⟩ := h.fits
  refine ⟨by omega, fun x hx => ?_⟩
  obtain ⟨_, _, h3, h4⟩ := h2 x hx
  exact ⟨by omega, h4⟩
theorem more_some {l : List UInt8} {T : List Tok} (h : LexO l 0 T) : LexAt l 0 [] (.inl T) := ⟨T, by rw [List.drop_zero]; exact h, rfl⟩
/-- the tokens of a text with more blanks ahead of one -/
def moreT (T : List Tok) (k d : Nat) : List Tok := T.take k ++ (T.drop k).map (up d)
theorem more_len (T : List Tok) (k d : Nat) : (moreT T k d).length = T.length := by
  unfold moreT
  rw [List.length_append, List.length_map, ← List.length_append, List.take_append_drop]
theorem more_alike (T : List Tok) (k d : Nat) : Alike T (moreT T k d) := by
  unfold Alike moreT
  rw [List.map_append, List.map_map]
  show _ = (T.take k).map _ ++ (T.drop k).map (fun x => (x.k, x.t, x.n))
  rw [← List.map_append, List.take_append_drop]
theorem more_at {T : List Tok} {k d i : Nat} {x u : Tok} (hx : T[i]? = some x) (hu : (moreT T k d)[i]? = some u) : (u.at' : Int) = if i < k then (x.at' : Int) else (x.at' : Int) + (d : Int) := by
  have hlt := (List.getElem?_eq_some_iff.1 hx).1
  unfold moreT at hu
  by_cases h : i < k
  · rw [if_pos h]
    rw [List.getElem?_append_left (by rw [List.length_take]; omega), List.getElem?_take_of_lt h, hx] at hu
    rw [Option.some.inj hu]
  · rw [if_neg h]
    rw [List.getElem?_append_right (by rw [List.length_take]; omega), List.getElem?_map, List.getElem?_drop, List.length_take, show k + (i - min k T.length) = i from by omega, hx] at hu
    rw [← Option.some.inj hu]
    show (((x.at' + d : Nat)) : Int) = _
    omega
set_option maxRecDepth 100000 in
set_option maxHeartbeats 4000000 in
theorem blanks_out (t : ByteArray) (k : Int) (u : Nat) (w : World)
    (h1 : ∀ w1, LLibs w1 → Calls Tryd.prog 4 #[.string t] w1 fun e w' => ∃ A n cap z c, e = .returned (.tuple #[.slice A n cap, .int .i64 z, .int .i64 c]) ∧ (t.size ≤ 150 → (c != 0) = true) ∧ Below w1.heap.size w1 w') (hL : LLibs w) : Calls Tryd.prog 3 #[.string t, .int .i64 k, .int .u8 (u : Int)] w (LawEnd w) := by
  have HV := Lib.hid (fun w1 h => alive_c w1 h)
  have HL := Lib.hid hL
  have H1 := Lib.hid h1
  clear h1 hL
  go_enter Tryd.func3, Tryd.ntmps3
  go_wp2_with fail
  refine (H1.out _ HL.out).mono ?_
  rintro e w1 ⟨A, n, cap, z, c, rfl, hc, hb1⟩
  by_cases ht : 150 < t.size
  · have d1 : decide ((150 : Int) < (t.size : Int)) = true := decide_eq_true (by omega)
    clear ht hc
    go_wp2_with fail
    refine (HV.out _ (HL.out.grown hb1)).mono ?_
    rintro e w6 ⟨rfl, hb6⟩
    replace hb1 := on hb1 hb6
    go_wp2_with fail
    go_ret
    exact ⟨rfl, hb1⟩
  · have d1 : decide ((150 : Int) < (t.size : Int)) = false := decide_eq_false (by omega)
    have d2 := hc (by omega)
    clear ht hc
    go_wp2_with fail
    refine (HV.out _ (HL.out.grown hb1)).mono ?_
    rintro e w6 ⟨rfl, hb6⟩
    replace hb1 := on hb1 hb6
    go_wp2_with fail
    go_ret
    exact ⟨rfl, hb1⟩
set_option maxRecDepth 100000 in
set_option maxHeartbeats 4000000 in
theorem blanks_off (t : ByteArray) (ht : t.size ≤ 150) (T : List Tok) (hT : LexO t.data.toList 0 T) (k : Int) (hk : k < 0 ∨ (T.length : Int) ≤ k) (u : Nat) (w : World) (hL : LLibs w) : Calls Tryd.prog 3 #[.string t, .int .i64 k, .int .u8 (u : Int)] w (LawEnd w) := by
  have HV := Lib.hid (fun w1 h => alive_c w1 h)
  have HL := Lib.hid hL
  have H1 := Lib.hid (fun w1 h => lex_c t (by omega) _ (more_some hT) w1 h)
  have d1 : decide ((150 : Int) < (t.size : Int)) = false := decide_eq_false (by omega)
  have hTl := (more_fits hT (by rw [len]; omega)).1
  clear hL hT
  generalize hn : T.length = n at *
  by_cases h0 : k < 0
  · have d2 : decide (k < 0) = true := decide_eq_true h0
    clear h0 hk
    go_enter Tryd.func3, Tryd.ntmps3
    go_wp2_with fail
    refine (H1.out _ HL.out).mono ?_
    rintro e w1 ⟨A, cap, rfl, _, hb1⟩
    go_wp2_with fail
    refine (HV.out _ (HL.out.grown hb1)).mono ?_
    rintro e w6 ⟨rfl, hb6⟩
    replace hb1 := on hb1 hb6
    go_wp2_with fail
    go_ret
    exact ⟨rfl, hb1⟩
  · have d2 : decide (k < 0) = false := decide_eq_false h0
    have d3 : decide ((T.length : Int) ≤ k) = true := decide_eq_true (by omega)
    clear h0 hk hn
    go_enter Tryd.func3, Tryd.ntmps3
    go_wp2_with fail
    refine (H1.out _ HL.out).mono ?_
    rintro e w1 ⟨A, cap, rfl, _, hb1⟩
    go_wp2_with fail
    refine (HV.out _ (HL.out.grown hb1)).mono ?_
    rintro e w6 ⟨rfl, hb6⟩
    replace hb1 := on hb1 hb6
    go_wp2_with fail
    go_ret
    exact ⟨rfl, hb1⟩
set_option maxRecDepth 100000 in
set_option maxHeartbeats 8000000 in
theorem blanks_main (t B : ByteArray) (ht : t.size ≤ 150) (T : List Tok) (hT : LexO t.data.toList 0 T) (k : Nat) (x : Tok) (hx : T[k]? = some x) (u d : Nat) (hu : u < 256) (hd : d = u % 31) (hB : B.data.toList = List.replicate d 32) (w : World) (hL : LLibs w) : Calls Tryd.prog 3 #[.string t, .int .i64 (k : Int), .int .u8 (u : Int)] w (LawEnd w) := by
  have HV := Lib.hid (fun w1 h => alive_c w1 h)
  have HL := Lib.hid hL
  have H1 := Lib.hid (fun w1 h => lex_c t (by omega) _ (more_some hT) w1 h)
  have d1 : decide ((150 : Int) < (t.size : Int)) = false := decide_eq_false (by omega)
  have hf := more_fits hT (by rw [len]; omega)
  have hkn := (List.getElem?_eq_some_iff.1 hx).1
  have hat := (hT.at_ k x hx).2
  rw [Nat.zero_add, len] at hat
  have d2 : decide ((k : Int) < 0) = false := decide_eq_false (by omega)
  have d3 : decide ((T.length : Int) ≤ (k : Int)) = false := decide_eq_false (by omega)
  have d4 : decide ((t.size : Int) < (x.at' : Int)) = false := decide_eq_false (by omega)
  have hd31 : d < 31 := by omega
  have hBl : B.size = d := by rw [← len, hB, List.length_replicate]
  have hM := hT.more k x hx d
  rw [Nat.sub_zero, ← hB] at hM
  have hs2 : (t.extract 0 x.at' ++ B ++ t.extract x.at' t.size).data.toList = t.data.toList.take x.at' ++ (B.data.toList ++ t.data.toList.drop x.at') := by
    rw [cat_data, cat_data, ext_take, ext_drop, List.append_assoc]
  have hsz : (t.extract 0 x.at' ++ B ++ t.extract x.at' t.size).size ≤ 200 := by
    rw [← len, hs2, List.length_append, List.length_append, List.length_take, List.length_drop, len, len, hBl]
    omega
  have H2 := Lib.hid (fun w1 h => (lex_c (t.extract 0 x.at' ++ B ++ t.extract x.at' t.size) hsz _ (more_some (by rw [hs2]; exact hM)) w1 h).mono (fun e w' (q : ∃ A cap, e = .returned (.tuple #[.slice A (moreT T k d).length cap, .int .i64 0, .int .i64 0]) ∧ (ToksR w' A (moreT T k d).length (moreT T k d) ∧ (moreT T k d).length ≤ cap) ∧ Below w1.heap.size w1 w') => q))
  rw [more_len] at H2
  have H3 := Lib.hid (fun A A2 cap cap2 w1 hz hz2 => moved_c A A2 T.length cap cap2 T (moreT T k d) hf.1 (more_alike T k d) w1 hz hz2)
  have HQ := Lib.hid (fun i x u hx hu => more_at (T := T) (k := k) (d := d) (i := i) (x := x) (u := u) hx hu)
  have HN : Hid ((moreT T k d).length = T.length) := Lib.hid (more_len T k d)
  have hTl := hf.1
  have HX := Lib.hid hx
  have HT9 := Lib.hid (fun i y (hy : T[i]? = some y) => (hT.at_ i y hy).2)
  rw [Nat.zero_add, len] at HT9
  have HRem : (u : Int) % 31 = (d : Int) := by omega
  generalize moreT T k d = U at *
  have HBB := Lib.hid hB
  have HBl := Lib.hid hBl
  clear hL hT hf hM hs2 hsz hx hB hBl hd
  go_enter Tryd.func3, Tryd.ntmps3
  go_wp2_with fail
  refine (H1.out _ HL.out).mono ?_
  rintro e w1 ⟨A, cap, rfl, ⟨hz, hcap⟩, hb1⟩
  obtain ⟨b, o, rfl, hbl, p0, p1, p2, p3⟩ := hz.at HX.out
  clear p0 p2 p3 H1 hcap
  go_wp2_with fail
  rw [HRem]
  clear HRem
  go_loopw [11, 56] (fun s i wr => ∃ j : Nat, j ≤ d ∧ i = .int .i64 j ∧ (∃ C : ByteArray, s = .string C ∧ C.data.toList = List.replicate j 32) ∧ w1 = wr) (fun _ i _ => d - (intOf i).toNat)
  case atStart => exact ⟨0, Nat.zero_le _, rfl, ⟨⟨#[]⟩, rfl, rfl⟩, rfl⟩
  case round =>
    obtain ⟨j, hj, rfl, ⟨C, rfl, hC⟩, rfl⟩ := hrel
    have hCl : C.size = j := by rw [← len, hC, List.length_replicate]
    by_cases hlt : j < d
    · have HC := Lib.hid hC
      have hC31 : C.size ≤ 31 := by omega
      clear hC hCl
      go_wp2_with fail
      go_roundw
      case rel => exact ⟨j + 1, by omega, by go_num, ⟨_, rfl, by rw [cat_data, HC.out, List.replicate_succ']⟩, by first | rfl | trivial⟩
      case measure => simp [intOf]; omega
    · obtain rfl : j = d := by omega
      obtain rfl : C = B := bytes_eq (by rw [hC, HBB.out])
      have hC31 : C.size ≤ 31 := by omega
      clear hC hCl HBB HBl
      go_wp2_with fail
      have P1 := fun d os => cell_regrown p1 d os
      have HZ := Lib.hid hz
      clear p1 hz
      refine wp_region_mem 25 (fun s => match s with
        | 70 => some (Is (.string (t.extract 0 x.at' ++ C)))
        | 78 => some (Is (.string (t.extract 0 x.at' ++ C ++ t.extract x.at' t.size)))
        | 79 => some (LexV U T.length)
        | _ => none) (by kernel_rfl) (by kernel_rfl) ?_
      simp only [List.take_succ_cons, List.take_zero, List.drop_succ_cons, List.drop_zero]
      repeat (first | ((with_reducible refine wpM_calm ?_ ?_ ?_ ?_); exact rfl; exact rfl; exact rfl; intro K hK; go_big_quiet_op; go_big_quiet_on) | ((with_reducible refine wpM_skip ?_ ?_); exact rfl; simp only [Act.put, List.setIfInBounds_toArray, List.set_cons_succ, List.set_cons_zero]))
      refine wpM_makes _ rfl rfl (fun w3 hw3 _ => ?_) ?_
      · simp [go_sem, variesUpon]
        rw [if_neg (by omega)]
        exact ⟨Below.refl _ _, rfl⟩
      rintro v ⟨_, rfl⟩ a' ha'
      simp only [Act.put, List.setIfInBounds_toArray, List.set_cons_succ, List.set_cons_zero] at ha'
      subst ha'
      repeat (first | ((with_reducible refine wpM_calm ?_ ?_ ?_ ?_); exact rfl; exact rfl; exact rfl; intro K hK; go_big_quiet_op; go_big_quiet_on) | ((with_reducible refine wpM_skip ?_ ?_); exact rfl; simp only [Act.put, List.setIfInBounds_toArray, List.set_cons_succ, List.set_cons_zero]))
      refine wpM_makes _ rfl rfl (fun w3 hw3 _ => ?_) ?_
      · simp [go_sem, variesUpon]
        rw [if_neg (by omega)]
        exact ⟨Below.refl _ _, rfl⟩
      rintro v ⟨_, rfl⟩ a' ha'
      simp only [Act.put, List.setIfInBounds_toArray, List.set_cons_succ, List.set_cons_zero] at ha'
      subst ha'
      refine wpM_call _ rfl rfl rfl Tryd.func4 (by kernel_rfl) (by kernel_rfl) (fun w3 hw3 _ => (H2.out w3 (HL.out.grown (on hb1 hw3))).mono fun e w4 ⟨A1, c1, e1, h1, h2⟩ => ⟨_, e1, h2, A1, c1, rfl, h1.1⟩) rfl ?_
      rintro v1 ⟨_, A1, c1, rfl, _⟩ a1 ha1
      simp only [Act.put, List.setIfInBounds_toArray, List.set_cons_succ, List.set_cons_zero] at ha1
      subst ha1
      repeat (first | ((with_reducible refine wpM_calm ?_ ?_ ?_ ?_); exact rfl; exact rfl; exact rfl; intro K hK; go_big_quiet_op; go_big_quiet_on) | ((with_reducible refine wpM_skip ?_ ?_); exact rfl; simp only [Act.put, List.setIfInBounds_toArray, List.set_cons_succ, List.set_cons_zero]))
      refine wpM_nil ?_
      intro w3 hw3 hF
      obtain ⟨w5, ⟨A2, c2, e2, hz2⟩, hb5⟩ := (hF 17).2 rfl
      simp only [Value.tuple.injEq, Array.mk.injEq, List.cons.injEq, Value.slice.injEq, true_and, and_true] at e2
      obtain ⟨rfl, rfl⟩ := e2
      replace hz2 := hz2.on hb5
      have hz := HZ.out.on hw3
      replace hb1 := on hb1 hw3
      clear hF hb5 hw3 P1 H2 HZ
      go_wp2_with fail
      refine (H3.out _ _ _ _ _ hz hz2).mono ?_
      rintro e w6 ⟨rfl, hb6⟩
      have HZ := Lib.hid (hz.on hb6)
      have HZ2 := Lib.hid (hz2.on hb6)
      replace hb1 := on hb1 hb6
      clear hz hz2 hb6 H3
      go_wp2_with fail
      go_loopw [93] (fun i wr => ∃ q : Nat, q ≤ T.length ∧ i = .int .i64 q ∧ Below w6.heap.size w6 wr) (fun i _ => T.length - (intOf i).toNat)
      case atStart => exact ⟨0, Nat.zero_le _, rfl, Below.refl _ _⟩
      case round =>
        obtain ⟨q, hq, rfl, hbq⟩ := hrel
        by_cases hlt2 : q < T.length
        · obtain ⟨x2, hx2⟩ : ∃ x2, T[q]? = some x2 := ⟨_, List.getElem?_eq_getElem hlt2⟩
          obtain ⟨y, hy⟩ : ∃ y, U[q]? = some y := ⟨_, List.getElem?_eq_getElem (by rw [HN.out]; exact hlt2)⟩
          have hq2 := HQ.out q x2 y hx2 hy
          obtain ⟨_, _, e1, hbl1, _, p1, _, _⟩ := (HZ.out.on hbq).at hx2
          simp only [Option.some.injEq, Addr.mk.injEq, and_true] at e1
          obtain ⟨rfl, rfl⟩ := e1
          obtain ⟨b2, o2, rfl, hbl2, y0, y1, y2, y3⟩ := (HZ2.out.on hbq).at hy
          have hx9 : (x2.at' : Int) ≤ 1000 := by have := HT9.out q x2 hx2; omega
          replace hbq := on_alloc hbq (.cells #[.int .i64 y.k, .int .i64 (y.at' : Int), .string ⟨y.t.toArray⟩, .int .i64 y.n] 27)
          by_cases hik : q < k
          · rw [if_pos hik] at hq2
            have d5 : decide ((k : Int) ≤ (q : Int)) = false := decide_eq_false (by omega)
            have d6 : ((y.at' : Int) != (x2.at' : Int)) = false := by rw [hq2]; simp
            clear hx2 hy hq2
            go_wp2_with fail
            go_roundw
            case rel => exact ⟨q + 1, by omega, by go_num, hbq⟩
            case measure => simp [intOf]; omega
          · rw [if_neg hik] at hq2
            have d5 : decide ((k : Int) ≤ (q : Int)) = true := decide_eq_true (by omega)
            have d6 : ((y.at' : Int) != (x2.at' : Int) + (j : Int)) = false := by rw [hq2]; simp
            clear hx2 hy hq2
            go_wp2_with fail
            go_roundw
            case rel => exact ⟨q + 1, by omega, by go_num, hbq⟩
            case measure => simp [intOf]; omega
        · obtain rfl : q = T.length := by omega
          go_wp2_with fail
          refine (HV.out _ (HL.out.grown (on hb1 hbq))).mono ?_
          rintro e w7 ⟨rfl, hb7⟩
          replace hb1 := on (on hb1 hbq) hb7
          go_wp2_with fail
          go_ret
          exact ⟨rfl, hb1⟩
set_option maxRecDepth 100000 in
set_option maxHeartbeats 4000000 in
theorem blanks_law (t : ByteArray) (k : Int) (u : Nat) (h1 : -9223372036854775808 ≤ k) (h2 : k ≤ 9223372036854775807) (hu : u < 256) (w : World) (hL : LLibs w) : Calls Tryd.prog 3 #[.string t, .int .i64 k, .int .u8 (u : Int)] w (LawEnd w) := by
  by_cases ht : t.size ≤ 200
  · obtain ⟨R, hR⟩ := LexAt.start t.data.toList
    cases R with
    | inr n => exact blanks_out t k u w (fun w1 h => (lex_c t ht _ hR w1 h).mono fun e w' ⟨he, hb⟩ => ⟨none, 0, 0, n, 1, he, fun _ => by decide, hb⟩) hL
    | inl T =>
      by_cases h15 : t.size ≤ 150
      · obtain ⟨T', hT, rfl⟩ := hR
        rw [List.drop_zero] at hT
        by_cases hk : k < 0 ∨ (T.length : Int) ≤ k
        · exact blanks_off t h15 T hT k hk u w hL
        · obtain ⟨q, rfl⟩ : ∃ q : Nat, k = (q : Int) := ⟨k.toNat, by omega⟩
          exact blanks_main t ⟨(List.replicate (u % 31) (32 : UInt8)).toArray⟩ h15 T hT q _ (List.getElem?_eq_getElem (by omega)) u (u % 31) hu rfl rfl w hL
      · exact blanks_out t k u w (fun w1 h => (lex_c t ht _ hR w1 h).mono fun e w' ⟨A, cap, he, _, hb⟩ => ⟨A, _, cap, 0, 0, he, fun h => absurd h h15, hb⟩) hL
  · exact blanks_out t k u w (fun w1 h => (lex_long t (by omega) w1).mono fun e w' ⟨he, hw⟩ => ⟨none, 0, 0, 0, 3, he, fun h => absurd h (by omega), by rw [hw]; exact Below.refl _ _⟩) hL
end Go.Proofs.YtmoednmgmmgjeaaDoor.Lex
