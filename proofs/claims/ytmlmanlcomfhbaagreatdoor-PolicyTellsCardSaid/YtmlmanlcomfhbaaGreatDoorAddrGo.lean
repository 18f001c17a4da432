/- What the program's Name, Column, Number and Parse of cells answer: every cell, every text below 2^32 - 15 bytes; where the library's sentinels hold values of an interface, and its table of powers reads as laid. -/
import Derived.Test.YtmlmanlcomfhbaaGreatDoorGf
import Derived.Test.YtmlmanlcomfhbaaGreatDoorGe
namespace Go.Proofs.YtmlmanlcomfhbaaGreatDoor.Addr
open Go.RowKit Kit Cats

/-- what the library's variables hold -/
def Libs (w : World) : Prop := Errs w ∧ Pows w
theorem Libs.grown {w w' : World} (h : Libs w) (hb : Below w.heap.size w w') : Libs w' := ⟨h.1.grown hb, h.2.grown hb⟩
theorem Libs.regrown {w : World} (h : Libs w) (d : Nat) (os : Array Obj) : Libs (Sort.grow (redrawn w d) os) := h.grown (below_regrown w d os)

/-- a row's number, as the program tells it -/
theorem itoa_row (n : Nat) (hn : n ≤ 998) (z : Int) (hz : z = (n : Int) + 1) (w : World) (h : Libs w) : Calls Tryz.prog 27 #[.int .i64 z] w fun e w' => e = .returned (.string ⟨(numN n).toArray⟩) ∧ Below w.heap.size w w' := by
  have h1 := itoa_nat (n + 1) (by omega) w h.2
  have e : (((n + 1 : Nat) : Int)) = z := by omega
  rw [e, d3_eq (by omega)] at h1
  exact h1
theorem letters_b (k : Nat) (hk : k ≤ 701) (w : World) : Calls Tryz.prog 69 #[.int .i64 k] w fun e w' => e = .returned (.string ⟨(letN k).toArray⟩) ∧ Below w.heap.size w w' :=
  (letters_nat k hk w).mono fun e w' ⟨h1, h2⟩ => ⟨h1, by rw [h2]; exact Below.refl _ _⟩
set_option maxRecDepth 100000 in
set_option maxHeartbeats 2000000 in
theorem name_in (i j : Nat) (hi : i ≤ 998) (hj : j ≤ 701) (w : World) (hL : Libs w) : Calls Tryz.prog 47 #[.agg #[.int .i64 i, .int .i64 j]] w fun e w' => e = .returned (.string ⟨(nameN i j).toArray⟩) ∧ Below w.heap.size w w' := by
  have Hm := Lib.hid (fun w1 => may_c i j true (mayB_nat hi hj) w1)
  have Hl := Lib.hid (fun w1 => letters_b j hj w1)
  have Hn := Lib.hid (fun w1 h => itoa_row i hi ((i : Int) + 1) rfl w1 h)
  have HC := Lib.hid (cat (letN j) (numN i))
  have HL := Lib.hid hL
  obtain ⟨l1, l2⟩ := let_len1 j
  obtain ⟨n1, n2⟩ := num_length i
  clear hL
  unfold nameN
  generalize letN j = L at *
  generalize numN i = M at *
  go_enter Tryz.func47, Tryz.ntmps47
  go_wp2_with fail
  refine (Hm.out _).mono ?_
  rintro e w1 ⟨rfl, hb0⟩
  obtain ⟨hc, hbw⟩ := slot (w := w) (cs := [.int .i64 i, .int .i64 j]) hb0
  obtain ⟨c0, c1, _, _⟩ := hc.two
  have C0 := fun d os => cell_regrown c0 d os
  have C1 := fun d os => cell_regrown c1 d os
  have HL1 := Lib.hid (HL.out.grown hbw)
  clear hc hb0 c0 c1
  go_wp2_with fail
  refine wp_region_quiet_below (by kernel_rfl) (by kernel_rfl) ?_
  repeat (go_big_quiet_step (first | (go_at_call 69; with_reducible exact Calls.regrown_of (Hl.out _)) | (go_at_call 27; with_reducible exact Calls.regrown_of (Hn.out _ (HL1.out.regrown _ _)))))
  refine wpQuiet_nil ?_
  intro _ hw'
  obtain ⟨⟨dq, osq⟩, hw''⟩ := hw'
  subst hw''
  go_wp2
  go_ret
  exact ⟨congrArg (fun x => Ending.returned (.string x)) HC.out, on hbw (below_regrown w1 dq osq)⟩
set_option maxRecDepth 100000 in
set_option maxHeartbeats 1000000 in
theorem name_out (r c : Int) (h : mayB r c = false) (w : World) : Calls Tryz.prog 47 #[.agg #[.int .i64 r, .int .i64 c]] w fun e w' => e = .returned (.string ⟨#[]⟩) ∧ Below w.heap.size w w' := by
  have Hm := Lib.hid (fun w1 => may_c r c false h w1)
  clear h
  go_enter Tryz.func47, Tryz.ntmps47
  go_wp2_with fail
  refine (Hm.out _).mono ?_
  rintro e w1 ⟨rfl, hb0⟩
  obtain ⟨_, hbw⟩ := slot (w := w) (cs := [.int .i64 r, .int .i64 c]) hb0
  clear hb0
  go_wp2
  go_ret
  exact ⟨rfl, hbw⟩
theorem name_c (r c : Int) (w : World) (hL : Libs w) : Calls Tryz.prog 47 #[.agg #[.int .i64 r, .int .i64 c]] w fun e w' => e = .returned (.string ⟨(nameI r c).toArray⟩) ∧ Below w.heap.size w w' := by
  cases h : mayB r c with
  | false => rw [nameI, h, if_neg (by decide)]; exact name_out r c h w
  | true =>
    obtain ⟨i, j, rfl, rfl, hi, hj⟩ := of_mayB h
    rw [nameI_nat hi hj]
    exact name_in i j hi hj w hL

/-- a reader's answer: a number, and whether there is one -/
def ReadEnd (p : Int → Bool → Prop) (w : World) (e : Ending) (w' : World) : Prop := ∃ (n : Int) (b : Bool), e = .returned (.tuple #[.int .i64 n, .bool b]) ∧ p n b ∧ Below w.heap.size w w'
theorem list_split (s : ByteArray) (k : Nat) (x : UInt8) (h : s.data.toList[k]? = some x) : s.data.toList = s.data.toList.take k ++ x :: s.data.toList.drop (k + 1) := by
  obtain ⟨hk, rfl⟩ := List.getElem?_eq_some_iff.1 h
  conv => lhs; rw [← List.take_append_drop k s.data.toList, List.drop_eq_getElem_cons hk]
set_option maxRecDepth 100000 in
set_option maxHeartbeats 2000000 in
theorem column_c (t : ByteArray) (hl : t.size ≤ 281474976710656) (w : World) : Calls Tryz.prog 136 #[.string t] w (ReadEnd (ColIs t.data.toList) w) := by
  have h0 : ColAt (t.data.toList.take 0) (-1) := .inl ⟨rfl, rfl⟩
  go_enter Tryz.func136, Tryz.ntmps136
  go_wp2
  go_loopw [4, 8] (fun o i wr => ∃ (k : Nat) (c : Int), k ≤ t.size ∧ o = .int .i64 c ∧ i = .int .i64 k ∧ ColAt (t.data.toList.take k) c ∧ wr = w) (fun _ i _ => t.size - (intOf i).toNat)
  case atStart => exact ⟨0, -1, by omega, rfl, rfl, h0, rfl⟩
  case round =>
    clear h0
    obtain ⟨k, c, hk, rfl, rfl, hat, rfl⟩ := hrel
    by_cases hlt : k < t.size
    · obtain ⟨x, hx⟩ : ∃ x : UInt8, t[k]'hlt = x := ⟨_, rfl⟩
      have hxl : t.data.toList[k]? = some x := by rw [← hx]; exact Lib.data_getElem? t k hlt
      have hsp := list_split t k x hxl
      have htk : t.data.toList.take (k + 1) = t.data.toList.take k ++ [x] := by rw [List.take_add_one, hxl]; rfl
      obtain ⟨r1, r2⟩ := hat.range
      have hx256 := x.toNat_lt
      by_cases hlo : x.toNat < 65
      · have d1 : decide ((x.toNat : Int) < 65) = true := by simp; omega
        have HL := Lib.hid (ColAt.odd (l := t.data.toList.take k) (r := t.data.toList.drop (k + 1)) (x := x) (.inl hlo))
        rw [← hsp] at HL
        clear hsp htk hxl hat
        go_wp2
        go_ret2
        exact ⟨_, _, rfl, HL.out, Below.refl _ _⟩
      · have d1 : decide ((x.toNat : Int) < 65) = false := by simp; omega
        by_cases hhi : 90 < x.toNat
        · have d2 : decide (90 < (x.toNat : Int)) = true := by simp; omega
          have HL := Lib.hid (ColAt.odd (l := t.data.toList.take k) (r := t.data.toList.drop (k + 1)) (x := x) (.inr hhi))
          rw [← hsp] at HL
          clear hsp htk hxl hat
          go_wp2
          go_ret2
          exact ⟨_, _, rfl, HL.out, Below.refl _ _⟩
        · have d2 : decide (90 < (x.toNat : Int)) = false := by simp; omega
          have hnew := ColAt.next hat (x := x) (by omega) (by omega)
          have hov := ColAt.over hat (x := x) (r := t.data.toList.drop (k + 1)) (by omega) (by omega)
          rw [← hsp] at hov
          rw [← htk] at hnew
          have HNew := Lib.hid hnew
          have HOv := Lib.hid hov
          clear hsp htk hxl hat hnew hov
          by_cases hin : (c + 1) * 26 + ((x.toNat : Int) - 65) ≤ 701
          · have Hm := Lib.hid (fun w1 => mayCol_c ((c + 1) * 26 + ((x.toNat : Int) - 65)) true (by simp; omega) w1)
            go_wp2_with fail
            refine (Hm.out _).mono ?_
            rintro e w2 ⟨rfl, rfl⟩
            have hnew := HNew.out hin
            clear HNew HOv
            go_wp2
            go_roundw
            case rel => exact ⟨k + 1, _, by omega, rfl, by go_num, hnew, trivial⟩
            case measure => simp [intOf]; omega
          · have Hm := Lib.hid (fun w1 => mayCol_c ((c + 1) * 26 + ((x.toNat : Int) - 65)) false (by simp; omega) w1)
            have HL := Lib.hid (HOv.out (by omega))
            go_wp2_with fail
            refine (Hm.out _).mono ?_
            rintro e w2 ⟨rfl, rfl⟩
            clear HNew HOv
            go_wp2
            go_ret2
            exact ⟨_, _, rfl, HL.out, Below.refl _ _⟩
    · obtain rfl : k = t.size := by omega
      have htk : t.data.toList.take t.size = t.data.toList := List.take_of_length_le (by rw [Lib.size_eq]; omega)
      rw [htk] at hat
      cases hem : t.toList.isEmpty with
      | true =>
        have hnil : t.data.toList = [] := by rw [← Lib.toList_data]; simpa using hem
        have HL : Hid (ColIs t.data.toList 0 false) := Lib.hid (by rw [hnil]; exact ColIs.empty)
        clear hat hnil htk
        go_wp2
        go_ret2
        exact ⟨_, _, rfl, HL.out, Below.refl _ _⟩
      | false =>
        have hne : t.data.toList ≠ [] := by rw [← Lib.toList_data]; simpa using hem
        have HL := Lib.hid (hat.done hne)
        clear hat hne htk
        go_wp2
        go_ret2
        exact ⟨_, _, rfl, HL.out, Below.refl _ _⟩

theorem atoi_num : ∀ k, k < 999 → atoiO (numN k) = some ((k : Int) + 1) := by decide +kernel
theorem NumIs.no_atoi {t : List UInt8} (h : atoiO t = none) : NumIs t 0 false := .inr ⟨rfl, rfl, fun k hk e => by
  rw [← e, atoi_num k (by omega)] at h; cases h⟩
theorem NumIs.out {t : List UInt8} {v : Int} (h : atoiO t = some v) (hv : v < 1 ∨ 999 < v) : NumIs t 0 false := .inr ⟨rfl, rfl, fun k hk e => by
  rw [← e, atoi_num k (by omega)] at h
  simp only [Option.some.injEq] at h
  omega⟩
theorem NumIs.other {t : List UInt8} {n : Nat} (h : atoiO t = some ((n : Int) + 1)) (hne : numN n ≠ t) : NumIs t 0 false := .inr ⟨rfl, rfl, fun k hk e => by
  rw [← e, atoi_num k (by omega)] at h
  simp only [Option.some.injEq] at h
  obtain rfl : k = n := by omega
  exact hne e⟩
set_option maxRecDepth 100000 in
set_option maxHeartbeats 2000000 in
theorem number_c (t : ByteArray) (hl : t.size ≤ 281474976710656) (w : World) (hL : Libs w) : Calls Tryz.prog 102 #[.string t] w (ReadEnd (NumIs t.data.toList) w) := by
  have HA := Lib.hid (fun w1 h => atoi_c t hl w1 h)
  have HL := Lib.hid hL
  clear hL
  go_enter Tryz.func102, Tryz.ntmps102
  go_wp2_with fail
  refine (HA.out _ HL.out.1).mono ?_
  rintro e w1 ⟨hr, hb1⟩
  rcases hr with ⟨v, ha, rfl⟩ | ⟨ha, x, ty, pt, rfl⟩
  · by_cases hlo : v < 1
    · have HR := Lib.hid (NumIs.out ha (.inl hlo))
      clear ha
      go_wp2
      go_ret2
      exact ⟨_, _, rfl, HR.out, hb1⟩
    · by_cases hhi : 999 < v
      · have d1 : decide (v < 1) = false := by simpa using hlo
        have HR := Lib.hid (NumIs.out ha (.inr hhi))
        clear ha
        go_wp2
        go_ret2
        exact ⟨_, _, rfl, HR.out, hb1⟩
      · obtain ⟨n, hn⟩ : ∃ n : Nat, v = (n : Int) + 1 := ⟨(v - 1).toNat, by omega⟩
        subst hn
        have hn9 : n ≤ 998 := by omega
        have Hi := Lib.hid (fun w1 h => itoa_row n hn9 ((n : Int) + 1) rfl w1 h)
        have HL1 := Lib.hid (HL.out.grown hb1)
        have HAt := Lib.hid ha
        clear ha
        cases hq : (numN n == t.toList)
        · have hqn : (numN n != t.toList) = true := by simp [bne, hq]
          have HR := Lib.hid (NumIs.other HAt.out (by rw [← Lib.toList_data]; simpa using hq))
          go_wp2_with fail
          refine (Hi.out _ HL1.out).mono ?_
          rintro e w2 ⟨rfl, hb2⟩
          have hb3 := on hb1 hb2
          clear hb1 hb2
          go_wp2
          go_ret2
          exact ⟨_, _, rfl, HR.out, hb3⟩
        · have hqn : (numN n != t.toList) = false := by simp [bne, hq]
          have HR := Lib.hid (NumIs.here hn9 (t := t.data.toList) (by rw [← Lib.toList_data]; simpa using hq))
          go_wp2_with fail
          refine (Hi.out _ HL1.out).mono ?_
          rintro e w2 ⟨rfl, hb2⟩
          have hb3 := on hb1 hb2
          clear hb1 hb2
          go_wp2
          go_ret2
          exact ⟨_, _, rfl, HR.out, hb3⟩
  · have HR := Lib.hid (NumIs.no_atoi ha)
    clear ha
    go_wp2
    go_ret2
    exact ⟨_, _, rfl, HR.out, hb1⟩

theorem ext_take_g (t : ByteArray) (k : Nat) : (t.extract 0 k).data.toList = t.data.toList.take k := by
  rw [Lib.extract_data, List.drop_zero, Nat.sub_zero]
theorem ext_drop_g (t : ByteArray) (k : Nat) : (t.extract k t.size).data.toList = t.data.toList.drop k := by
  rw [Lib.extract_data, List.take_of_length_le (by rw [List.length_drop, Lib.size_eq]; omega)]
/-- a reader's answer: a cell, and whether there is one -/
def ParseEnd (t : List UInt8) (w : World) (e : Ending) (w' : World) : Prop := ∃ (r c : Int) (b : Bool), e = .returned (.tuple #[.agg #[.int .i64 r, .int .i64 c], .bool b]) ∧ CellIs t r c b ∧ Below w.heap.size w w'
set_option maxRecDepth 100000 in
set_option maxHeartbeats 2000000 in
theorem parse_no (t : ByteArray) (hl : t.size < 4294967281) (h : Lib.indexAny t.data.toList tens = -1) (w : World) : Calls Tryz.prog 123 #[.string t] w (ParseEnd t.data.toList w) := by
  have Hi := fun w1 => indexTens_c t hl w1
  rw [h] at Hi
  have HI := Lib.hid Hi
  have HR := Lib.hid (CellIs.no_digit h)
  clear Hi h
  go_enter Tryz.func123, Tryz.ntmps123
  go_wp2_with fail
  refine (HI.out _).mono ?_
  rintro e w1 ⟨rfl, hb1⟩
  obtain ⟨hc, hw⟩ := slot (w := w) (cs := [.int .i64 0, .int .i64 0]) hb1
  obtain ⟨c0, c1, f0, f1⟩ := hc.two
  obtain ⟨e0, e1⟩ := two_set (u := .int .i64 0) (v := .int .i64 0) c0 c1
  clear hb1 hc
  go_wp2
  exact bodyPost_ret (v := .tuple #[.agg #[.int .i64 0, .int .i64 0], .bool false]) (by simp [results, Tryz.results123, go_sem, e0, e1]) rfl ⟨_, _, _, rfl, HR.out, set2 hw (Nat.le_refl _) _ _⟩
set_option maxRecDepth 100000 in
set_option maxHeartbeats 2000000 in
theorem parse_cut (t : ByteArray) (hl : t.size < 4294967281) (k : Nat) (hk : k + 1 ≤ t.size) (h : Lib.indexAny t.data.toList tens = k) (w : World) (hL : Libs w) : Calls Tryz.prog 123 #[.string t] w (ParseEnd t.data.toList w) := by
  have Hi := fun w1 => indexTens_c t hl w1
  rw [h] at Hi
  have HI := Lib.hid Hi
  have HL := Lib.hid hL
  have HK := Lib.hid h
  have Hc := Lib.hid (fun w1 => column_c (t.extract 0 k) (by simp; omega) w1)
  have Hn := Lib.hid (fun w1 h => number_c (t.extract k t.size) (by simp; omega) w1 h)
  rw [ext_take_g] at Hc
  rw [ext_drop_g] at Hn
  clear Hi h hL
  go_enter Tryz.func123, Tryz.ntmps123
  go_wp2_with fail
  refine (HI.out _).mono ?_
  rintro e w1 ⟨rfl, hb1⟩
  go_wp2_with fail
  refine (Hc.out _).mono ?_
  rintro e w2 ⟨c, b, rfl, hcol, hb2⟩
  have hb3 := on hb1 hb2
  have HL3 := Lib.hid (HL.out.grown (slot (w := w) (cs := [.int .i64 0, .int .i64 0]) hb3).2)
  clear hb1 hb2
  go_wp2_with fail
  refine (Hn.out _ HL3.out).mono ?_
  rintro e w3 ⟨r, b2, rfl, hnum, hb4⟩
  obtain ⟨hc, hw⟩ := slot (w := w) (cs := [.int .i64 0, .int .i64 0]) (on hb3 hb4)
  obtain ⟨c0, c1, f0, f1⟩ := hc.two
  clear hb3 hb4 hc HL3 HL
  cases b with
  | false =>
    have HR := Lib.hid (CellIs.no_col HK.out hcol)
    obtain ⟨e0, e1⟩ := two_set (u := .int .i64 0) (v := .int .i64 0) c0 c1
    clear hcol hnum
    go_wp2
    exact bodyPost_ret (v := .tuple #[.agg #[.int .i64 0, .int .i64 0], .bool false]) (by simp [results, Tryz.results123, go_sem, e0, e1]) rfl ⟨_, _, _, rfl, HR.out, set2 hw (Nat.le_refl _) _ _⟩
  | true =>
    cases b2 with
    | false =>
      have HR := Lib.hid (CellIs.no_num HK.out hnum)
      obtain ⟨e0, e1⟩ := two_set (u := .int .i64 0) (v := .int .i64 0) c0 c1
      clear hcol hnum
      go_wp2
      exact bodyPost_ret (v := .tuple #[.agg #[.int .i64 0, .int .i64 0], .bool false]) (by simp [results, Tryz.results123, go_sem, e0, e1]) rfl ⟨_, _, _, rfl, HR.out, set2 hw (Nat.le_refl _) _ _⟩
    | true =>
      have HR := Lib.hid (CellIs.both hcol hnum)
      obtain ⟨e0, e1⟩ := two_set (u := .int .i64 r) (v := .int .i64 c) c0 c1
      clear hcol hnum
      go_wp2
      exact bodyPost_ret (v := .tuple #[.agg #[.int .i64 r, .int .i64 c], .bool true]) (by simp [results, Tryz.results123, go_sem, e0, e1]) rfl ⟨_, _, _, rfl, HR.out, set2 hw (Nat.le_refl _) _ _⟩
theorem parse_c (t : ByteArray) (hl : t.size < 4294967281) (w : World) (hL : Libs w) : Calls Tryz.prog 123 #[.string t] w (ParseEnd t.data.toList w) := by
  rcases any_cases tens t.data.toList with ⟨h, _⟩ | ⟨k, h, hk, _⟩
  · exact parse_no t hl h w
  · exact parse_cut t hl k (by rw [Lib.size_eq]; exact hk) h w hL
end Go.Proofs.YtmlmanlcomfhbaaGreatDoor.Addr
