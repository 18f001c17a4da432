/- AddrBack: the law returns true for every cell and every text, and makes new memory alone. -/
import Derived.Test.YtoomggpjdnbggaaDoorAddrAlive
namespace Go.Proofs.YtoomggpjdnbggaaDoor.Addr
open Go.RowKit Kit Cats

/-- the text of what may not be is empty -/
theorem nameI_out {r c : Int} (h : mayB r c = false) : nameI r c = [] := by rw [nameI, h, if_neg (by decide)]
theorem nameI_in {r c : Int} (h : mayB r c = true) : (nameI r c).isEmpty = false := by
  obtain ⟨i, j, rfl, rfl, hi, hj⟩ := of_mayB h
  rw [nameI_nat hi hj]
  have h1 := let_len1 j
  cases hn : nameN i j with
  | nil => have := congrArg List.length hn; simp [nameN] at this; simp [this.1] at h1
  | cons x y => rfl
theorem cellIs_name (r c : Int) : CellIs (nameI r c) (if mayB r c then r else 0) (if mayB r c then c else 0) (mayB r c) := by
  cases h : mayB r c with
  | true => simpa using CellIs.name h
  | false => rw [nameI_out h]; simpa using CellIs.empty
theorem nameI_short (r c : Int) : (ByteArray.mk (nameI r c).toArray).size < 4294967281 := by
  have : (ByteArray.mk (nameI r c).toArray).size = (nameI r c).length := by simp [ByteArray.size]
  rw [this]
  cases hm : mayB r c with
  | false => rw [nameI_out hm]; simp
  | true =>
    obtain ⟨i, j, rfl, rfl, hi, hj⟩ := of_mayB hm
    rw [nameI_nat hi hj]
    have h1 := let_len1 j
    have h2 := num_length i
    simp only [nameN, List.length_append]
    omega
theorem nameI_empty (r c : Int) : (nameI r c).isEmpty = !mayB r c := by
  cases hm : mayB r c with
  | false => rw [nameI_out hm]; rfl
  | true => rw [nameI_in hm]; rfl
set_option maxRecDepth 100000 in
set_option maxHeartbeats 4000000 in
theorem back_c (a b : Int) (t : ByteArray) (w : World) (hL : Libs w) : Calls Tryd.prog 5 #[.agg #[.int .i64 a, .int .i64 b], .string t] w fun e w' => e = .returned (.bool true) ∧ Below w.heap.size w w' := by
  have HA := Lib.hid (fun w1 h => alive_c w1 h)
  have HL := Lib.hid hL
  clear hL
  by_cases hs : 100 < t.size
  · go_enter Tryd.func5, Tryd.ntmps5
    go_wp2_with fail
    refine (HA.out _ (HL.out.grown (below1 w _))).mono ?_
    rintro e w1 ⟨rfl, hb⟩
    replace hb := on (below1 w _) hb
    go_wp2
    go_ret
    exact ⟨rfl, hb⟩
  · have H1 := Lib.hid (fun w1 h => name_c a b w1 h)
    have H2 := Lib.hid (fun w1 h => parse_c ⟨(nameI a b).toArray⟩ (nameI_short a b) w1 h)
    have H3 := Lib.hid (fun w1 h => parse_c t (by omega) w1 h)
    have HC := Lib.hid (cellIs_name a b)
    have hem := nameI_empty a b
    obtain ⟨m, hm⟩ : ∃ m, mayB a b = m := ⟨_, rfl⟩
    have HM := Lib.hid (fun w1 => may_c a b m hm w1)
    rw [hm] at HC hem
    generalize nameI a b = S at *
    clear hm
    go_enter Tryd.func5, Tryd.ntmps5
    have hb0 := below1 w (.cells #[.int .i64 a, .int .i64 b] 23)
    have hz := CellsAt.new w [.int .i64 a, .int .i64 b] 23
    go_wp2_with fail
    refine (H1.out _ (HL.out.grown hb0)).mono ?_
    rintro e w1 ⟨rfl, hb1⟩
    replace hb0 := on hb0 hb1
    replace hz := hz.on hb1
    clear hb1
    go_wp2_with fail
    refine (H2.out _ (HL.out.grown hb0)).mono ?_
    rintro e w2 ⟨x, y, ok, rfl, hx, hb2⟩
    obtain ⟨hx1, hx2, rfl⟩ := hx.unique HC.out
    have hne : Hid (ok = true → x = a ∧ y = b) := Lib.hid fun h => by subst h; exact ⟨by simpa using hx1, by simpa using hx2⟩
    clear hx1 hx2 HC
    have HEM := Lib.hid hem
    clear hem
    replace hb0 := on_alloc (on hb0 hb2) (.cells #[.int .i64 x, .int .i64 y] 23)
    replace hz := (hz.on hb2).on_alloc (.cells #[.int .i64 x, .int .i64 y] 23)
    have hv := CellsAt.new w2 [.int .i64 x, .int .i64 y] 23
    clear hb2 hx
    go_wp2_with fail
    refine (H3.out _ (HL.out.grown hb0)).mono ?_
    rintro e w3 ⟨r, c, is, rfl, hy, hb3⟩
    replace hb0 := on_alloc (on hb0 hb3) (.cells #[.int .i64 r, .int .i64 c] 23)
    replace hz := (hz.on hb3).on_alloc (.cells #[.int .i64 r, .int .i64 c] 23)
    replace hv := (hv.on hb3).on_alloc (.cells #[.int .i64 r, .int .i64 c] 23)
    have hy2 := CellsAt.new w3 [.int .i64 r, .int .i64 c] 23
    clear hb3
    obtain ⟨c0, c1, _, _⟩ := hz.two
    obtain ⟨d0, d1, _, _⟩ := hy2.two
    obtain ⟨v0, v1, _, _⟩ := hv.two
    clear hz hy2 hv H1 H2 H3
    have HY := Lib.hid hy
    clear hy
    go_wp2_with fail
    refine (HM.out _).mono ?_
    rintro e w4 ⟨rfl, hb4⟩
    replace c0 := kept hb4 c0
    replace c1 := kept hb4 c1
    replace d0 := kept hb4 d0
    replace d1 := kept hb4 d1
    replace v0 := kept hb4 v0
    replace v1 := kept hb4 v1
    replace hb0 := on hb0 hb4
    clear hb4
    cases is with
    | false =>
      cases ok with
      | false =>
        have hem : S.isEmpty = true := by simpa using HEM.out
        clear hne HEM
        go_wp2_with fail
        refine (HA.out _ (HL.out.grown hb0)).mono ?_
        rintro e w5 ⟨rfl, hb5⟩
        replace hb0 := on hb0 hb5
        go_wp2
        go_ret
        exact ⟨rfl, hb0⟩
      | true =>
        obtain ⟨rfl, rfl⟩ := hne.out rfl
        have hem : S.isEmpty = false := by simpa using HEM.out
        clear hne HEM
        go_wp2_with fail
        refine (HA.out _ (HL.out.grown hb0)).mono ?_
        rintro e w5 ⟨rfl, hb5⟩
        replace hb0 := on hb0 hb5
        go_wp2
        go_ret
        exact ⟨rfl, hb0⟩
    | true =>
      obtain ⟨hm2, hn2⟩ := HY.out.back
      have HM2 := Lib.hid (fun w1 => may_c r c true hm2 w1)
      have HN2 := Lib.hid (fun w1 h => name_c r c w1 h)
      have hq : (nameI r c == t.toList) = true := by rw [hn2, Lib.toList_data]; simp
      clear hm2 hn2 HY
      generalize nameI r c = N at *
      cases ok with
      | false =>
        have hem : S.isEmpty = true := by simpa using HEM.out
        clear hne HEM
        go_wp2_with fail
        refine (HM2.out _).mono ?_
        rintro e w5 ⟨rfl, hb5⟩
        replace d0 := kept hb5 d0
        replace d1 := kept hb5 d1
        replace hb0 := on hb0 hb5
        clear hb5
        go_wp2_with fail
        refine (HN2.out _ (HL.out.grown hb0)).mono ?_
        rintro e w6 ⟨rfl, hb6⟩
        replace hb0 := on hb0 hb6
        clear hb6
        go_wp2_with fail
        refine (HA.out _ (HL.out.grown hb0)).mono ?_
        rintro e w7 ⟨rfl, hb7⟩
        replace hb0 := on hb0 hb7
        go_wp2
        go_ret
        exact ⟨rfl, hb0⟩
      | true =>
        obtain ⟨rfl, rfl⟩ := hne.out rfl
        have hem : S.isEmpty = false := by simpa using HEM.out
        clear hne HEM
        go_wp2_with fail
        refine (HM2.out _).mono ?_
        rintro e w5 ⟨rfl, hb5⟩
        replace d0 := kept hb5 d0
        replace d1 := kept hb5 d1
        replace hb0 := on hb0 hb5
        clear hb5
        go_wp2_with fail
        refine (HN2.out _ (HL.out.grown hb0)).mono ?_
        rintro e w6 ⟨rfl, hb6⟩
        replace hb0 := on hb0 hb6
        clear hb6
        go_wp2_with fail
        refine (HA.out _ (HL.out.grown hb0)).mono ?_
        rintro e w7 ⟨rfl, hb7⟩
        replace hb0 := on hb0 hb7
        go_wp2
        go_ret
        exact ⟨rfl, hb0⟩
end Go.Proofs.YtoomggpjdnbggaaDoor.Addr
