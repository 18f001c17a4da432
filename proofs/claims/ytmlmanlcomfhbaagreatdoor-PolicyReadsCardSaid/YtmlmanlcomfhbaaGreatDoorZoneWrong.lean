/- The first zone that is wrong, and why: what the program's Wrong and the reference's answer. -/
import Derived.Test.YtmlmanlcomfhbaaGreatDoorGi
namespace Go.Proofs.YtmlmanlcomfhbaaGreatDoor.Zone
open Go.RowKit Kit Reg Go.Proofs.YtmlmanlcomfhbaaGreatDoor.Span Go.Proofs.YtmlmanlcomfhbaaGreatDoor.Lab
open Go.Proofs.YtmlmanlcomfhbaaGreatDoor.Cats (U U_or U_zero)

set_option maxRecDepth 100000 in
set_option maxHeartbeats 2000000 in
theorem wrong_c (A : Option Addr) (n cap : Nat) (zs : List Zn) (rows cols p e : Int) (hc : wrongF 0 zs rows cols = (p, e)) (w : World) (hz : ZonesR w A n zs) :
    Calls Tryz.prog 18 #[.slice A n cap, .int .i64 rows, .int .i64 cols] w fun e' w' => e' = .returned (.tuple #[.int .i64 p, .int .i64 e]) ∧ Below w.heap.size w w' := by
  obtain ⟨hlen, hmax, _, _⟩ := id hz
  have HZ := Lib.hid hz
  have HL := Lib.hid hlen
  have HC := Lib.hid hc
  clear hz hlen hc
  go_enter Tryz.func18, Tryz.ntmps18
  go_wp2
  go_loopw [13] (fun i wr => ∃ k : Nat, k ≤ n ∧ i = .int .i64 k ∧ Hid (wrongF k (zs.drop k) rows cols = (p, e)) ∧ Below w.heap.size w wr) (fun i _ => n - (intOf i).toNat)
  case atStart => exact ⟨0, Nat.zero_le _, rfl, HC, Below.refl _ _⟩
  case round =>
    obtain ⟨k, hk, rfl, HK, hb0⟩ := hrel
    by_cases hlt : k < n
    · obtain ⟨z, hzk⟩ : ∃ z, zs[k]? = some z := ⟨_, List.getElem?_eq_getElem (by rw [HL.out]; exact hlt)⟩
      obtain ⟨_, _, _, h4⟩ := HZ.out.on hb0
      obtain ⟨b, o, rfl, hblt, hcell⟩ := h4 (by omega)
      obtain ⟨c0, c1, c2, c3, c4, c5⟩ := zone_six (hcell k z hzk)
      have HZk := Lib.hid hzk
      clear h4 hcell hzk
      replace hb0 := on_alloc hb0 (.cells #[.int .i64 z.a, .int .i64 z.b, .int .i64 z.c, .int .i64 z.d, .int .i64 z.l, .int .u64 z.s] 72)
      by_cases hh : whyI k z rows cols = 0
      · have HN : Hid (wrongF (k + 1) (zs.drop (k + 1)) rows cols = (p, e)) := by rw [← wrongF_miss HZk.out hh]; exact HK
        have HW := Lib.hid (fun w1 => why_c k (by omega) z rows cols 0 hh w1)
        clear hh
        go_wp2_with fail
        refine (HW.out _).mono ?_
        rintro e' w1 ⟨rfl, hb1⟩
        replace hb0 := on hb0 hb1
        clear hb1 c0 c1 c2 c3 c4 c5
        go_wp2
        go_roundw
        case rel => exact ⟨k + 1, by omega, by go_num, HN, hb0⟩
        case measure => simp [intOf]; omega
      · have HN : ((k : Int), whyI k z rows cols) = (p, e) := by rw [← wrongF_hit HZk.out hh]; exact HK.out
        simp only [Prod.mk.injEq] at HN
        obtain ⟨rfl, he⟩ := HN
        rw [he] at hh
        have HW := Lib.hid (fun w1 => why_c k (by omega) z rows cols e he w1)
        have hne : (e == 0) = false := by simpa using hh
        clear hh he
        go_wp2_with fail
        refine (HW.out _).mono ?_
        rintro e' w1 ⟨rfl, hb1⟩
        replace hb0 := on hb0 hb1
        clear hb1 c0 c1 c2 c3 c4 c5
        go_wp2
        exact bodyPost_ret (v := .tuple #[.int .i64 k, .int .i64 e]) (by simp [results, Tryz.results18, go_sem]) rfl ⟨rfl, hb0⟩
    · obtain rfl : k = n := by omega
      have HE := HK.out
      rw [← HL.out, wrongF_end] at HE
      simp only [Prod.mk.injEq] at HE
      obtain ⟨rfl, rfl⟩ := HE
      go_wp2
      exact bodyPost_ret (v := .tuple #[.int .i64 0, .int .i64 0]) (by simp [results, Tryz.results18, go_sem]) rfl ⟨rfl, hb0⟩
set_option maxRecDepth 100000 in
set_option maxHeartbeats 8000000 in
theorem rwrong_c (A : Option Addr) (n cap : Nat) (zs : List Zn) (rows cols p e : Int) (hc : wrongF 0 zs rows cols = (p, e)) (w : World) (hz : ZonesR w A n zs) :
    Calls Tryz.prog 21 #[.slice A n cap, .int .i64 rows, .int .i64 cols] w fun e' w' => e' = .returned (.agg #[.int .i64 p, .int .i64 e]) ∧ Below w.heap.size w w' := by
  obtain ⟨hlen, hmax, _, _⟩ := id hz
  have HZ := Lib.hid hz
  have HL := Lib.hid hlen
  have HC := Lib.hid hc
  clear hz hlen hc
  have hb0 := below1 w (.cells #[.int .i64 0, .int .i64 0] 35)
  have hr := CellsAt.new w [.int .i64 0, .int .i64 0] 35
  go_enter Tryz.func21, Tryz.ntmps21
  go_wp2
  go_loopw [7] (fun i wr => ∃ k : Nat, k ≤ n ∧ i = .int .i64 k ∧ Hid (wrongF k (zs.drop k) rows cols = (p, e)) ∧ Below w.heap.size w wr ∧ CellsAt wr w.heap.size [.int .i64 0, .int .i64 0]) (fun i _ => n - (intOf i).toNat)
  case atStart => exact ⟨0, Nat.zero_le _, rfl, HC, hb0, hr⟩
  case round =>
    clear hb0 hr
    obtain ⟨k, hk, rfl, HK, hb0, hr⟩ := hrel
    by_cases hlt : k < n
    · obtain ⟨z, hzk⟩ : ∃ z, zs[k]? = some z := ⟨_, List.getElem?_eq_getElem (by rw [HL.out]; exact hlt)⟩
      obtain ⟨_, _, _, h4⟩ := HZ.out.on hb0
      obtain ⟨bb, o, rfl, hblt, hcell⟩ := h4 (by omega)
      have HK2 : Hid ((whyI k z rows cols = 0 → wrongF (k + 1) (zs.drop (k + 1)) rows cols = (p, e)) ∧ (whyI k z rows cols ≠ 0 → (k : Int) = p ∧ whyI k z rows cols = e)) := by
        refine Lib.hid ⟨fun hh => by rw [← wrongF_miss hzk hh]; exact HK.out, fun hh => ?_⟩
        have := HK.out
        rw [wrongF_hit hzk hh] at this
        simpa using this
      obtain ⟨a, b, c, d, l, s⟩ := z
      obtain ⟨c0, c1, c2, c3, c4, c5⟩ := zone_six (hcell k _ hzk)
      clear h4 hcell hzk HK
      have lr := hr.1
      have hr0 := hr
      have hb00 := hb0
      have hv := CellsAt.new wr [.int .i64 a, .int .i64 b, .int .i64 c, .int .i64 d, .int .i64 l, .int .u64 s] 72
      replace hb0 := on_alloc hb0 (.cells #[.int .i64 a, .int .i64 b, .int .i64 c, .int .i64 d, .int .i64 l, .int .u64 s] 72)
      replace hr := hr.on_alloc (.cells #[.int .i64 a, .int .i64 b, .int .i64 c, .int .i64 d, .int .i64 l, .int .u64 s] 72)
      by_cases hk31 : 31 < k
      · have hY : whyI k ⟨a, b, c, d, l, s⟩ rows cols = 10 := by unfold whyI; rw [if_pos hk31]
        obtain ⟨hp, he⟩ := HK2.out.2 (by rw [hY]; decide)
        rw [hY] at he
        subst hp he
        have hd : decide (31 < (k : Int)) = true := by simp; omega
        obtain ⟨r0, r1, f0, f1⟩ := hr0.two
        obtain ⟨e0, e1, _⟩ := ((hr0.put2 (.int .i64 k) (.int .i64 10)).on_alloc (.cells #[.int .i64 a, .int .i64 b, .int .i64 c, .int .i64 d, .int .i64 l, .int .u64 s] 72)).two
        clear hY hv
        go_wp2
        exact bodyPost_ret (v := .agg #[.int .i64 k, .int .i64 10]) (by simp [results, Tryz.results21, go_sem, e0, e1]) rfl ⟨rfl, on_alloc (set2 hb00 (Nat.le_refl _) _ _) _⟩
      · have hd : decide (31 < (k : Int)) = false := by simp; omega
        clear hr0 hb00
        have HWc := Lib.hid (why_cases k a b c d l s rows cols)
        cases hm : mayS a b c d with
        | false =>
          have HM := Lib.hid (fun w1 => rmay_c a b c d false hm w1)
          have hY : whyI k ⟨a, b, c, d, l, s⟩ rows cols = 1 := by
            rcases HWc.out with ⟨h, e⟩ | ⟨h, hm', e⟩ | ⟨h, hm', _⟩ | ⟨h, hm', _⟩ | ⟨h, hm', _⟩ | ⟨h, hm', _⟩ | ⟨h, hm', _⟩ | ⟨h, hm', _⟩ | ⟨h, hm', _⟩
            · omega
            · exact e
            all_goals (rw [hm] at hm'; cases hm')
          obtain ⟨hp, he⟩ := HK2.out.2 (by rw [hY]; decide)
          rw [hY] at he
          subst hp he
          clear hY hm HWc HK2
          go_wp2_with fail
          refine (HM.out _).mono ?_
          rintro e' w1 ⟨rfl, hb1⟩
          replace hb0 := on hb0 hb1
          replace hr := hr.on hb1
          clear c0 c1 c2 c3 c4 c5 hv hb1
          obtain ⟨r0, r1, f0, f1⟩ := hr.two
          obtain ⟨e0, e1, _⟩ := (hr.put2 (.int .i64 k) (.int .i64 1)).two
          go_wp2
          exact bodyPost_ret (v := .agg #[.int .i64 k, .int .i64 1]) (by simp [results, Tryz.results21, go_sem, e0, e1]) rfl ⟨rfl, set2 hb0 (by omega) _ _⟩
        | true =>
          have HM := Lib.hid (fun w1 => rmay_c a b c d true hm w1)
          replace HWc := HWc.out
          rw [hm] at HWc
          clear hm
          go_wp2_with fail
          refine (HM.out _).mono ?_
          rintro e' w1 ⟨rfl, hb1⟩
          replace hb0 := on hb0 hb1
          replace hr := hr.on hb1
          replace hv := hv.on hb1
          clear c0 c1 c2 c3 c4 c5 hb1
          have lv := hv.1
          obtain ⟨c0, c1, c2, c3, c4, c5⟩ := six hv
          obtain ⟨r0, r1, f0, f1⟩ := hr.two
          rcases HWc with ⟨h, _⟩ | ⟨_, hm', _⟩ | ⟨_, _, h1, hY⟩ | ⟨_, _, h1, h2, hY⟩ | ⟨_, _, h1, h2, h3, hY⟩ | ⟨_, _, h1, h2, h3, h4, hY⟩ | ⟨_, _, h1, h2, h3, h4, h5, hY⟩ | ⟨_, _, h1, h2, h3, h4, h5, h6, hY⟩ | ⟨_, _, h1, h2, h3, h4, h5, h6, hY⟩
          · omega
          · cases hm'
          · obtain ⟨hp, he⟩ := HK2.out.2 (by rw [hY]; decide)
            rw [hY] at he
            subst hp he
            have d1 : decide (c < a) = true := by simpa using h1
            obtain ⟨e0, e1, _⟩ := (hr.put2 (.int .i64 k) (.int .i64 1)).two
            clear hY HK2 h1 hv
            go_wp2
            exact bodyPost_ret (v := .agg #[.int .i64 k, .int .i64 1]) (by simp [results, Tryz.results21, go_sem, e0, e1]) rfl ⟨rfl, set2 hb0 (by omega) _ _⟩
          · obtain ⟨hp, he⟩ := HK2.out.2 (by rw [hY]; decide)
            rw [hY] at he
            subst hp he
            have d1 : decide (c < a) = false := by simpa using h1
            have d2 : decide (d < b) = true := by simpa using h2
            obtain ⟨e0, e1, _⟩ := (hr.put2 (.int .i64 k) (.int .i64 1)).two
            clear hY HK2 h1 h2 hv
            go_wp2
            exact bodyPost_ret (v := .agg #[.int .i64 k, .int .i64 1]) (by simp [results, Tryz.results21, go_sem, e0, e1]) rfl ⟨rfl, set2 hb0 (by omega) _ _⟩
          · obtain ⟨hp, he⟩ := HK2.out.2 (by rw [hY]; decide)
            rw [hY] at he
            subst hp he
            have d1 : decide (c < a) = false := by simpa using h1
            have d2 : decide (d < b) = false := by simpa using h2
            have d3 : decide (rows ≤ c) = true := by simpa using h3
            obtain ⟨e0, e1, _⟩ := (hr.put2 (.int .i64 k) (.int .i64 2)).two
            clear hY HK2 h1 h2 h3 hv
            go_wp2
            exact bodyPost_ret (v := .agg #[.int .i64 k, .int .i64 2]) (by simp [results, Tryz.results21, go_sem, e0, e1]) rfl ⟨rfl, set2 hb0 (by omega) _ _⟩
          · obtain ⟨hp, he⟩ := HK2.out.2 (by rw [hY]; decide)
            rw [hY] at he
            subst hp he
            have d1 : decide (c < a) = false := by simpa using h1
            have d2 : decide (d < b) = false := by simpa using h2
            have d3 : decide (rows ≤ c) = false := by simpa using h3
            have d4 : decide (cols ≤ d) = true := by simpa using h4
            obtain ⟨e0, e1, _⟩ := (hr.put2 (.int .i64 k) (.int .i64 2)).two
            clear hY HK2 h1 h2 h3 h4 hv
            go_wp2
            exact bodyPost_ret (v := .agg #[.int .i64 k, .int .i64 2]) (by simp [results, Tryz.results21, go_sem, e0, e1]) rfl ⟨rfl, set2 hb0 (by omega) _ _⟩
          · obtain ⟨hp, he⟩ := HK2.out.2 (by rw [hY]; decide)
            rw [hY] at he
            subst hp he
            have d1 : decide (c < a) = false := by simpa using h1
            have d2 : decide (d < b) = false := by simpa using h2
            have d3 : decide (rows ≤ c) = false := by simpa using h3
            have d4 : decide (cols ≤ d) = false := by simpa using h4
            have d5 : decide (l < 0) = true := by simpa using h5
            obtain ⟨e0, e1, _⟩ := (hr.put2 (.int .i64 k) (.int .i64 7)).two
            clear hY HK2 h1 h2 h3 h4 h5 hv
            go_wp2
            exact bodyPost_ret (v := .agg #[.int .i64 k, .int .i64 7]) (by simp [results, Tryz.results21, go_sem, e0, e1]) rfl ⟨rfl, set2 hb0 (by omega) _ _⟩
          · obtain ⟨hp, he⟩ := HK2.out.2 (by rw [hY]; decide)
            rw [hY] at he
            subst hp he
            have d1 : decide (c < a) = false := by simpa using h1
            have d2 : decide (d < b) = false := by simpa using h2
            have d3 : decide (rows ≤ c) = false := by simpa using h3
            have d4 : decide (cols ≤ d) = false := by simpa using h4
            have d5 : decide (l < 0) = false := by simpa using h5
            have d6 : decide (15 < l) = true := by simpa using h6
            obtain ⟨e0, e1, _⟩ := (hr.put2 (.int .i64 k) (.int .i64 7)).two
            clear hY HK2 h1 h2 h3 h4 h5 h6 hv
            go_wp2
            exact bodyPost_ret (v := .agg #[.int .i64 k, .int .i64 7]) (by simp [results, Tryz.results21, go_sem, e0, e1]) rfl ⟨rfl, set2 hb0 (by omega) _ _⟩
          · have HN := Lib.hid (HK2.out.1 hY)
            have d1 : decide (c < a) = false := by simpa using h1
            have d2 : decide (d < b) = false := by simpa using h2
            have d3 : decide (rows ≤ c) = false := by simpa using h3
            have d4 : decide (cols ≤ d) = false := by simpa using h4
            have d5 : decide (l < 0) = false := by simpa using h5
            have d6 : decide (15 < l) = false := by simpa using h6
            clear hY HK2 h1 h2 h3 h4 h5 h6 hv
            go_wp2
            go_roundw
            case rel => exact ⟨k + 1, by omega, by go_num, HN, hb0, hr⟩
            case measure => simp [intOf]; omega
    · obtain rfl : k = n := by omega
      have HE := HK.out
      rw [← HL.out, wrongF_end] at HE
      simp only [Prod.mk.injEq] at HE
      obtain ⟨rfl, rfl⟩ := HE
      obtain ⟨r0, r1, f0, f1⟩ := hr.two
      obtain ⟨e0, e1, _⟩ := (hr.put2 (.int .i64 0) (.int .i64 0)).two
      go_wp2
      exact bodyPost_ret (v := .agg #[.int .i64 0, .int .i64 0]) (by simp [results, Tryz.results21, go_sem, e0, e1]) rfl ⟨rfl, set2 hb0 (by omega) _ _⟩
end Go.Proofs.YtmlmanlcomfhbaaGreatDoor.Zone
