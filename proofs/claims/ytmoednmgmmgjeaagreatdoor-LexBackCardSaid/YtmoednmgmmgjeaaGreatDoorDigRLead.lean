/- What the reference's Lead answers: for every text below 2^47 bytes. -/
import Derived.Test.YtmoednmgmmgjeaaGreatDoorDigRRead
namespace Go.Proofs.YtmoednmgmmgjeaaGreatDoor.Dig
open Go.RowKit Kit Dec

/-- a decimal with which a text begins, out of what its first bytes mean -/
def begunD (r : Int × Bool) (N : Nat) : Int × Nat × Bool := if r.2 = true then (r.1, N, true) else (0, 0, false)
theorem readD_whole {w : List UInt8} (hw : AllD w) (h0 : w ≠ []) (hl : w.length ≤ 30) : readD w = meantD false w [] := by
  have h := readD_plain (r := []) hw h0 (by rw [List.append_nil]; omega)
  rw [List.append_nil] at h
  rw [h, readB_all false hw (by omega)]
theorem readD_point {w p : List UInt8} (hw : AllD w) (h0 : w ≠ []) (hl : w.length ≤ 30) (hp : AllD p) (h1 : 1 ≤ p.length) (h4 : p.length ≤ 4) : readD (w ++ 46 :: p) = meantD false w p := by
  have hl2 : (w ++ 46 :: p).length ≤ 40 := by rw [List.length_append, List.length_cons]; omega
  rw [readD_plain hw h0 hl2, readB_point false hw hp hl2, if_pos ⟨h1, h4⟩]
theorem take_ne {L : List UInt8} {j : Nat} (h0 : 0 < j) (hj : j ≤ L.length) : L.take j ≠ [] := fun e => by
  have := congrArg List.length e
  rw [List.length_take, List.length_nil] at this
  omega
theorem lead_none {L : List UInt8} {j : Nat} (h : leadN 30 L = j) (hnp : j = 0 ∨ L[j]? ≠ some 46 ∨ digAt L (j + 1) = false) : leadD L = begunD (readD (L.take j)) j := by
  obtain ⟨h30, hlen⟩ := lead_le 30 L
  have hall := lead_all 30 L
  rw [h] at h30 hlen hall
  unfold leadD wholeL restL
  rw [h]
  rcases Nat.eq_zero_or_pos j with h0 | h0
  · subst h0
    rw [List.take_zero, meantD_nil, readD_nil]
    rfl
  · have hpn : partR (L.drop j) = [] := by
      rcases hnp with e | e | e
      · omega
      · exact partR_odd (by rw [List.head?_eq_getElem?, List.getElem?_drop, Nat.add_zero]; exact e)
      · unfold partR
        split
        · have hz : leadN 4 ((L.drop j).drop 1) = 0 := lead_is 0 4 _ (by omega) (fun i hi => absurd hi (by omega)) (.inr (by
            unfold digAt at e ⊢
            rw [List.drop_drop, List.getElem?_drop, Nat.add_zero]
            exact e))
          rw [hz, List.take_zero]
        · rfl
    rw [hpn, readD_whole hall (take_ne h0 hlen) (by rw [List.length_take]; omega)]
    have hs : sizeL (L.take j) [] = j := by unfold sizeL; rw [if_pos rfl, List.length_take]; omega
    rw [hs]
    rfl
theorem lead_point {L : List UInt8} {j c : Nat} (h : leadN 30 L = j) (h0 : 0 < j) (h46 : L[j]? = some 46) (hd : digAt L (j + 1) = true) (hc : leadN 4 (L.drop (j + 1)) = c) : leadD L = begunD (readD (L.take (j + (c + 1)))) (j + (c + 1)) := by
  obtain ⟨h30, hlen⟩ := lead_le 30 L
  have hall := lead_all 30 L
  rw [h] at h30 hlen hall
  have hjl : j < L.length := by
    rcases Nat.lt_or_ge j L.length with hh | hh
    · exact hh
    · rw [List.getElem?_eq_none hh] at h46; cases h46
  obtain ⟨hc4, hcl⟩ := lead_le 4 (L.drop (j + 1))
  have hca := lead_all 4 (L.drop (j + 1))
  rw [hc] at hc4 hcl hca
  rw [List.length_drop] at hcl
  have hc1 : 1 ≤ c := by
    rcases Nat.eq_zero_or_pos c with e | e
    · exfalso
      rw [← hc] at e
      have hl1 : j + 1 < L.length := by
        rcases Nat.lt_or_ge (j + 1) L.length with hh | hh
        · exact hh
        · rw [digAt_out hh] at hd; cases hd
      rw [List.drop_eq_getElem_cons hl1] at e
      simp only [leadN] at e
      rw [digAt_in (List.getElem?_eq_getElem hl1)] at hd
      rw [if_pos hd] at e
      omega
    · exact e
  have e46 : L[j] = 46 := by rw [List.getElem?_eq_getElem hjl] at h46; exact Option.some.inj h46
  have hdrop : L.drop j = 46 :: L.drop (j + 1) := by rw [List.drop_eq_getElem_cons hjl, e46]
  have htake : L.take (j + (c + 1)) = L.take j ++ 46 :: (L.drop (j + 1)).take c := by
    rw [List.take_add, hdrop, List.take_succ_cons]
  have hpl : ((L.drop (j + 1)).take c).length = c := by rw [List.length_take, List.length_drop]; omega
  unfold leadD wholeL restL
  rw [h, hdrop, partR_point, hc, htake, readD_point hall (take_ne h0 hlen) (by rw [List.length_take]; omega) hca (by omega) (by omega)]
  have hs : sizeL (L.take j) ((L.drop (j + 1)).take c) = j + (c + 1) := by
    unfold sizeL
    rw [if_neg (fun e => by rw [e] at hpl; simp at hpl; omega), hpl, List.length_take]
    omega
  rw [hs]
  rfl
theorem digAt_drop (L : List UInt8) (a i : Nat) : digAt (L.drop a) i = digAt L (a + i) := by unfold digAt; rw [List.getElem?_drop]
/-- a decimal, how many bytes it has, and whether there is one, as the reference tells it -/
def BegunIs (n : Int) (m : Nat) (k : Bool) (w : World) : Ending → World → Prop := fun e w' => e = .returned (.agg #[.int .i64 n, .int .i64 m, .bool k]) ∧ Below w.heap.size w w'
set_option maxRecDepth 100000 in
set_option maxHeartbeats 8000000 in
theorem rlead_c (t : ByteArray) (hl : t.size ≤ 281474976710656) (n : Int) (m : Nat) (k : Bool) (hn : leadD t.data.toList = (n, m, k)) (w : World) : Calls Tryz.prog 16 #[.string t] w (BegunIs n m k w) := by
  have HN := Lib.hid hn
  clear hn
  go_enter Tryz.func16, Tryz.ntmps16
  go_wp2
  go_loopw [3] (fun i wr => ∃ j : Nat, i = .int .i64 j ∧ j ≤ 30 ∧ wr = w.alloc (.cells #[.int .i64 0, .int .i64 0, .bool false] 44) ∧ Hid (∀ i, i < j → digAt t.data.toList i = true)) (fun i _ => 40 - (intOf i).toNat)
  case atStart => exact ⟨0, rfl, by omega, rfl, Lib.hid fun i hi => absurd hi (by omega)⟩
  case round =>
    obtain ⟨j, rfl, hj30, rfl, hjd⟩ := hrel
    by_cases hj : j < 30
    · cases hd : digAt t.data.toList j
      · have hk := lead_is j 30 _ hj30 hjd.out (.inr hd)
        have HD := Lib.hid (fun w1 => digit_c t j j rfl false hd w1)
        clear hd hjd
        have hkl := (lead_le 30 t.data.toList).2
        rw [hk, len] at hkl
        by_cases h0 : 0 < j
        · by_cases hjl : j < t.size
          · obtain ⟨y, hy⟩ : ∃ y : UInt8, t[j]'hjl = y := ⟨_, rfl⟩
            have hyl : t.data.toList[j]? = some y := by rw [← hy]; exact Lib.data_getElem? t j hjl
            have hy256 := y.toNat_lt
            by_cases h46 : y.toNat = 46
            · have e46 : ((y.toNat : Int) == 46) = true := by simp; omega
              have hy46 : y = 46 := UInt8.toNat_inj.1 h46
              cases hd1 : digAt t.data.toList (j + 1)
              · have HD1 := Lib.hid (fun w1 => digit_c t (j + 1) ((j : Int) + 1) (by omega) false hd1 w1)
                have hr := lead_none hk (.inr (.inr hd1))
                unfold begunD at hr
                clear hk hy46 hyl hd1 h46
                obtain ⟨⟨x, ok⟩, hx⟩ : ∃ r, readD (t.data.toList.take j) = r := ⟨_, rfl⟩
                rw [hx] at hr
                have HR := Lib.hid (fun w1 => rread_c (t.extract 0 j) x ok (by rw [ext_take]; exact hx) w1)
                have hNl : j ≤ t.size := hkl
                clear hx
                cases ok
                · obtain ⟨rfl, hr2⟩ := Prod.mk.inj (HN.out.symm.trans hr)
                  obtain ⟨rfl, rfl⟩ := Prod.mk.inj hr2
                  clear hr hr2 HN
                  go_wp2_with (go_at_call 15; first | ((with_reducible refine (HD.out _).mono ?_); rintro e w' ⟨rfl, rfl⟩) | ((with_reducible refine (HD1.out _).mono ?_); rintro e w' ⟨rfl, rfl⟩))
                  refine (HR.out _).mono ?_
                  rintro e w2 ⟨rfl, hb2⟩
                  obtain ⟨hc, hw⟩ := slot (w := w) (cs := [.int .i64 0, .int .i64 0, .bool false]) hb2
                  obtain ⟨p0, p1, p2, f0, f1, f2⟩ := hc.three
                  have hlt2 := hc.1
                  obtain ⟨z0, z1, z2⟩ := three_set (u := .int .i64 0) (v := .int .i64 0) (r := .bool false) p0 p1 p2
                  replace z0 := Lib.hid (kept_alloc (.cells #[.int .i64 x, .bool false] 60) z0)
                  replace z1 := Lib.hid (kept_alloc (.cells #[.int .i64 x, .bool false] 60) z1)
                  replace z2 := Lib.hid (kept_alloc (.cells #[.int .i64 x, .bool false] 60) z2)
                  replace hw := Lib.hid hw
                  clear hb2 hc HR
                  go_wp2_with fail
                  exact bodyPost_ret (v := .agg #[.int .i64 0, .int .i64 0, .bool false]) (by simp [results, Tryz.results16, go_sem, z0.out, z1.out, z2.out]) rfl ⟨rfl, on_alloc (set3 hw.out (Nat.le_refl _) _ _ _) _⟩
                · obtain ⟨rfl, hr2⟩ := Prod.mk.inj (HN.out.symm.trans hr)
                  obtain ⟨rfl, rfl⟩ := Prod.mk.inj hr2
                  clear hr hr2 HN
                  go_wp2_with (go_at_call 15; first | ((with_reducible refine (HD.out _).mono ?_); rintro e w' ⟨rfl, rfl⟩) | ((with_reducible refine (HD1.out _).mono ?_); rintro e w' ⟨rfl, rfl⟩))
                  refine (HR.out _).mono ?_
                  rintro e w2 ⟨rfl, hb2⟩
                  obtain ⟨hc, hw⟩ := slot (w := w) (cs := [.int .i64 0, .int .i64 0, .bool false]) hb2
                  obtain ⟨p0, p1, p2, f0, f1, f2⟩ := hc.three
                  have hlt2 := hc.1
                  obtain ⟨z0, z1, z2⟩ := three_set (u := .int .i64 n) (v := .int .i64 m) (r := .bool true) p0 p1 p2
                  replace z0 := Lib.hid (kept_alloc (.cells #[.int .i64 n, .bool true] 60) z0)
                  replace z1 := Lib.hid (kept_alloc (.cells #[.int .i64 n, .bool true] 60) z1)
                  replace z2 := Lib.hid (kept_alloc (.cells #[.int .i64 n, .bool true] 60) z2)
                  replace hw := Lib.hid hw
                  clear hb2 hc HR
                  go_wp2_with fail
                  exact bodyPost_ret (v := .agg #[.int .i64 n, .int .i64 m, .bool true]) (by simp [results, Tryz.results16, go_sem, z0.out, z1.out, z2.out]) rfl ⟨rfl, on_alloc (set3 hw.out (Nat.le_refl _) _ _ _) _⟩
              · have HD1 := Lib.hid (fun w1 => digit_c t (j + 1) ((j : Int) + 1) (by omega) true hd1 w1)
                have HK := Lib.hid hk
                have H46 : Hid (t.data.toList[j]? = some 46) := Lib.hid (by rw [hyl, hy46])
                have HD2 := Lib.hid hd1
                clear hk hy46 hyl hd1 h46
                go_wp2_with (go_at_call 15; first | ((with_reducible refine (HD.out _).mono ?_); rintro e w' ⟨rfl, rfl⟩) | ((with_reducible refine (HD1.out _).mono ?_); rintro e w' ⟨rfl, rfl⟩))
                clear HD1 HD
                go_loopw [4] (fun i wr => ∃ c : Nat, i = .int .i64 ((c + 1 : Nat) : Int) ∧ c ≤ 4 ∧ wr = w.alloc (.cells #[.int .i64 0, .int .i64 0, .bool false] 44) ∧ Hid (∀ i, i < c → digAt (t.data.toList.drop (j + 1)) i = true)) (fun i _ => 10 - (intOf i).toNat)
                case atStart => exact ⟨0, rfl, by omega, rfl, Lib.hid fun i hi => absurd hi (by omega)⟩
                case round =>
                  obtain ⟨c, rfl, hc4, rfl, hcd⟩ := hrel
                  have hca : ((c + 1 : Nat) : Int) = (c : Int) + 1 := by omega
                  cases hdc : digAt t.data.toList (j + (c + 1))
                  · have hlc := lead_is c 4 _ hc4 hcd.out (.inr (by rw [digAt_drop, show j + 1 + c = j + (c + 1) by omega]; exact hdc))
                    have hr := lead_point HK.out h0 H46.out HD2.out hlc
                    have hcl := (lead_le 4 (t.data.toList.drop (j + 1))).2
                    rw [hlc, List.length_drop, len] at hcl
                    unfold begunD at hr
                    obtain ⟨N, hNe⟩ : ∃ N, j + (c + 1) = N := ⟨_, rfl⟩
                    rw [hNe] at hr hdc
                    have hjc : (j : Int) + ((c : Int) + 1) = (N : Int) := by omega
                    have HD := Lib.hid (fun w1 => digit_c t N (N : Int) rfl false hdc w1)
                    have hNt : N ≤ t.size := by omega
                    clear hlc hdc hcl HK H46 HD2 hcd
                    by_cases hc3 : c < 4
                    · obtain ⟨⟨x, ok⟩, hx⟩ : ∃ r, readD (t.data.toList.take N) = r := ⟨_, rfl⟩
                      rw [hx] at hr
                      have HR := Lib.hid (fun w1 => rread_c (t.extract 0 N) x ok (by rw [ext_take]; exact hx) w1)
                      have hNl : N ≤ t.size := hNt
                      clear hx
                      cases ok
                      · obtain ⟨rfl, hr2⟩ := Prod.mk.inj (HN.out.symm.trans hr)
                        obtain ⟨rfl, rfl⟩ := Prod.mk.inj hr2
                        clear hr hr2 HN
                        go_wp2_with (go_at_call 15; first | ((with_reducible refine (HD.out _).mono ?_); rintro e w' ⟨rfl, rfl⟩))
                        refine (HR.out _).mono ?_
                        rintro e w2 ⟨rfl, hb2⟩
                        obtain ⟨hc, hw⟩ := slot (w := w) (cs := [.int .i64 0, .int .i64 0, .bool false]) hb2
                        obtain ⟨p0, p1, p2, f0, f1, f2⟩ := hc.three
                        have hlt2 := hc.1
                        obtain ⟨z0, z1, z2⟩ := three_set (u := .int .i64 0) (v := .int .i64 0) (r := .bool false) p0 p1 p2
                        replace z0 := Lib.hid (kept_alloc (.cells #[.int .i64 x, .bool false] 60) z0)
                        replace z1 := Lib.hid (kept_alloc (.cells #[.int .i64 x, .bool false] 60) z1)
                        replace z2 := Lib.hid (kept_alloc (.cells #[.int .i64 x, .bool false] 60) z2)
                        replace hw := Lib.hid hw
                        clear hb2 hc HR
                        go_wp2_with fail
                        exact bodyPost_ret (v := .agg #[.int .i64 0, .int .i64 0, .bool false]) (by simp [results, Tryz.results16, go_sem, z0.out, z1.out, z2.out]) rfl ⟨rfl, on_alloc (set3 hw.out (Nat.le_refl _) _ _ _) _⟩
                      · obtain ⟨rfl, hr2⟩ := Prod.mk.inj (HN.out.symm.trans hr)
                        obtain ⟨rfl, rfl⟩ := Prod.mk.inj hr2
                        clear hr hr2 HN
                        go_wp2_with (go_at_call 15; first | ((with_reducible refine (HD.out _).mono ?_); rintro e w' ⟨rfl, rfl⟩))
                        refine (HR.out _).mono ?_
                        rintro e w2 ⟨rfl, hb2⟩
                        obtain ⟨hc, hw⟩ := slot (w := w) (cs := [.int .i64 0, .int .i64 0, .bool false]) hb2
                        obtain ⟨p0, p1, p2, f0, f1, f2⟩ := hc.three
                        have hlt2 := hc.1
                        obtain ⟨z0, z1, z2⟩ := three_set (u := .int .i64 n) (v := .int .i64 m) (r := .bool true) p0 p1 p2
                        replace z0 := Lib.hid (kept_alloc (.cells #[.int .i64 n, .bool true] 60) z0)
                        replace z1 := Lib.hid (kept_alloc (.cells #[.int .i64 n, .bool true] 60) z1)
                        replace z2 := Lib.hid (kept_alloc (.cells #[.int .i64 n, .bool true] 60) z2)
                        replace hw := Lib.hid hw
                        clear hb2 hc HR
                        go_wp2_with fail
                        exact bodyPost_ret (v := .agg #[.int .i64 n, .int .i64 m, .bool true]) (by simp [results, Tryz.results16, go_sem, z0.out, z1.out, z2.out]) rfl ⟨rfl, on_alloc (set3 hw.out (Nat.le_refl _) _ _ _) _⟩
                    · obtain rfl : c = 4 := by omega
                      have hjc5 : (j : Int) + 5 = (N : Int) := by omega
                      obtain ⟨⟨x, ok⟩, hx⟩ : ∃ r, readD (t.data.toList.take N) = r := ⟨_, rfl⟩
                      rw [hx] at hr
                      have HR := Lib.hid (fun w1 => rread_c (t.extract 0 N) x ok (by rw [ext_take]; exact hx) w1)
                      have hNl : N ≤ t.size := hNt
                      clear hx
                      cases ok
                      · obtain ⟨rfl, hr2⟩ := Prod.mk.inj (HN.out.symm.trans hr)
                        obtain ⟨rfl, rfl⟩ := Prod.mk.inj hr2
                        clear hr hr2 HN
                        go_wp2_with fail
                        refine (HR.out _).mono ?_
                        rintro e w2 ⟨rfl, hb2⟩
                        obtain ⟨hc, hw⟩ := slot (w := w) (cs := [.int .i64 0, .int .i64 0, .bool false]) hb2
                        obtain ⟨p0, p1, p2, f0, f1, f2⟩ := hc.three
                        have hlt2 := hc.1
                        obtain ⟨z0, z1, z2⟩ := three_set (u := .int .i64 0) (v := .int .i64 0) (r := .bool false) p0 p1 p2
                        replace z0 := Lib.hid (kept_alloc (.cells #[.int .i64 x, .bool false] 60) z0)
                        replace z1 := Lib.hid (kept_alloc (.cells #[.int .i64 x, .bool false] 60) z1)
                        replace z2 := Lib.hid (kept_alloc (.cells #[.int .i64 x, .bool false] 60) z2)
                        replace hw := Lib.hid hw
                        clear hb2 hc HR
                        go_wp2_with fail
                        exact bodyPost_ret (v := .agg #[.int .i64 0, .int .i64 0, .bool false]) (by simp [results, Tryz.results16, go_sem, z0.out, z1.out, z2.out]) rfl ⟨rfl, on_alloc (set3 hw.out (Nat.le_refl _) _ _ _) _⟩
                      · obtain ⟨rfl, hr2⟩ := Prod.mk.inj (HN.out.symm.trans hr)
                        obtain ⟨rfl, rfl⟩ := Prod.mk.inj hr2
                        clear hr hr2 HN
                        go_wp2_with fail
                        refine (HR.out _).mono ?_
                        rintro e w2 ⟨rfl, hb2⟩
                        obtain ⟨hc, hw⟩ := slot (w := w) (cs := [.int .i64 0, .int .i64 0, .bool false]) hb2
                        obtain ⟨p0, p1, p2, f0, f1, f2⟩ := hc.three
                        have hlt2 := hc.1
                        obtain ⟨z0, z1, z2⟩ := three_set (u := .int .i64 n) (v := .int .i64 m) (r := .bool true) p0 p1 p2
                        replace z0 := Lib.hid (kept_alloc (.cells #[.int .i64 n, .bool true] 60) z0)
                        replace z1 := Lib.hid (kept_alloc (.cells #[.int .i64 n, .bool true] 60) z1)
                        replace z2 := Lib.hid (kept_alloc (.cells #[.int .i64 n, .bool true] 60) z2)
                        replace hw := Lib.hid hw
                        clear hb2 hc HR
                        go_wp2_with fail
                        exact bodyPost_ret (v := .agg #[.int .i64 n, .int .i64 m, .bool true]) (by simp [results, Tryz.results16, go_sem, z0.out, z1.out, z2.out]) rfl ⟨rfl, on_alloc (set3 hw.out (Nat.le_refl _) _ _ _) _⟩
                  · by_cases hc3 : c < 4
                    · have hcd2 : Hid (∀ i, i < c + 1 → digAt (t.data.toList.drop (j + 1)) i = true) := Lib.hid fun i hi => by
                        rcases Nat.lt_or_ge i c with h | h
                        · exact hcd.out i h
                        · obtain rfl : i = c := by omega
                          rw [digAt_drop, show j + 1 + i = j + (i + 1) by omega]; exact hdc
                      obtain ⟨N, hNe⟩ : ∃ N, j + (c + 1) = N := ⟨_, rfl⟩
                      rw [hNe] at hdc
                      have hjc : (j : Int) + ((c : Int) + 1) = (N : Int) := by omega
                      have HD := Lib.hid (fun w1 => digit_c t N (N : Int) rfl true hdc w1)
                      clear hcd hdc
                      go_wp2_with (go_at_call 15; first | ((with_reducible refine (HD.out _).mono ?_); rintro e w' ⟨rfl, rfl⟩))
                      go_roundw
                      case rel => exact ⟨c + 1, by go_num, by omega, by first | rfl | trivial, hcd2⟩
                      case measure => simp [intOf]; omega
                    · have hlc := lead_is c 4 _ hc4 hcd.out (.inl (by omega))
                      have hr := lead_point HK.out h0 H46.out HD2.out hlc
                      have hcl := (lead_le 4 (t.data.toList.drop (j + 1))).2
                      rw [hlc, List.length_drop, len] at hcl
                      unfold begunD at hr
                      obtain ⟨N, hNe⟩ : ∃ N, j + (c + 1) = N := ⟨_, rfl⟩
                      rw [hNe] at hr hdc
                      have hjc : (j : Int) + ((c : Int) + 1) = (N : Int) := by omega
                      have hNt : N ≤ t.size := by omega
                      clear hlc hdc hcl HK H46 HD2 hcd
                      obtain rfl : c = 4 := by omega
                      have hjc5 : (j : Int) + 5 = (N : Int) := by omega
                      obtain ⟨⟨x, ok⟩, hx⟩ : ∃ r, readD (t.data.toList.take N) = r := ⟨_, rfl⟩
                      rw [hx] at hr
                      have HR := Lib.hid (fun w1 => rread_c (t.extract 0 N) x ok (by rw [ext_take]; exact hx) w1)
                      have hNl : N ≤ t.size := hNt
                      clear hx
                      cases ok
                      · obtain ⟨rfl, hr2⟩ := Prod.mk.inj (HN.out.symm.trans hr)
                        obtain ⟨rfl, rfl⟩ := Prod.mk.inj hr2
                        clear hr hr2 HN
                        go_wp2_with fail
                        refine (HR.out _).mono ?_
                        rintro e w2 ⟨rfl, hb2⟩
                        obtain ⟨hc, hw⟩ := slot (w := w) (cs := [.int .i64 0, .int .i64 0, .bool false]) hb2
                        obtain ⟨p0, p1, p2, f0, f1, f2⟩ := hc.three
                        have hlt2 := hc.1
                        obtain ⟨z0, z1, z2⟩ := three_set (u := .int .i64 0) (v := .int .i64 0) (r := .bool false) p0 p1 p2
                        replace z0 := Lib.hid (kept_alloc (.cells #[.int .i64 x, .bool false] 60) z0)
                        replace z1 := Lib.hid (kept_alloc (.cells #[.int .i64 x, .bool false] 60) z1)
                        replace z2 := Lib.hid (kept_alloc (.cells #[.int .i64 x, .bool false] 60) z2)
                        replace hw := Lib.hid hw
                        clear hb2 hc HR
                        go_wp2_with fail
                        exact bodyPost_ret (v := .agg #[.int .i64 0, .int .i64 0, .bool false]) (by simp [results, Tryz.results16, go_sem, z0.out, z1.out, z2.out]) rfl ⟨rfl, on_alloc (set3 hw.out (Nat.le_refl _) _ _ _) _⟩
                      · obtain ⟨rfl, hr2⟩ := Prod.mk.inj (HN.out.symm.trans hr)
                        obtain ⟨rfl, rfl⟩ := Prod.mk.inj hr2
                        clear hr hr2 HN
                        go_wp2_with fail
                        refine (HR.out _).mono ?_
                        rintro e w2 ⟨rfl, hb2⟩
                        obtain ⟨hc, hw⟩ := slot (w := w) (cs := [.int .i64 0, .int .i64 0, .bool false]) hb2
                        obtain ⟨p0, p1, p2, f0, f1, f2⟩ := hc.three
                        have hlt2 := hc.1
                        obtain ⟨z0, z1, z2⟩ := three_set (u := .int .i64 n) (v := .int .i64 m) (r := .bool true) p0 p1 p2
                        replace z0 := Lib.hid (kept_alloc (.cells #[.int .i64 n, .bool true] 60) z0)
                        replace z1 := Lib.hid (kept_alloc (.cells #[.int .i64 n, .bool true] 60) z1)
                        replace z2 := Lib.hid (kept_alloc (.cells #[.int .i64 n, .bool true] 60) z2)
                        replace hw := Lib.hid hw
                        clear hb2 hc HR
                        go_wp2_with fail
                        exact bodyPost_ret (v := .agg #[.int .i64 n, .int .i64 m, .bool true]) (by simp [results, Tryz.results16, go_sem, z0.out, z1.out, z2.out]) rfl ⟨rfl, on_alloc (set3 hw.out (Nat.le_refl _) _ _ _) _⟩
            · have e46 : ((y.toNat : Int) == 46) = false := by simp; omega
              have hr := lead_none hk (.inr (.inl (by rw [hyl]; exact fun e => h46 (by rw [Option.some.inj e]; rfl))))
              unfold begunD at hr
              clear hk hyl h46
              obtain ⟨⟨x, ok⟩, hx⟩ : ∃ r, readD (t.data.toList.take j) = r := ⟨_, rfl⟩
              rw [hx] at hr
              have HR := Lib.hid (fun w1 => rread_c (t.extract 0 j) x ok (by rw [ext_take]; exact hx) w1)
              have hNl : j ≤ t.size := hkl
              clear hx
              cases ok
              · obtain ⟨rfl, hr2⟩ := Prod.mk.inj (HN.out.symm.trans hr)
                obtain ⟨rfl, rfl⟩ := Prod.mk.inj hr2
                clear hr hr2 HN
                go_wp2_with (go_at_call 15; first | ((with_reducible refine (HD.out _).mono ?_); rintro e w' ⟨rfl, rfl⟩))
                refine (HR.out _).mono ?_
                rintro e w2 ⟨rfl, hb2⟩
                obtain ⟨hc, hw⟩ := slot (w := w) (cs := [.int .i64 0, .int .i64 0, .bool false]) hb2
                obtain ⟨p0, p1, p2, f0, f1, f2⟩ := hc.three
                have hlt2 := hc.1
                obtain ⟨z0, z1, z2⟩ := three_set (u := .int .i64 0) (v := .int .i64 0) (r := .bool false) p0 p1 p2
                replace z0 := Lib.hid (kept_alloc (.cells #[.int .i64 x, .bool false] 60) z0)
                replace z1 := Lib.hid (kept_alloc (.cells #[.int .i64 x, .bool false] 60) z1)
                replace z2 := Lib.hid (kept_alloc (.cells #[.int .i64 x, .bool false] 60) z2)
                replace hw := Lib.hid hw
                clear hb2 hc HR
                go_wp2_with fail
                exact bodyPost_ret (v := .agg #[.int .i64 0, .int .i64 0, .bool false]) (by simp [results, Tryz.results16, go_sem, z0.out, z1.out, z2.out]) rfl ⟨rfl, on_alloc (set3 hw.out (Nat.le_refl _) _ _ _) _⟩
              · obtain ⟨rfl, hr2⟩ := Prod.mk.inj (HN.out.symm.trans hr)
                obtain ⟨rfl, rfl⟩ := Prod.mk.inj hr2
                clear hr hr2 HN
                go_wp2_with (go_at_call 15; first | ((with_reducible refine (HD.out _).mono ?_); rintro e w' ⟨rfl, rfl⟩))
                refine (HR.out _).mono ?_
                rintro e w2 ⟨rfl, hb2⟩
                obtain ⟨hc, hw⟩ := slot (w := w) (cs := [.int .i64 0, .int .i64 0, .bool false]) hb2
                obtain ⟨p0, p1, p2, f0, f1, f2⟩ := hc.three
                have hlt2 := hc.1
                obtain ⟨z0, z1, z2⟩ := three_set (u := .int .i64 n) (v := .int .i64 m) (r := .bool true) p0 p1 p2
                replace z0 := Lib.hid (kept_alloc (.cells #[.int .i64 n, .bool true] 60) z0)
                replace z1 := Lib.hid (kept_alloc (.cells #[.int .i64 n, .bool true] 60) z1)
                replace z2 := Lib.hid (kept_alloc (.cells #[.int .i64 n, .bool true] 60) z2)
                replace hw := Lib.hid hw
                clear hb2 hc HR
                go_wp2_with fail
                exact bodyPost_ret (v := .agg #[.int .i64 n, .int .i64 m, .bool true]) (by simp [results, Tryz.results16, go_sem, z0.out, z1.out, z2.out]) rfl ⟨rfl, on_alloc (set3 hw.out (Nat.le_refl _) _ _ _) _⟩
          · have hr := lead_none hk (.inr (.inl (by rw [List.getElem?_eq_none (by rw [len]; omega)]; simp)))
            unfold begunD at hr
            clear hk
            obtain ⟨⟨x, ok⟩, hx⟩ : ∃ r, readD (t.data.toList.take j) = r := ⟨_, rfl⟩
            rw [hx] at hr
            have HR := Lib.hid (fun w1 => rread_c (t.extract 0 j) x ok (by rw [ext_take]; exact hx) w1)
            have hNl : j ≤ t.size := hkl
            clear hx
            cases ok
            · obtain ⟨rfl, hr2⟩ := Prod.mk.inj (HN.out.symm.trans hr)
              obtain ⟨rfl, rfl⟩ := Prod.mk.inj hr2
              clear hr hr2 HN
              go_wp2_with (go_at_call 15; first | ((with_reducible refine (HD.out _).mono ?_); rintro e w' ⟨rfl, rfl⟩))
              refine (HR.out _).mono ?_
              rintro e w2 ⟨rfl, hb2⟩
              obtain ⟨hc, hw⟩ := slot (w := w) (cs := [.int .i64 0, .int .i64 0, .bool false]) hb2
              obtain ⟨p0, p1, p2, f0, f1, f2⟩ := hc.three
              have hlt2 := hc.1
              obtain ⟨z0, z1, z2⟩ := three_set (u := .int .i64 0) (v := .int .i64 0) (r := .bool false) p0 p1 p2
              replace z0 := Lib.hid (kept_alloc (.cells #[.int .i64 x, .bool false] 60) z0)
              replace z1 := Lib.hid (kept_alloc (.cells #[.int .i64 x, .bool false] 60) z1)
              replace z2 := Lib.hid (kept_alloc (.cells #[.int .i64 x, .bool false] 60) z2)
              replace hw := Lib.hid hw
              clear hb2 hc HR
              go_wp2_with fail
              exact bodyPost_ret (v := .agg #[.int .i64 0, .int .i64 0, .bool false]) (by simp [results, Tryz.results16, go_sem, z0.out, z1.out, z2.out]) rfl ⟨rfl, on_alloc (set3 hw.out (Nat.le_refl _) _ _ _) _⟩
            · obtain ⟨rfl, hr2⟩ := Prod.mk.inj (HN.out.symm.trans hr)
              obtain ⟨rfl, rfl⟩ := Prod.mk.inj hr2
              clear hr hr2 HN
              go_wp2_with (go_at_call 15; first | ((with_reducible refine (HD.out _).mono ?_); rintro e w' ⟨rfl, rfl⟩))
              refine (HR.out _).mono ?_
              rintro e w2 ⟨rfl, hb2⟩
              obtain ⟨hc, hw⟩ := slot (w := w) (cs := [.int .i64 0, .int .i64 0, .bool false]) hb2
              obtain ⟨p0, p1, p2, f0, f1, f2⟩ := hc.three
              have hlt2 := hc.1
              obtain ⟨z0, z1, z2⟩ := three_set (u := .int .i64 n) (v := .int .i64 m) (r := .bool true) p0 p1 p2
              replace z0 := Lib.hid (kept_alloc (.cells #[.int .i64 n, .bool true] 60) z0)
              replace z1 := Lib.hid (kept_alloc (.cells #[.int .i64 n, .bool true] 60) z1)
              replace z2 := Lib.hid (kept_alloc (.cells #[.int .i64 n, .bool true] 60) z2)
              replace hw := Lib.hid hw
              clear hb2 hc HR
              go_wp2_with fail
              exact bodyPost_ret (v := .agg #[.int .i64 n, .int .i64 m, .bool true]) (by simp [results, Tryz.results16, go_sem, z0.out, z1.out, z2.out]) rfl ⟨rfl, on_alloc (set3 hw.out (Nat.le_refl _) _ _ _) _⟩
        · have hr := lead_none hk (.inl (by omega))
          unfold begunD at hr
          clear hk
          obtain ⟨⟨x, ok⟩, hx⟩ : ∃ r, readD (t.data.toList.take j) = r := ⟨_, rfl⟩
          rw [hx] at hr
          have HR := Lib.hid (fun w1 => rread_c (t.extract 0 j) x ok (by rw [ext_take]; exact hx) w1)
          have hNl : j ≤ t.size := hkl
          clear hx
          cases ok
          · obtain ⟨rfl, hr2⟩ := Prod.mk.inj (HN.out.symm.trans hr)
            obtain ⟨rfl, rfl⟩ := Prod.mk.inj hr2
            clear hr hr2 HN
            go_wp2_with (go_at_call 15; first | ((with_reducible refine (HD.out _).mono ?_); rintro e w' ⟨rfl, rfl⟩))
            refine (HR.out _).mono ?_
            rintro e w2 ⟨rfl, hb2⟩
            obtain ⟨hc, hw⟩ := slot (w := w) (cs := [.int .i64 0, .int .i64 0, .bool false]) hb2
            obtain ⟨p0, p1, p2, f0, f1, f2⟩ := hc.three
            have hlt2 := hc.1
            obtain ⟨z0, z1, z2⟩ := three_set (u := .int .i64 0) (v := .int .i64 0) (r := .bool false) p0 p1 p2
            replace z0 := Lib.hid (kept_alloc (.cells #[.int .i64 x, .bool false] 60) z0)
            replace z1 := Lib.hid (kept_alloc (.cells #[.int .i64 x, .bool false] 60) z1)
            replace z2 := Lib.hid (kept_alloc (.cells #[.int .i64 x, .bool false] 60) z2)
            replace hw := Lib.hid hw
            clear hb2 hc HR
            go_wp2_with fail
            exact bodyPost_ret (v := .agg #[.int .i64 0, .int .i64 0, .bool false]) (by simp [results, Tryz.results16, go_sem, z0.out, z1.out, z2.out]) rfl ⟨rfl, on_alloc (set3 hw.out (Nat.le_refl _) _ _ _) _⟩
          · obtain ⟨rfl, hr2⟩ := Prod.mk.inj (HN.out.symm.trans hr)
            obtain ⟨rfl, rfl⟩ := Prod.mk.inj hr2
            clear hr hr2 HN
            go_wp2_with (go_at_call 15; first | ((with_reducible refine (HD.out _).mono ?_); rintro e w' ⟨rfl, rfl⟩))
            refine (HR.out _).mono ?_
            rintro e w2 ⟨rfl, hb2⟩
            obtain ⟨hc, hw⟩ := slot (w := w) (cs := [.int .i64 0, .int .i64 0, .bool false]) hb2
            obtain ⟨p0, p1, p2, f0, f1, f2⟩ := hc.three
            have hlt2 := hc.1
            obtain ⟨z0, z1, z2⟩ := three_set (u := .int .i64 n) (v := .int .i64 m) (r := .bool true) p0 p1 p2
            replace z0 := Lib.hid (kept_alloc (.cells #[.int .i64 n, .bool true] 60) z0)
            replace z1 := Lib.hid (kept_alloc (.cells #[.int .i64 n, .bool true] 60) z1)
            replace z2 := Lib.hid (kept_alloc (.cells #[.int .i64 n, .bool true] 60) z2)
            replace hw := Lib.hid hw
            clear hb2 hc HR
            go_wp2_with fail
            exact bodyPost_ret (v := .agg #[.int .i64 n, .int .i64 m, .bool true]) (by simp [results, Tryz.results16, go_sem, z0.out, z1.out, z2.out]) rfl ⟨rfl, on_alloc (set3 hw.out (Nat.le_refl _) _ _ _) _⟩
      · have HD := Lib.hid (fun w1 => digit_c t j j rfl true hd w1)
        have hjd2 : Hid (∀ i, i < j + 1 → digAt t.data.toList i = true) := Lib.hid fun i hi => by
          rcases Nat.lt_or_ge i j with h | h
          · exact hjd.out i h
          · obtain rfl : i = j := by omega
            exact hd
        clear hd hjd
        go_wp2_with (go_at_call 15; first | ((with_reducible refine (HD.out _).mono ?_); rintro e w' ⟨rfl, rfl⟩))
        go_roundw
        case rel => exact ⟨j + 1, by go_num, by omega, by first | rfl | trivial, hjd2⟩
        case measure => simp [intOf]; omega
    · have hk := lead_is j 30 _ hj30 hjd.out (.inl (by omega))
      clear hjd
      have hkl := (lead_le 30 t.data.toList).2
      rw [hk, len] at hkl
      by_cases h0 : 0 < j
      · by_cases hjl : j < t.size
        · obtain ⟨y, hy⟩ : ∃ y : UInt8, t[j]'hjl = y := ⟨_, rfl⟩
          have hyl : t.data.toList[j]? = some y := by rw [← hy]; exact Lib.data_getElem? t j hjl
          have hy256 := y.toNat_lt
          by_cases h46 : y.toNat = 46
          · have e46 : ((y.toNat : Int) == 46) = true := by simp; omega
            have hy46 : y = 46 := UInt8.toNat_inj.1 h46
            cases hd1 : digAt t.data.toList (j + 1)
            · have HD1 := Lib.hid (fun w1 => digit_c t (j + 1) ((j : Int) + 1) (by omega) false hd1 w1)
              have hr := lead_none hk (.inr (.inr hd1))
              unfold begunD at hr
              clear hk hy46 hyl hd1 h46
              obtain ⟨⟨x, ok⟩, hx⟩ : ∃ r, readD (t.data.toList.take j) = r := ⟨_, rfl⟩
              rw [hx] at hr
              have HR := Lib.hid (fun w1 => rread_c (t.extract 0 j) x ok (by rw [ext_take]; exact hx) w1)
              have hNl : j ≤ t.size := hkl
              clear hx
              cases ok
              · obtain ⟨rfl, hr2⟩ := Prod.mk.inj (HN.out.symm.trans hr)
                obtain ⟨rfl, rfl⟩ := Prod.mk.inj hr2
                clear hr hr2 HN
                go_wp2_with (go_at_call 15; first | ((with_reducible refine (HD1.out _).mono ?_); rintro e w' ⟨rfl, rfl⟩))
                refine (HR.out _).mono ?_
                rintro e w2 ⟨rfl, hb2⟩
                obtain ⟨hc, hw⟩ := slot (w := w) (cs := [.int .i64 0, .int .i64 0, .bool false]) hb2
                obtain ⟨p0, p1, p2, f0, f1, f2⟩ := hc.three
                have hlt2 := hc.1
                obtain ⟨z0, z1, z2⟩ := three_set (u := .int .i64 0) (v := .int .i64 0) (r := .bool false) p0 p1 p2
                replace z0 := Lib.hid (kept_alloc (.cells #[.int .i64 x, .bool false] 60) z0)
                replace z1 := Lib.hid (kept_alloc (.cells #[.int .i64 x, .bool false] 60) z1)
                replace z2 := Lib.hid (kept_alloc (.cells #[.int .i64 x, .bool false] 60) z2)
                replace hw := Lib.hid hw
                clear hb2 hc HR
                go_wp2_with fail
                exact bodyPost_ret (v := .agg #[.int .i64 0, .int .i64 0, .bool false]) (by simp [results, Tryz.results16, go_sem, z0.out, z1.out, z2.out]) rfl ⟨rfl, on_alloc (set3 hw.out (Nat.le_refl _) _ _ _) _⟩
              · obtain ⟨rfl, hr2⟩ := Prod.mk.inj (HN.out.symm.trans hr)
                obtain ⟨rfl, rfl⟩ := Prod.mk.inj hr2
                clear hr hr2 HN
                go_wp2_with (go_at_call 15; first | ((with_reducible refine (HD1.out _).mono ?_); rintro e w' ⟨rfl, rfl⟩))
                refine (HR.out _).mono ?_
                rintro e w2 ⟨rfl, hb2⟩
                obtain ⟨hc, hw⟩ := slot (w := w) (cs := [.int .i64 0, .int .i64 0, .bool false]) hb2
                obtain ⟨p0, p1, p2, f0, f1, f2⟩ := hc.three
                have hlt2 := hc.1
                obtain ⟨z0, z1, z2⟩ := three_set (u := .int .i64 n) (v := .int .i64 m) (r := .bool true) p0 p1 p2
                replace z0 := Lib.hid (kept_alloc (.cells #[.int .i64 n, .bool true] 60) z0)
                replace z1 := Lib.hid (kept_alloc (.cells #[.int .i64 n, .bool true] 60) z1)
                replace z2 := Lib.hid (kept_alloc (.cells #[.int .i64 n, .bool true] 60) z2)
                replace hw := Lib.hid hw
                clear hb2 hc HR
                go_wp2_with fail
                exact bodyPost_ret (v := .agg #[.int .i64 n, .int .i64 m, .bool true]) (by simp [results, Tryz.results16, go_sem, z0.out, z1.out, z2.out]) rfl ⟨rfl, on_alloc (set3 hw.out (Nat.le_refl _) _ _ _) _⟩
            · have HD1 := Lib.hid (fun w1 => digit_c t (j + 1) ((j : Int) + 1) (by omega) true hd1 w1)
              have HK := Lib.hid hk
              have H46 : Hid (t.data.toList[j]? = some 46) := Lib.hid (by rw [hyl, hy46])
              have HD2 := Lib.hid hd1
              clear hk hy46 hyl hd1 h46
              go_wp2_with (go_at_call 15; first | ((with_reducible refine (HD1.out _).mono ?_); rintro e w' ⟨rfl, rfl⟩))
              clear HD1
              go_loopw [4] (fun i wr => ∃ c : Nat, i = .int .i64 ((c + 1 : Nat) : Int) ∧ c ≤ 4 ∧ wr = w.alloc (.cells #[.int .i64 0, .int .i64 0, .bool false] 44) ∧ Hid (∀ i, i < c → digAt (t.data.toList.drop (j + 1)) i = true)) (fun i _ => 10 - (intOf i).toNat)
              case atStart => exact ⟨0, rfl, by omega, rfl, Lib.hid fun i hi => absurd hi (by omega)⟩
              case round =>
                obtain ⟨c, rfl, hc4, rfl, hcd⟩ := hrel
                have hca : ((c + 1 : Nat) : Int) = (c : Int) + 1 := by omega
                cases hdc : digAt t.data.toList (j + (c + 1))
                · have hlc := lead_is c 4 _ hc4 hcd.out (.inr (by rw [digAt_drop, show j + 1 + c = j + (c + 1) by omega]; exact hdc))
                  have hr := lead_point HK.out h0 H46.out HD2.out hlc
                  have hcl := (lead_le 4 (t.data.toList.drop (j + 1))).2
                  rw [hlc, List.length_drop, len] at hcl
                  unfold begunD at hr
                  obtain ⟨N, hNe⟩ : ∃ N, j + (c + 1) = N := ⟨_, rfl⟩
                  rw [hNe] at hr hdc
                  have hjc : (j : Int) + ((c : Int) + 1) = (N : Int) := by omega
                  have HD := Lib.hid (fun w1 => digit_c t N (N : Int) rfl false hdc w1)
                  have hNt : N ≤ t.size := by omega
                  clear hlc hdc hcl HK H46 HD2 hcd
                  by_cases hc3 : c < 4
                  · obtain ⟨⟨x, ok⟩, hx⟩ : ∃ r, readD (t.data.toList.take N) = r := ⟨_, rfl⟩
                    rw [hx] at hr
                    have HR := Lib.hid (fun w1 => rread_c (t.extract 0 N) x ok (by rw [ext_take]; exact hx) w1)
                    have hNl : N ≤ t.size := hNt
                    clear hx
                    cases ok
                    · obtain ⟨rfl, hr2⟩ := Prod.mk.inj (HN.out.symm.trans hr)
                      obtain ⟨rfl, rfl⟩ := Prod.mk.inj hr2
                      clear hr hr2 HN
                      go_wp2_with (go_at_call 15; first | ((with_reducible refine (HD.out _).mono ?_); rintro e w' ⟨rfl, rfl⟩))
                      refine (HR.out _).mono ?_
                      rintro e w2 ⟨rfl, hb2⟩
                      obtain ⟨hc, hw⟩ := slot (w := w) (cs := [.int .i64 0, .int .i64 0, .bool false]) hb2
                      obtain ⟨p0, p1, p2, f0, f1, f2⟩ := hc.three
                      have hlt2 := hc.1
                      obtain ⟨z0, z1, z2⟩ := three_set (u := .int .i64 0) (v := .int .i64 0) (r := .bool false) p0 p1 p2
                      replace z0 := Lib.hid (kept_alloc (.cells #[.int .i64 x, .bool false] 60) z0)
                      replace z1 := Lib.hid (kept_alloc (.cells #[.int .i64 x, .bool false] 60) z1)
                      replace z2 := Lib.hid (kept_alloc (.cells #[.int .i64 x, .bool false] 60) z2)
                      replace hw := Lib.hid hw
                      clear hb2 hc HR
                      go_wp2_with fail
                      exact bodyPost_ret (v := .agg #[.int .i64 0, .int .i64 0, .bool false]) (by simp [results, Tryz.results16, go_sem, z0.out, z1.out, z2.out]) rfl ⟨rfl, on_alloc (set3 hw.out (Nat.le_refl _) _ _ _) _⟩
                    · obtain ⟨rfl, hr2⟩ := Prod.mk.inj (HN.out.symm.trans hr)
                      obtain ⟨rfl, rfl⟩ := Prod.mk.inj hr2
                      clear hr hr2 HN
                      go_wp2_with (go_at_call 15; first | ((with_reducible refine (HD.out _).mono ?_); rintro e w' ⟨rfl, rfl⟩))
                      refine (HR.out _).mono ?_
                      rintro e w2 ⟨rfl, hb2⟩
                      obtain ⟨hc, hw⟩ := slot (w := w) (cs := [.int .i64 0, .int .i64 0, .bool false]) hb2
                      obtain ⟨p0, p1, p2, f0, f1, f2⟩ := hc.three
                      have hlt2 := hc.1
                      obtain ⟨z0, z1, z2⟩ := three_set (u := .int .i64 n) (v := .int .i64 m) (r := .bool true) p0 p1 p2
                      replace z0 := Lib.hid (kept_alloc (.cells #[.int .i64 n, .bool true] 60) z0)
                      replace z1 := Lib.hid (kept_alloc (.cells #[.int .i64 n, .bool true] 60) z1)
                      replace z2 := Lib.hid (kept_alloc (.cells #[.int .i64 n, .bool true] 60) z2)
                      replace hw := Lib.hid hw
                      clear hb2 hc HR
                      go_wp2_with fail
                      exact bodyPost_ret (v := .agg #[.int .i64 n, .int .i64 m, .bool true]) (by simp [results, Tryz.results16, go_sem, z0.out, z1.out, z2.out]) rfl ⟨rfl, on_alloc (set3 hw.out (Nat.le_refl _) _ _ _) _⟩
                  · obtain rfl : c = 4 := by omega
                    have hjc5 : (j : Int) + 5 = (N : Int) := by omega
                    obtain ⟨⟨x, ok⟩, hx⟩ : ∃ r, readD (t.data.toList.take N) = r := ⟨_, rfl⟩
                    rw [hx] at hr
                    have HR := Lib.hid (fun w1 => rread_c (t.extract 0 N) x ok (by rw [ext_take]; exact hx) w1)
                    have hNl : N ≤ t.size := hNt
                    clear hx
                    cases ok
                    · obtain ⟨rfl, hr2⟩ := Prod.mk.inj (HN.out.symm.trans hr)
                      obtain ⟨rfl, rfl⟩ := Prod.mk.inj hr2
                      clear hr hr2 HN
                      go_wp2_with fail
                      refine (HR.out _).mono ?_
                      rintro e w2 ⟨rfl, hb2⟩
                      obtain ⟨hc, hw⟩ := slot (w := w) (cs := [.int .i64 0, .int .i64 0, .bool false]) hb2
                      obtain ⟨p0, p1, p2, f0, f1, f2⟩ := hc.three
                      have hlt2 := hc.1
                      obtain ⟨z0, z1, z2⟩ := three_set (u := .int .i64 0) (v := .int .i64 0) (r := .bool false) p0 p1 p2
                      replace z0 := Lib.hid (kept_alloc (.cells #[.int .i64 x, .bool false] 60) z0)
                      replace z1 := Lib.hid (kept_alloc (.cells #[.int .i64 x, .bool false] 60) z1)
                      replace z2 := Lib.hid (kept_alloc (.cells #[.int .i64 x, .bool false] 60) z2)
                      replace hw := Lib.hid hw
                      clear hb2 hc HR
                      go_wp2_with fail
                      exact bodyPost_ret (v := .agg #[.int .i64 0, .int .i64 0, .bool false]) (by simp [results, Tryz.results16, go_sem, z0.out, z1.out, z2.out]) rfl ⟨rfl, on_alloc (set3 hw.out (Nat.le_refl _) _ _ _) _⟩
                    · obtain ⟨rfl, hr2⟩ := Prod.mk.inj (HN.out.symm.trans hr)
                      obtain ⟨rfl, rfl⟩ := Prod.mk.inj hr2
                      clear hr hr2 HN
                      go_wp2_with fail
                      refine (HR.out _).mono ?_
                      rintro e w2 ⟨rfl, hb2⟩
                      obtain ⟨hc, hw⟩ := slot (w := w) (cs := [.int .i64 0, .int .i64 0, .bool false]) hb2
                      obtain ⟨p0, p1, p2, f0, f1, f2⟩ := hc.three
                      have hlt2 := hc.1
                      obtain ⟨z0, z1, z2⟩ := three_set (u := .int .i64 n) (v := .int .i64 m) (r := .bool true) p0 p1 p2
                      replace z0 := Lib.hid (kept_alloc (.cells #[.int .i64 n, .bool true] 60) z0)
                      replace z1 := Lib.hid (kept_alloc (.cells #[.int .i64 n, .bool true] 60) z1)
                      replace z2 := Lib.hid (kept_alloc (.cells #[.int .i64 n, .bool true] 60) z2)
                      replace hw := Lib.hid hw
                      clear hb2 hc HR
                      go_wp2_with fail
                      exact bodyPost_ret (v := .agg #[.int .i64 n, .int .i64 m, .bool true]) (by simp [results, Tryz.results16, go_sem, z0.out, z1.out, z2.out]) rfl ⟨rfl, on_alloc (set3 hw.out (Nat.le_refl _) _ _ _) _⟩
                · by_cases hc3 : c < 4
                  · have hcd2 : Hid (∀ i, i < c + 1 → digAt (t.data.toList.drop (j + 1)) i = true) := Lib.hid fun i hi => by
                      rcases Nat.lt_or_ge i c with h | h
                      · exact hcd.out i h
                      · obtain rfl : i = c := by omega
                        rw [digAt_drop, show j + 1 + i = j + (i + 1) by omega]; exact hdc
                    obtain ⟨N, hNe⟩ : ∃ N, j + (c + 1) = N := ⟨_, rfl⟩
                    rw [hNe] at hdc
                    have hjc : (j : Int) + ((c : Int) + 1) = (N : Int) := by omega
                    have HD := Lib.hid (fun w1 => digit_c t N (N : Int) rfl true hdc w1)
                    clear hcd hdc
                    go_wp2_with (go_at_call 15; first | ((with_reducible refine (HD.out _).mono ?_); rintro e w' ⟨rfl, rfl⟩))
                    go_roundw
                    case rel => exact ⟨c + 1, by go_num, by omega, by first | rfl | trivial, hcd2⟩
                    case measure => simp [intOf]; omega
                  · have hlc := lead_is c 4 _ hc4 hcd.out (.inl (by omega))
                    have hr := lead_point HK.out h0 H46.out HD2.out hlc
                    have hcl := (lead_le 4 (t.data.toList.drop (j + 1))).2
                    rw [hlc, List.length_drop, len] at hcl
                    unfold begunD at hr
                    obtain ⟨N, hNe⟩ : ∃ N, j + (c + 1) = N := ⟨_, rfl⟩
                    rw [hNe] at hr hdc
                    have hjc : (j : Int) + ((c : Int) + 1) = (N : Int) := by omega
                    have hNt : N ≤ t.size := by omega
                    clear hlc hdc hcl HK H46 HD2 hcd
                    obtain rfl : c = 4 := by omega
                    have hjc5 : (j : Int) + 5 = (N : Int) := by omega
                    obtain ⟨⟨x, ok⟩, hx⟩ : ∃ r, readD (t.data.toList.take N) = r := ⟨_, rfl⟩
                    rw [hx] at hr
                    have HR := Lib.hid (fun w1 => rread_c (t.extract 0 N) x ok (by rw [ext_take]; exact hx) w1)
                    have hNl : N ≤ t.size := hNt
                    clear hx
                    cases ok
                    · obtain ⟨rfl, hr2⟩ := Prod.mk.inj (HN.out.symm.trans hr)
                      obtain ⟨rfl, rfl⟩ := Prod.mk.inj hr2
                      clear hr hr2 HN
                      go_wp2_with fail
                      refine (HR.out _).mono ?_
                      rintro e w2 ⟨rfl, hb2⟩
                      obtain ⟨hc, hw⟩ := slot (w := w) (cs := [.int .i64 0, .int .i64 0, .bool false]) hb2
                      obtain ⟨p0, p1, p2, f0, f1, f2⟩ := hc.three
                      have hlt2 := hc.1
                      obtain ⟨z0, z1, z2⟩ := three_set (u := .int .i64 0) (v := .int .i64 0) (r := .bool false) p0 p1 p2
                      replace z0 := Lib.hid (kept_alloc (.cells #[.int .i64 x, .bool false] 60) z0)
                      replace z1 := Lib.hid (kept_alloc (.cells #[.int .i64 x, .bool false] 60) z1)
                      replace z2 := Lib.hid (kept_alloc (.cells #[.int .i64 x, .bool false] 60) z2)
                      replace hw := Lib.hid hw
                      clear hb2 hc HR
                      go_wp2_with fail
                      exact bodyPost_ret (v := .agg #[.int .i64 0, .int .i64 0, .bool false]) (by simp [results, Tryz.results16, go_sem, z0.out, z1.out, z2.out]) rfl ⟨rfl, on_alloc (set3 hw.out (Nat.le_refl _) _ _ _) _⟩
                    · obtain ⟨rfl, hr2⟩ := Prod.mk.inj (HN.out.symm.trans hr)
                      obtain ⟨rfl, rfl⟩ := Prod.mk.inj hr2
                      clear hr hr2 HN
                      go_wp2_with fail
                      refine (HR.out _).mono ?_
                      rintro e w2 ⟨rfl, hb2⟩
                      obtain ⟨hc, hw⟩ := slot (w := w) (cs := [.int .i64 0, .int .i64 0, .bool false]) hb2
                      obtain ⟨p0, p1, p2, f0, f1, f2⟩ := hc.three
                      have hlt2 := hc.1
                      obtain ⟨z0, z1, z2⟩ := three_set (u := .int .i64 n) (v := .int .i64 m) (r := .bool true) p0 p1 p2
                      replace z0 := Lib.hid (kept_alloc (.cells #[.int .i64 n, .bool true] 60) z0)
                      replace z1 := Lib.hid (kept_alloc (.cells #[.int .i64 n, .bool true] 60) z1)
                      replace z2 := Lib.hid (kept_alloc (.cells #[.int .i64 n, .bool true] 60) z2)
                      replace hw := Lib.hid hw
                      clear hb2 hc HR
                      go_wp2_with fail
                      exact bodyPost_ret (v := .agg #[.int .i64 n, .int .i64 m, .bool true]) (by simp [results, Tryz.results16, go_sem, z0.out, z1.out, z2.out]) rfl ⟨rfl, on_alloc (set3 hw.out (Nat.le_refl _) _ _ _) _⟩
          · have e46 : ((y.toNat : Int) == 46) = false := by simp; omega
            have hr := lead_none hk (.inr (.inl (by rw [hyl]; exact fun e => h46 (by rw [Option.some.inj e]; rfl))))
            unfold begunD at hr
            clear hk hyl h46
            obtain ⟨⟨x, ok⟩, hx⟩ : ∃ r, readD (t.data.toList.take j) = r := ⟨_, rfl⟩
            rw [hx] at hr
            have HR := Lib.hid (fun w1 => rread_c (t.extract 0 j) x ok (by rw [ext_take]; exact hx) w1)
            have hNl : j ≤ t.size := hkl
            clear hx
            cases ok
            · obtain ⟨rfl, hr2⟩ := Prod.mk.inj (HN.out.symm.trans hr)
              obtain ⟨rfl, rfl⟩ := Prod.mk.inj hr2
              clear hr hr2 HN
              go_wp2_with fail
              refine (HR.out _).mono ?_
              rintro e w2 ⟨rfl, hb2⟩
              obtain ⟨hc, hw⟩ := slot (w := w) (cs := [.int .i64 0, .int .i64 0, .bool false]) hb2
              obtain ⟨p0, p1, p2, f0, f1, f2⟩ := hc.three
              have hlt2 := hc.1
              obtain ⟨z0, z1, z2⟩ := three_set (u := .int .i64 0) (v := .int .i64 0) (r := .bool false) p0 p1 p2
              replace z0 := Lib.hid (kept_alloc (.cells #[.int .i64 x, .bool false] 60) z0)
              replace z1 := Lib.hid (kept_alloc (.cells #[.int .i64 x, .bool false] 60) z1)
              replace z2 := Lib.hid (kept_alloc (.cells #[.int .i64 x, .bool false] 60) z2)
              replace hw := Lib.hid hw
              clear hb2 hc HR
              go_wp2_with fail
              exact bodyPost_ret (v := .agg #[.int .i64 0, .int .i64 0, .bool false]) (by simp [results, Tryz.results16, go_sem, z0.out, z1.out, z2.out]) rfl ⟨rfl, on_alloc (set3 hw.out (Nat.le_refl _) _ _ _) _⟩
            · obtain ⟨rfl, hr2⟩ := Prod.mk.inj (HN.out.symm.trans hr)
              obtain ⟨rfl, rfl⟩ := Prod.mk.inj hr2
              clear hr hr2 HN
              go_wp2_with fail
              refine (HR.out _).mono ?_
              rintro e w2 ⟨rfl, hb2⟩
              obtain ⟨hc, hw⟩ := slot (w := w) (cs := [.int .i64 0, .int .i64 0, .bool false]) hb2
              obtain ⟨p0, p1, p2, f0, f1, f2⟩ := hc.three
              have hlt2 := hc.1
              obtain ⟨z0, z1, z2⟩ := three_set (u := .int .i64 n) (v := .int .i64 m) (r := .bool true) p0 p1 p2
              replace z0 := Lib.hid (kept_alloc (.cells #[.int .i64 n, .bool true] 60) z0)
              replace z1 := Lib.hid (kept_alloc (.cells #[.int .i64 n, .bool true] 60) z1)
              replace z2 := Lib.hid (kept_alloc (.cells #[.int .i64 n, .bool true] 60) z2)
              replace hw := Lib.hid hw
              clear hb2 hc HR
              go_wp2_with fail
              exact bodyPost_ret (v := .agg #[.int .i64 n, .int .i64 m, .bool true]) (by simp [results, Tryz.results16, go_sem, z0.out, z1.out, z2.out]) rfl ⟨rfl, on_alloc (set3 hw.out (Nat.le_refl _) _ _ _) _⟩
        · have hr := lead_none hk (.inr (.inl (by rw [List.getElem?_eq_none (by rw [len]; omega)]; simp)))
          unfold begunD at hr
          clear hk
          obtain ⟨⟨x, ok⟩, hx⟩ : ∃ r, readD (t.data.toList.take j) = r := ⟨_, rfl⟩
          rw [hx] at hr
          have HR := Lib.hid (fun w1 => rread_c (t.extract 0 j) x ok (by rw [ext_take]; exact hx) w1)
          have hNl : j ≤ t.size := hkl
          clear hx
          cases ok
          · obtain ⟨rfl, hr2⟩ := Prod.mk.inj (HN.out.symm.trans hr)
            obtain ⟨rfl, rfl⟩ := Prod.mk.inj hr2
            clear hr hr2 HN
            go_wp2_with fail
            refine (HR.out _).mono ?_
            rintro e w2 ⟨rfl, hb2⟩
            obtain ⟨hc, hw⟩ := slot (w := w) (cs := [.int .i64 0, .int .i64 0, .bool false]) hb2
            obtain ⟨p0, p1, p2, f0, f1, f2⟩ := hc.three
            have hlt2 := hc.1
            obtain ⟨z0, z1, z2⟩ := three_set (u := .int .i64 0) (v := .int .i64 0) (r := .bool false) p0 p1 p2
            replace z0 := Lib.hid (kept_alloc (.cells #[.int .i64 x, .bool false] 60) z0)
            replace z1 := Lib.hid (kept_alloc (.cells #[.int .i64 x, .bool false] 60) z1)
            replace z2 := Lib.hid (kept_alloc (.cells #[.int .i64 x, .bool false] 60) z2)
            replace hw := Lib.hid hw
            clear hb2 hc HR
            go_wp2_with fail
            exact bodyPost_ret (v := .agg #[.int .i64 0, .int .i64 0, .bool false]) (by simp [results, Tryz.results16, go_sem, z0.out, z1.out, z2.out]) rfl ⟨rfl, on_alloc (set3 hw.out (Nat.le_refl _) _ _ _) _⟩
          · obtain ⟨rfl, hr2⟩ := Prod.mk.inj (HN.out.symm.trans hr)
            obtain ⟨rfl, rfl⟩ := Prod.mk.inj hr2
            clear hr hr2 HN
            go_wp2_with fail
            refine (HR.out _).mono ?_
            rintro e w2 ⟨rfl, hb2⟩
            obtain ⟨hc, hw⟩ := slot (w := w) (cs := [.int .i64 0, .int .i64 0, .bool false]) hb2
            obtain ⟨p0, p1, p2, f0, f1, f2⟩ := hc.three
            have hlt2 := hc.1
            obtain ⟨z0, z1, z2⟩ := three_set (u := .int .i64 n) (v := .int .i64 m) (r := .bool true) p0 p1 p2
            replace z0 := Lib.hid (kept_alloc (.cells #[.int .i64 n, .bool true] 60) z0)
            replace z1 := Lib.hid (kept_alloc (.cells #[.int .i64 n, .bool true] 60) z1)
            replace z2 := Lib.hid (kept_alloc (.cells #[.int .i64 n, .bool true] 60) z2)
            replace hw := Lib.hid hw
            clear hb2 hc HR
            go_wp2_with fail
            exact bodyPost_ret (v := .agg #[.int .i64 n, .int .i64 m, .bool true]) (by simp [results, Tryz.results16, go_sem, z0.out, z1.out, z2.out]) rfl ⟨rfl, on_alloc (set3 hw.out (Nat.le_refl _) _ _ _) _⟩
      · exact absurd h0 (by omega)
end Go.Proofs.YtmoednmgmmgjeaaGreatDoor.Dig
