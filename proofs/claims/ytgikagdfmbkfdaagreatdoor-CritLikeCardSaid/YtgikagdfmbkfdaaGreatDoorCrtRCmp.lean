/- What the reference's Less, ahead and Compare answer: at two values of one kind, of texts of at most a thousand bytes. -/
import Derived.Test.YtgikagdfmbkfdaaGreatDoorCrtCmp
import Derived.Test.YtgikagdfmbkfdaaGreatDoorCrtLike
namespace Go.Proofs.YtgikagdfmbkfdaaGreatDoor.Crt
open Go.RowKit Kit Reg Dec Dig Val

theorem less_step {S T : List UInt8} {k : Nat} {x y : UInt8} (hx : S[k]? = some x) (hy : T[k]? = some y) (h : x = y) : lessL (S.drop k) (T.drop k) = lessL (S.drop (k + 1)) (T.drop (k + 1)) := by
  rw [drop_at hx, drop_at hy, h, less_cons_eq]
theorem less_here {S T : List UInt8} {k : Nat} {x y : UInt8} (hx : S[k]? = some x) (hy : T[k]? = some y) (h : ¬ x = y) : lessL (S.drop k) (T.drop k) = decide (x < y) := by
  rw [drop_at hx, drop_at hy, less_cons_ne h]
theorem less_end {S T : List UInt8} {k : Nat} (hk1 : k ≤ S.length) (hk2 : k ≤ T.length) (h : S.length ≤ k ∨ T.length ≤ k) : lessL (S.drop k) (T.drop k) = decide (S.length < T.length) := by
  rw [less_short (by rcases h with h | h; exact .inl (List.drop_of_length_le h); exact .inr (List.drop_of_length_le h)), List.length_drop, List.length_drop]
  rw [decide_eq_decide]
  omega
set_option maxRecDepth 100000 in
set_option maxHeartbeats 2000000 in
theorem rless_c (s t : ByteArray) (hs : s.size ≤ 1000) (ht : t.size ≤ 1000) (r : Bool) (hr : lessL s.data.toList t.data.toList = r) (w : World) :
    Calls Tryz.prog 67 #[.string s, .string t] w fun e w' => e = .returned (.bool r) ∧ Below w.heap.size w w' := by
  have HR := Lib.hid hr
  have HSA := Lib.hid (fun k x h => like_at s k x h)
  have HTA := Lib.hid (fun k x h => like_at t k x h)
  have HLS := Lib.hid (len s)
  have HLT := Lib.hid (len t)
  have H0 : Hid (lessL (s.data.toList.drop 0) (t.data.toList.drop 0) = r) := Lib.hid (by simpa using hr)
  clear hr
  go_enter Tryz.func67, Tryz.ntmps67
  go_wp2
  go_loopw [5] (fun i wr => ∃ k : Nat, k ≤ s.size ∧ k ≤ t.size ∧ i = .int .i64 k ∧ Hid (lessL (s.data.toList.drop k) (t.data.toList.drop k) = r) ∧ Below w.heap.size w wr) (fun i _ => s.size - (intOf i).toNat)
  case atStart => exact ⟨0, by omega, by omega, rfl, H0, Below.refl _ _⟩
  case round =>
    clear H0
    obtain ⟨k, hk1, hk2, rfl, hl, hb⟩ := hrel
    by_cases h1 : k < s.size
    · have d1 : decide (k < s.size) = true := decide_eq_true h1
      obtain ⟨x, hx⟩ : ∃ x, s.data.toList[k]? = some x := ⟨_, List.getElem?_eq_getElem (by rw [HLS.out]; exact h1)⟩
      obtain ⟨hxs, hxx⟩ := HSA.out k x hx
      by_cases h2 : k < t.size
      · have d2 : decide (k < t.size) = true := decide_eq_true h2
        obtain ⟨y, hy⟩ : ∃ y, t.data.toList[k]? = some y := ⟨_, List.getElem?_eq_getElem (by rw [HLT.out]; exact h2)⟩
        obtain ⟨hyt, hyy⟩ := HTA.out k y hy
        by_cases hxy : x = y
        · have HN : Hid (lessL (s.data.toList.drop (k + 1)) (t.data.toList.drop (k + 1)) = r) := Lib.hid ((less_step hx hy hxy).symm.trans hl.out)
          have q1 : (x.toNat == y.toNat) = true := by rw [hxy]; simp
          have q2 : ((x.toNat : Int) == (y.toNat : Int)) = true := by rw [hxy]; simp
          have q3 : ((x.toNat : Int) != (y.toNat : Int)) = false := by rw [hxy]; simp
          have q4 : (x.toNat != y.toNat) = false := by rw [hxy]; simp
          clear hxy hx hy hl HR HSA HTA HLS HLT
          go_wp2_with fail
          go_quiet (fail)
          go_wp2
          go_roundw
          case rel => exact ⟨k + 1, by omega, by omega, by go_num, HN, on hb (drew_below rfl)⟩
          case measure => simp [intOf]; omega
        · have hne : ¬ x.toNat = y.toNat := fun e => hxy (UInt8.toNat_inj.1 e)
          have q1 : (x.toNat == y.toNat) = false := by rw [beq_eq_false_iff_ne]; exact hne
          have q2 : ((x.toNat : Int) == (y.toNat : Int)) = false := by rw [beq_eq_false_iff_ne]; omega
          have q3 : ((x.toNat : Int) != (y.toNat : Int)) = true := by rw [bne_iff_ne]; omega
          have q4 : (x.toNat != y.toNat) = true := by rw [bne_iff_ne]; exact hne
          have HN := Lib.hid ((less_here hx hy hxy).symm.trans hl.out)
          have e1 : decide (x.toNat < y.toNat) = r := by rw [← HN.out, decide_eq_decide, UInt8.lt_iff_toNat_lt]
          have e2 : decide ((x.toNat : Int) < (y.toNat : Int)) = r := by rw [← e1, decide_eq_decide]; omega
          clear hxy hne hx hy hl HR HSA HTA HLS HLT HN
          cases r
          all_goals
            go_wp2_with fail
            go_quiet (fail)
            go_wp2_with fail
            go_quiet (fail)
            go_wp2
            go_ret
            exact ⟨by first | rfl | simp_all, on (on hb (drew_below rfl)) (drew_below rfl)⟩
      · have d2 : decide (k < t.size) = false := decide_eq_false h2
        have HN := Lib.hid ((less_end (by rw [HLS.out]; omega) (by rw [HLT.out]; omega) (.inr (by rw [HLT.out]; omega))).symm.trans hl.out)
        rw [HLS.out, HLT.out] at HN
        have e1 := HN.out
        clear hl HR HSA HTA HLS HLT HN hxx hx
        cases r
        all_goals
          go_wp2
          go_ret
          exact ⟨by first | rfl | simp_all, hb⟩
    · have d1 : decide (k < s.size) = false := decide_eq_false h1
      have HN := Lib.hid ((less_end (by rw [HLS.out]; omega) (by rw [HLT.out]; omega) (.inl (by rw [HLS.out]; omega))).symm.trans hl.out)
      rw [HLS.out, HLT.out] at HN
      have e1 := HN.out
      clear hl HR HSA HTA HLS HLT HN
      cases r
      all_goals
        go_wp2
        go_ret
        exact ⟨by first | rfl | simp_all, hb⟩
set_option maxRecDepth 100000 in
set_option maxHeartbeats 2000000 in
theorem rahead_c (k n m : Int) (s t : ByteArray) (hs : s.size ≤ 1000) (ht : t.size ≤ 1000) (k0 : (k == 0) = false) (r : Bool) (hr : (decide (n < m) || lessL s.data.toList t.data.toList) = r) (w : World) :
    Calls Tryz.prog 50 #[.agg #[.int .i64 k, .int .i64 n, .string s], .agg #[.int .i64 k, .int .i64 m, .string t]] w fun e w' => e = .returned (.bool r) ∧ Below w.heap.size w w' := by
  have hne : (k != k) = false := by simp
  have HX : Hid (∀ q, lessL s.data.toList t.data.toList = q → ∀ w, Calls Tryz.prog 67 #[.string s, .string t] w fun e w' => e = .returned (.bool q) ∧ Below w.heap.size w w') := Lib.hid (fun q hq w => rless_c s t hs ht q hq w)
  obtain ⟨q, hq⟩ : ∃ q, lessL s.data.toList t.data.toList = q := ⟨_, rfl⟩
  rw [hq] at hr
  have HL := Lib.hid (HX.out q hq)
  clear hq HX
  have hb0 := below2 w (.cells #[.int .i64 k, .int .i64 n, .string s] 23) (.cells #[.int .i64 k, .int .i64 m, .string t] 23)
  by_cases hnm : n < m
  · have d0 : decide (n < m) = true := decide_eq_true hnm
    rw [d0] at hr
    obtain rfl : r = true := by rw [← hr]; rfl
    clear hr
    go_enter Tryz.func50, Tryz.ntmps50
    go_wp2_with fail
    go_quiet (fail)
    go_wp2
    go_ret
    exact ⟨rfl, on hb0 (drew_below rfl)⟩
  · have d0 : decide (n < m) = false := decide_eq_false hnm
    rw [d0] at hr
    obtain rfl : r = q := by rw [← hr]; rfl
    clear hr
    go_enter Tryz.func50, Tryz.ntmps50
    go_wp2_with fail
    go_quiet (fail)
    go_wp2_with fail
    refine (HL.out _).mono ?_
    rintro e w1 ⟨rfl, hb1⟩
    go_wp2
    go_ret
    exact ⟨rfl, on (on hb0 (drew_below rfl)) hb1⟩
set_option maxRecDepth 100000 in
set_option maxHeartbeats 2000000 in
theorem rcompare_c (k n m : Int) (s t : ByteArray) (hs : s.size ≤ 1000) (ht : t.size ≤ 1000) (k0 : (k == 0) = false) (k4 : (k == 4) = false) (x y : Bool) (hx : (decide (n < m) || lessL s.data.toList t.data.toList) = x)
    (hy : (decide (m < n) || lessL t.data.toList s.data.toList) = y) (r : Int) (hr : (x = true ∧ r = -1) ∨ (x = false ∧ y = true ∧ r = 1) ∨ (x = false ∧ y = false ∧ r = 0)) (w : World) :
    Calls Tryz.prog 28 #[.agg #[.int .i64 k, .int .i64 n, .string s], .agg #[.int .i64 k, .int .i64 m, .string t]] w fun e w' => e = .returned (.int .i64 r) ∧ Below w.heap.size w w' := by
  have HX := Lib.hid (fun w1 => rahead_c k n m s t hs ht k0 x hx w1)
  have HY := Lib.hid (fun w1 => rahead_c k m n t s ht hs k0 y hy w1)
  obtain ⟨w0, hw0⟩ : ∃ w0, w0 = (w.alloc (.cells #[.int .i64 k, .int .i64 n, .string s] 23)).alloc (.cells #[.int .i64 k, .int .i64 m, .string t] 23) := ⟨_, rfl⟩
  have hb0 : Below w.heap.size w w0 := hw0 ▸ below2 _ _ _
  have ha : CellsAt w0 w.heap.size [.int .i64 k, .int .i64 n, .string s] := hw0 ▸ (CellsAt.new w [.int .i64 k, .int .i64 n, .string s] 23).on_alloc _
  have hz : CellsAt w0 (w.heap.size + 1) [.int .i64 k, .int .i64 m, .string t] := by
    have h := CellsAt.new (w.alloc (.cells #[.int .i64 k, .int .i64 n, .string s] 23)) [.int .i64 k, .int .i64 m, .string t] 23
    rw [show (w.alloc (.cells #[.int .i64 k, .int .i64 n, .string s] 23)).heap.size = w.heap.size + 1 by simp] at h
    exact hw0 ▸ h
  clear hx hy
  rcases hr with ⟨rfl, rfl⟩ | ⟨rfl, rfl, rfl⟩ | ⟨rfl, rfl, rfl⟩
  · clear ha hz
    go_enter Tryz.func28, Tryz.ntmps28
    go_wp2_with fail
    refine (HX.out _).mono ?_
    rintro e w1 ⟨rfl, hb1⟩
    rw [← hw0] at hb1
    go_wp2
    go_ret
    exact ⟨rfl, on hb0 hb1⟩
  all_goals
    go_enter Tryz.func28, Tryz.ntmps28
    go_wp2_with fail
    rw [← hw0]
    refine (HX.out _).mono ?_
    rintro e w1 ⟨rfl, hb1⟩
    obtain ⟨a0, a1, a2, _⟩ := (ha.on hb1).three
    obtain ⟨z0, z1, z2, _⟩ := (hz.on hb1).three
    replace hb0 := on hb0 hb1
    clear ha hz hw0 hb1
    go_wp2_with fail
    refine (HY.out _).mono ?_
    rintro e w2 ⟨rfl, hb2⟩
    clear a0 a1 a2 z0 z1 z2
    go_wp2
    go_ret
    exact ⟨rfl, on hb0 hb2⟩
theorem less_none : lessL (⟨#[]⟩ : ByteArray).data.toList (⟨#[]⟩ : ByteArray).data.toList = false := rfl
/-- at two numbers, or two truths -/
theorem rcompare_nums (k n m r : Int) (k0 : (k == 0) = false) (k4 : (k == 4) = false) (h : wayI n m = r) (w : World) :
    Calls Tryz.prog 28 #[.agg #[.int .i64 k, .int .i64 n, .string ⟨#[]⟩], .agg #[.int .i64 k, .int .i64 m, .string ⟨#[]⟩]] w fun e w' => e = .returned (.int .i64 r) ∧ Below w.heap.size w w' := by
  refine rcompare_c k n m _ _ (by decide) (by decide) k0 k4 (decide (n < m)) (decide (m < n)) (by rw [less_none, Bool.or_false]) (by rw [less_none, Bool.or_false]) r ?_ w
  rw [← h, wayI]
  by_cases h1 : n < m
  · exact .inl ⟨decide_eq_true h1, if_pos h1⟩
  · by_cases h2 : m < n
    · exact .inr (.inl ⟨decide_eq_false h1, decide_eq_true h2, by rw [if_neg h1, if_pos h2]⟩)
    · exact .inr (.inr ⟨decide_eq_false h1, decide_eq_false h2, by rw [if_neg h1, if_neg h2]⟩)
/-- at two texts -/
theorem rcompare_texts (s t : ByteArray) (hs : s.size ≤ 1000) (ht : t.size ≤ 1000) (r : Int) (h : Lib.compareBytes s.data.toList t.data.toList = r) (w : World) :
    Calls Tryz.prog 28 #[.agg #[.int .i64 2, .int .i64 0, .string s], .agg #[.int .i64 2, .int .i64 0, .string t]] w fun e w' => e = .returned (.int .i64 r) ∧ Below w.heap.size w w' := by
  refine rcompare_c 2 0 0 s t hs ht rfl rfl _ _ rfl rfl r ?_ w
  rw [← h, cmp_less]
  have e : decide ((0 : Int) < 0) = false := rfl
  rw [e, Bool.false_or, Bool.false_or]
  cases lessL s.data.toList t.data.toList
  · cases lessL t.data.toList s.data.toList
    · exact .inr (.inr ⟨rfl, rfl, rfl⟩)
    · exact .inr (.inl ⟨rfl, rfl, rfl⟩)
  · exact .inl ⟨rfl, rfl⟩
end Go.Proofs.YtgikagdfmbkfdaaGreatDoor.Crt
