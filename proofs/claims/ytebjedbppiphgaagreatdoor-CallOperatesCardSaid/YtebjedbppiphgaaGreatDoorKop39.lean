/- What package value's Compare answers at two values of one kind: by their numbers, then by their texts.
   What the reference's Less, ahead and Compare answer: at two values of one kind, of texts of at most a thousand bytes. -/
import Derived.Test.YtebjedbppiphgaaGreatDoorKop01
import Derived.Test.YtebjedbppiphgaaGreatDoorKop11
import Derived.Test.YtebjedbppiphgaaGreatDoorKop04
import Derived.Test.YtebjedbppiphgaaGreatDoorKop33
namespace Go.Proofs.YtebjedbppiphgaaGreatDoor.Crt
open Go.RowKit Kit Reg Dec Dig Val
set_option maxRecDepth 100000 in
set_option maxHeartbeats 1000000 in
theorem beside_c (k n j : Int) (t : ByteArray) (hk : (k == 0) = false) (w : World) : Calls Tryz.prog 191 #[.agg #[.int .i64 k, .int .i64 n, .string t], .int .i64 j] w (ValIs k n t w) := by
  go_enter Tryz.func191, Tryz.ntmps191
  go_wp2
  exact bodyPost_ret (v := .agg #[.int .i64 k, .int .i64 n, .string t]) (by simp [results, Tryz.results191, go_sem]) rfl ⟨rfl, below2 _ _ _⟩
/-- how two numbers stand to one another -/
def wayI (x y : Int) : Int := if x < y then -1 else if y < x then 1 else 0
theorem way_zero {x y : Int} : wayI x y = 0 ↔ x = y := by unfold wayI; split <;> (try split) <;> omega
set_option maxRecDepth 100000 in
set_option maxHeartbeats 1000000 in
theorem cmp_int (x y r : Int) (h : wayI x y = r) (w : World) : Calls Tryz.prog 193 #[.int .i64 x, .int .i64 y] w fun e w' => e = .returned (.int .i64 r) ∧ w = w' := by
  have HN : Hid (∀ (x : Int) (w1 : World), Calls Tryz.prog 266 #[.int .i64 x] w1 fun e w' => e = .returned (.bool false) ∧ w1 = w') := Lib.hid (fun x w1 => by
    go_enter Tryz.func266, Tryz.ntmps266
    go_wp2
    go_ret
    exact ⟨by simp, rfl⟩)
  rcases Int.lt_trichotomy x y with h1 | h1 | h1
  · obtain rfl : r = -1 := by rw [← h, wayI, if_pos h1]
    have d1 : decide (x < y) = true := decide_eq_true h1
    clear h
    go_enter Tryz.func193, Tryz.ntmps193
    go_wp2_with (go_at_call 266; refine (HN.out _ _).mono ?_; rintro e w' ⟨rfl, rfl⟩)
    go_ret
    exact ⟨rfl, rfl⟩
  · obtain rfl : r = 0 := by rw [← h, wayI, if_neg (by omega), if_neg (by omega)]
    subst h1
    clear h
    go_enter Tryz.func193, Tryz.ntmps193
    go_wp2_with (go_at_call 266; refine (HN.out _ _).mono ?_; rintro e w' ⟨rfl, rfl⟩)
    go_ret
    exact ⟨rfl, rfl⟩
  · obtain rfl : r = 1 := by rw [← h, wayI, if_neg (by omega), if_pos h1]
    have d1 : decide (x < y) = false := decide_eq_false (by omega)
    have d2 : decide (y < x) = true := decide_eq_true h1
    clear h
    go_enter Tryz.func193, Tryz.ntmps193
    go_wp2_with (go_at_call 266; refine (HN.out _ _).mono ?_; rintro e w' ⟨rfl, rfl⟩)
    go_ret
    exact ⟨rfl, rfl⟩
set_option maxRecDepth 100000 in
set_option maxHeartbeats 1000000 in
theorem cmp_int64 (x y r : Int) (h : wayI x y = r) (w : World) : Calls Tryz.prog 194 #[.int .i64 x, .int .i64 y] w fun e w' => e = .returned (.int .i64 r) ∧ w = w' := by
  have HN : Hid (∀ (x : Int) (w1 : World), Calls Tryz.prog 267 #[.int .i64 x] w1 fun e w' => e = .returned (.bool false) ∧ w1 = w') := Lib.hid (fun x w1 => by
    go_enter Tryz.func267, Tryz.ntmps267
    go_wp2
    go_ret
    exact ⟨by simp, rfl⟩)
  rcases Int.lt_trichotomy x y with h1 | h1 | h1
  · obtain rfl : r = -1 := by rw [← h, wayI, if_pos h1]
    have d1 : decide (x < y) = true := decide_eq_true h1
    clear h
    go_enter Tryz.func194, Tryz.ntmps194
    go_wp2_with (go_at_call 267; refine (HN.out _ _).mono ?_; rintro e w' ⟨rfl, rfl⟩)
    go_ret
    exact ⟨rfl, rfl⟩
  · obtain rfl : r = 0 := by rw [← h, wayI, if_neg (by omega), if_neg (by omega)]
    subst h1
    clear h
    go_enter Tryz.func194, Tryz.ntmps194
    go_wp2_with (go_at_call 267; refine (HN.out _ _).mono ?_; rintro e w' ⟨rfl, rfl⟩)
    go_ret
    exact ⟨rfl, rfl⟩
  · obtain rfl : r = 1 := by rw [← h, wayI, if_neg (by omega), if_pos h1]
    have d1 : decide (x < y) = false := decide_eq_false (by omega)
    have d2 : decide (y < x) = true := decide_eq_true h1
    clear h
    go_enter Tryz.func194, Tryz.ntmps194
    go_wp2_with (go_at_call 267; refine (HN.out _ _).mono ?_; rintro e w' ⟨rfl, rfl⟩)
    go_ret
    exact ⟨rfl, rfl⟩
set_option maxRecDepth 100000 in
set_option maxHeartbeats 2000000 in
/-- the first of three that is not 0, where the first one is 0 -/
theorem or_c (g : Nat) (a z r : Int) (h : (¬ a = 0 ∧ r = a) ∨ (a = 0 ∧ r = z)) (w : World) (h0 : w.cell? ⟨g, 0, none⟩ = some (.int .i64 0)) (h1 : w.cell? ⟨g, 1, none⟩ = some (.int .i64 a)) (h2 : w.cell? ⟨g, 2, none⟩ = some (.int .i64 z)) :
    Calls Tryz.prog 192 #[.slice (some ⟨g, 0, none⟩) 3 3] w fun e w' => e = .returned (.int .i64 r) ∧ Below w.heap.size w w' := by
  have H0 := Lib.hid h0
  have H1 := Lib.hid h1
  have H2 := Lib.hid h2
  have HH := Lib.hid h
  clear h0 h1 h2 h
  go_enter Tryz.func192, Tryz.ntmps192
  go_wp2
  go_loopw [8] (fun i wr => ∃ k : Nat, k ≤ 3 ∧ i = .int .i64 k ∧ Hid (2 ≤ k → a = 0) ∧ Hid (k = 3 → z = 0) ∧ Below w.heap.size w wr) (fun i _ => 3 - (intOf i).toNat)
  case atStart => exact ⟨0, by omega, rfl, Lib.hid (by omega), Lib.hid (by omega), Below.refl _ _⟩
  case round =>
    obtain ⟨k, hk, rfl, ha, hz, hb⟩ := hrel
    obtain rfl | rfl | rfl | rfl : k = 0 ∨ k = 1 ∨ k = 2 ∨ k = 3 := by omega
    · have x0 := kept hb H0.out
      clear ha hz H0 H1 H2 HH
      go_wp2
      go_roundw
      case rel => exact ⟨1, by omega, rfl, Lib.hid (by omega), Lib.hid (by omega), hb⟩
      case measure => simp [intOf]
    · have x0 := kept hb H1.out
      by_cases h0 : a = 0
      · subst h0
        clear ha hz H0 H1 H2 HH
        go_wp2
        go_roundw
        case rel => exact ⟨2, by omega, rfl, Lib.hid (fun _ => by first | trivial | rfl), Lib.hid (by omega), hb⟩
        case measure => simp [intOf]
      · obtain rfl : r = a := by rcases HH.out with h | h; exact h.2; exact absurd h.1 h0
        have q : (r == 0) = false := by simp [h0]
        have q2 : (r != 0) = true := by simp [h0]
        clear ha hz H0 H1 H2 HH
        go_wp2
        go_ret
        exact ⟨rfl, hb⟩
    · have x0 := kept hb H2.out
      obtain rfl := ha.out (by omega)
      obtain rfl : r = z := by rcases HH.out with h | h; exact absurd rfl h.1; exact h.2
      by_cases h0 : r = 0
      · subst h0
        clear ha hz H0 H1 H2 HH
        go_wp2
        go_roundw
        case rel => exact ⟨3, by omega, rfl, Lib.hid (fun _ => by first | trivial | rfl), Lib.hid (fun _ => by first | trivial | rfl), hb⟩
        case measure => simp [intOf]
      · have q : (r == 0) = false := by simp [h0]
        have q2 : (r != 0) = true := by simp [h0]
        clear ha hz H0 H1 H2 HH
        go_wp2
        go_ret
        exact ⟨rfl, hb⟩
    · obtain rfl := ha.out (by omega)
      obtain rfl := hz.out rfl
      obtain rfl : r = 0 := by rcases HH.out with h | h; exact absurd rfl h.1; exact h.2
      clear ha hz H0 H1 H2 HH
      go_wp2
      go_ret
      exact ⟨rfl, hb⟩
end Go.Proofs.YtebjedbppiphgaaGreatDoor.Crt
namespace Go.Proofs.YtebjedbppiphgaaGreatDoor.Crt
open Go.RowKit Kit Reg Dec Dig Val
theorem less_step {S T : List UInt8} {k : Nat} {x y : UInt8} (hx : S[k]? = some x) (hy : T[k]? = some y) (h : x = y) : lessL (S.drop k) (T.drop k) = lessL (S.drop (k + 1)) (T.drop (k + 1)) := by
  rw [drop_at hx, drop_at hy, h, less_cons_eq]
theorem less_here {S T : List UInt8} {k : Nat} {x y : UInt8} (hx : S[k]? = some x) (hy : T[k]? = some y) (h : ¬ x = y) : lessL (S.drop k) (T.drop k) = decide (x < y) := by
  rw [drop_at hx, drop_at hy, less_cons_ne h]
theorem less_end {S T : List UInt8} {k : Nat} (hk1 : k ≤ S.length) (hk2 : k ≤ T.length) (h : S.length ≤ k ∨ T.length ≤ k) : lessL (S.drop k) (T.drop k) = decide (S.length < T.length) := by
  rw [less_short (by rcases h with h | h; exact .inl (List.drop_of_length_le h); exact .inr (List.drop_of_length_le h)), List.length_drop, List.length_drop]
  rw [decide_eq_decide]
  omega
set_option maxRecDepth 100000 in
set_option maxHeartbeats 2000000 in
theorem rless_c (s t : ByteArray) (hs : s.size ≤ 1000) (ht : t.size ≤ 1000) (r : Bool) (hr : lessL s.data.toList t.data.toList = r) (w : World) :
    Calls Tryz.prog 197 #[.string s, .string t] w fun e w' => e = .returned (.bool r) ∧ Below w.heap.size w w' := by
  have HR := Lib.hid hr
  have HSA := Lib.hid (fun k x h => like_at s k x h)
  have HTA := Lib.hid (fun k x h => like_at t k x h)
  have HLS := Lib.hid (len s)
  have HLT := Lib.hid (len t)
  have H0 : Hid (lessL (s.data.toList.drop 0) (t.data.toList.drop 0) = r) := Lib.hid (by simpa using hr)
  clear hr
  go_enter Tryz.func197, Tryz.ntmps197
  go_wp2
  go_loopw [5] (fun i wr => ∃ k : Nat, k ≤ s.size ∧ k ≤ t.size ∧ i = .int .i64 k ∧ Hid (lessL (s.data.toList.drop k) (t.data.toList.drop k) = r) ∧ Below w.heap.size w wr) (fun i _ => s.size - (intOf i).toNat)
  case atStart => exact ⟨0, by omega, by omega, rfl, H0, Below.refl _ _⟩
  case round =>
    clear H0
    obtain ⟨k, hk1, hk2, rfl, hl, hb⟩ := hrel
    by_cases h1 : k < s.size
    · have d1 : decide (k < s.size) = true := decide_eq_true h1
      obtain ⟨x, hx⟩ : ∃ x, s.data.toList[k]? = some x := ⟨_, List.getElem?_eq_getElem (by rw [HLS.out]; exact h1)⟩
      obtain ⟨hxs, hxx⟩ := HSA.out k x hx
      by_cases h2 : k < t.size
      · have d2 : decide (k < t.size) = true := decide_eq_true h2
        obtain ⟨y, hy⟩ : ∃ y, t.data.toList[k]? = some y := ⟨_, List.getElem?_eq_getElem (by rw [HLT.out]; exact h2)⟩
        obtain ⟨hyt, hyy⟩ := HTA.out k y hy
        by_cases hxy : x = y
        · have HN : Hid (lessL (s.data.toList.drop (k + 1)) (t.data.toList.drop (k + 1)) = r) := Lib.hid ((less_step hx hy hxy).symm.trans hl.out)
          have q1 : (x.toNat == y.toNat) = true := by rw [hxy]; simp
          have q2 : ((x.toNat : Int) == (y.toNat : Int)) = true := by rw [hxy]; simp
          have q3 : ((x.toNat : Int) != (y.toNat : Int)) = false := by rw [hxy]; simp
          have q4 : (x.toNat != y.toNat) = false := by rw [hxy]; simp
          clear hxy hx hy hl HR HSA HTA HLS HLT
          go_wp2_with fail
          go_quiet (fail)
          go_wp2
          go_roundw
          case rel => exact ⟨k + 1, by omega, by omega, by go_num, HN, on hb (drew_below rfl)⟩
          case measure => simp [intOf]; omega
        · have hne : ¬ x.toNat = y.toNat := fun e => hxy (UInt8.toNat_inj.1 e)
          have q1 : (x.toNat == y.toNat) = false := by rw [beq_eq_false_iff_ne]; exact hne
          have q2 : ((x.toNat : Int) == (y.toNat : Int)) = false := by rw [beq_eq_false_iff_ne]; omega
          have q3 : ((x.toNat : Int) != (y.toNat : Int)) = true := by rw [bne_iff_ne]; omega
          have q4 : (x.toNat != y.toNat) = true := by rw [bne_iff_ne]; exact hne
          have HN := Lib.hid ((less_here hx hy hxy).symm.trans hl.out)
          have e1 : decide (x.toNat < y.toNat) = r := by rw [← HN.out, decide_eq_decide, UInt8.lt_iff_toNat_lt]
          have e2 : decide ((x.toNat : Int) < (y.toNat : Int)) = r := by rw [← e1, decide_eq_decide]; omega
          clear hxy hne hx hy hl HR HSA HTA HLS HLT HN
          cases r
          all_goals
            go_wp2_with fail
            go_quiet (fail)
            go_wp2_with fail
            go_quiet (fail)
            go_wp2
            go_ret
            exact ⟨by first | rfl | simp_all, on (on hb (drew_below rfl)) (drew_below rfl)⟩
      · have d2 : decide (k < t.size) = false := decide_eq_false h2
        have HN := Lib.hid ((less_end (by rw [HLS.out]; omega) (by rw [HLT.out]; omega) (.inr (by rw [HLT.out]; omega))).symm.trans hl.out)
        rw [HLS.out, HLT.out] at HN
        have e1 := HN.out
        clear hl HR HSA HTA HLS HLT HN hxx hx
        cases r
        all_goals
          go_wp2
          go_ret
          exact ⟨by first | rfl | simp_all, hb⟩
    · have d1 : decide (k < s.size) = false := decide_eq_false h1
      have HN := Lib.hid ((less_end (by rw [HLS.out]; omega) (by rw [HLT.out]; omega) (.inl (by rw [HLS.out]; omega))).symm.trans hl.out)
      rw [HLS.out, HLT.out] at HN
      have e1 := HN.out
      clear hl HR HSA HTA HLS HLT HN
      cases r
      all_goals
        go_wp2
        go_ret
        exact ⟨by first | rfl | simp_all, hb⟩
end Go.Proofs.YtebjedbppiphgaaGreatDoor.Crt
