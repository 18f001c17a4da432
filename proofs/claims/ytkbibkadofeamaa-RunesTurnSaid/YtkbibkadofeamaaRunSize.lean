/- How many bytes the first rune has: what the reference's Size answers: for every text of at most a million bytes. -/
import Derived.Test.YtkbibkadofeamaaRunRev
namespace Go.Proofs.Ytkbibkadofeamaa.Run
open Go.RowKit Kit

/-- how many bytes a rune has that begins with a byte, and within which bounds its other bytes lie -/
def wantN (a : Nat) : Nat := if 194 ≤ a ∧ a ≤ 223 then 2 else if 224 ≤ a ∧ a ≤ 239 then 3 else if 240 ≤ a ∧ a ≤ 244 then 4 else 1
def loN (a k : Nat) : Nat := if k = 1 then (if a = 224 then 160 else if a = 240 then 144 else 128) else 128
def hiN (a k : Nat) : Nat := if k = 1 then (if a = 237 then 159 else if a = 244 then 143 else 191) else 191
def okN (l : List UInt8) (k : Nat) : Prop := loN (atN l 0) k ≤ atN l k ∧ atN l k ≤ hiN (atN l 0) k
theorem want_le (a : Nat) : 1 ≤ wantN a ∧ wantN a ≤ 4 := by
  unfold wantN
  constructor
  all_goals repeat' split
  all_goals omega
theorem lo_rest {a k : Nat} (h : k ≠ 1) : loN a k = 128 ∧ hiN a k = 191 := ⟨if_neg h, if_neg h⟩
theorem ok_one {l : List UInt8} (h : okN l 1) : 128 ≤ atN l 1 ∧ atN l 1 ≤ 191 ∧ (atN l 0 = 224 → 160 ≤ atN l 1) ∧ (atN l 0 = 237 → atN l 1 ≤ 159) ∧ (atN l 0 = 240 → 144 ≤ atN l 1) ∧ (atN l 0 = 244 → atN l 1 ≤ 143) := by
  unfold okN loN hiN at h
  rw [if_pos rfl, if_pos rfl] at h
  generalize atN l 0 = a at *
  generalize atN l 1 = b at *
  obtain ⟨h1, h2⟩ := h
  refine ⟨?_, ?_, ?_, ?_, ?_, ?_⟩
  · repeat' split at h1
    all_goals omega
  · repeat' split at h2
    all_goals omega
  · rintro rfl
    rw [if_pos rfl] at h1
    exact h1
  · rintro rfl
    rw [if_pos rfl] at h2
    exact h2
  · rintro rfl
    rw [if_neg (by decide), if_pos rfl] at h1
    exact h1
  · rintro rfl
    rw [if_neg (by decide), if_pos rfl] at h2
    exact h2
theorem one_ok {l : List UInt8} (h1 : 128 ≤ atN l 1) (h2 : atN l 1 ≤ 191) (h3 : atN l 0 = 224 → 160 ≤ atN l 1) (h4 : atN l 0 = 237 → atN l 1 ≤ 159) (h5 : atN l 0 = 240 → 144 ≤ atN l 1) (h6 : atN l 0 = 244 → atN l 1 ≤ 143) : okN l 1 := by
  unfold okN loN hiN
  rw [if_pos rfl, if_pos rfl]
  generalize atN l 0 = a at *
  generalize atN l 1 = b at *
  constructor
  · repeat' split
    all_goals omega
  · repeat' split
    all_goals omega
theorem ok_more {l : List UInt8} {k : Nat} (h : k ≠ 1) : okN l k ↔ 128 ≤ atN l k ∧ atN l k ≤ 191 := by
  unfold okN
  rw [(lo_rest h).1, (lo_rest h).2]
theorem sz_want {l : List UInt8} (hl : l ≠ []) (hw : wantN (atN l 0) ≤ l.length) (h : ∀ j, 1 ≤ j → j < wantN (atN l 0) → okN l j) : szL l = wantN (atN l 0) := by
  have h0 : 0 < l.length := List.length_pos_iff.2 hl
  by_cases c1 : 194 ≤ atN l 0 ∧ atN l 0 ≤ 223
  · have e : wantN (atN l 0) = 2 := by rw [wantN, if_pos c1]
    rw [e] at h hw ⊢
    have h1 := ok_one (h 1 (by omega) (by omega))
    rw [szL, szN, if_pos (by omega)]
  · by_cases c2 : 224 ≤ atN l 0 ∧ atN l 0 ≤ 239
    · have e : wantN (atN l 0) = 3 := by rw [wantN, if_neg c1, if_pos c2]
      rw [e] at h hw ⊢
      have h1 := ok_one (h 1 (by omega) (by omega))
      have h2 := (ok_more (by omega)).1 (h 2 (by omega) (by omega))
      rw [szL, szN, if_neg (by omega), if_pos (by omega)]
    · by_cases c3 : 240 ≤ atN l 0 ∧ atN l 0 ≤ 244
      · have e : wantN (atN l 0) = 4 := by rw [wantN, if_neg c1, if_neg c2, if_pos c3]
        rw [e] at h hw ⊢
        have h1 := ok_one (h 1 (by omega) (by omega))
        have h2 := (ok_more (by omega)).1 (h 2 (by omega) (by omega))
        have h3 := (ok_more (by omega)).1 (h 3 (by omega) (by omega))
        rw [szL, szN, if_neg (by omega), if_neg (by omega), if_pos (by omega)]
      · rw [wantN, if_neg c1, if_neg c2, if_neg c3, szL, szN, if_neg (by omega), if_neg (by omega), if_neg (by omega), if_neg (by omega)]
theorem sz_bad {l : List UInt8} (hl : l ≠ []) (h : l.length < wantN (atN l 0) ∨ ∃ j, 1 ≤ j ∧ j < wantN (atN l 0) ∧ ¬ okN l j) : szL l = 1 := by
  have h0 : 0 < l.length := List.length_pos_iff.2 hl
  by_cases c1 : 194 ≤ atN l 0 ∧ atN l 0 ≤ 223 ∧ 2 ≤ l.length ∧ 128 ≤ atN l 1 ∧ atN l 1 ≤ 191
  · have e : wantN (atN l 0) = 2 := by rw [wantN, if_pos (by omega)]
    rw [e] at h
    rcases h with h | ⟨j, h1, h2, h3⟩
    · omega
    · obtain rfl : j = 1 := by omega
      exact absurd (one_ok (by omega) (by omega) (by omega) (by omega) (by omega) (by omega)) h3
  · by_cases c2 : 224 ≤ atN l 0 ∧ atN l 0 ≤ 239 ∧ 3 ≤ l.length ∧ 128 ≤ atN l 1 ∧ atN l 1 ≤ 191 ∧ (atN l 0 = 224 → 160 ≤ atN l 1) ∧ (atN l 0 = 237 → atN l 1 ≤ 159) ∧ 128 ≤ atN l 2 ∧ atN l 2 ≤ 191
    · have e : wantN (atN l 0) = 3 := by rw [wantN, if_neg (by omega), if_pos (by omega)]
      rw [e] at h
      rcases h with h | ⟨j, h1, h2, h3⟩
      · omega
      · rcases (show j = 1 ∨ j = 2 by omega) with rfl | rfl
        · exact absurd (one_ok (by omega) (by omega) (by omega) (by omega) (by omega) (by omega)) h3
        · exact absurd ((ok_more (by omega)).2 (by omega)) h3
    · by_cases c3 : 240 ≤ atN l 0 ∧ atN l 0 ≤ 244 ∧ 4 ≤ l.length ∧ 128 ≤ atN l 1 ∧ atN l 1 ≤ 191 ∧ (atN l 0 = 240 → 144 ≤ atN l 1) ∧ (atN l 0 = 244 → atN l 1 ≤ 143) ∧ 128 ≤ atN l 2 ∧ atN l 2 ≤ 191 ∧ 128 ≤ atN l 3 ∧ atN l 3 ≤ 191
      · have e : wantN (atN l 0) = 4 := by rw [wantN, if_neg (by omega), if_neg (by omega), if_pos (by omega)]
        rw [e] at h
        rcases h with h | ⟨j, h1, h2, h3⟩
        · omega
        · rcases (show j = 1 ∨ j = 2 ∨ j = 3 by omega) with rfl | rfl | rfl
          · exact absurd (one_ok (by omega) (by omega) (by omega) (by omega) (by omega) (by omega)) h3
          · exact absurd ((ok_more (by omega)).2 (by omega)) h3
          · exact absurd ((ok_more (by omega)).2 (by omega)) h3
      · rw [szL, szN, if_neg c1, if_neg c2, if_neg c3, if_neg (by omega)]
theorem at_byte (s : ByteArray) (k : Nat) (h : k < s.size) : atN s.data.toList k = (s[k]'h).toNat := atN_in (Lib.data_getElem? s k h)
theorem class_ways (a : Nat) (h : a < 256) :
    (0 ≤ a ∧ a ≤ 193 ∧ wantN a = 1 ∧ loN a 1 = 128 ∧ hiN a 1 = 191) ∨ (194 ≤ a ∧ a ≤ 223 ∧ wantN a = 2 ∧ loN a 1 = 128 ∧ hiN a 1 = 191) ∨
    (224 ≤ a ∧ a ≤ 224 ∧ wantN a = 3 ∧ loN a 1 = 160 ∧ hiN a 1 = 191) ∨ (225 ≤ a ∧ a ≤ 236 ∧ wantN a = 3 ∧ loN a 1 = 128 ∧ hiN a 1 = 191) ∨
    (237 ≤ a ∧ a ≤ 237 ∧ wantN a = 3 ∧ loN a 1 = 128 ∧ hiN a 1 = 159) ∨ (238 ≤ a ∧ a ≤ 239 ∧ wantN a = 3 ∧ loN a 1 = 128 ∧ hiN a 1 = 191) ∨
    (240 ≤ a ∧ a ≤ 240 ∧ wantN a = 4 ∧ loN a 1 = 144 ∧ hiN a 1 = 191) ∨ (241 ≤ a ∧ a ≤ 243 ∧ wantN a = 4 ∧ loN a 1 = 128 ∧ hiN a 1 = 191) ∨
    (244 ≤ a ∧ a ≤ 244 ∧ wantN a = 4 ∧ loN a 1 = 128 ∧ hiN a 1 = 143) ∨ (245 ≤ a ∧ a ≤ 255 ∧ wantN a = 1 ∧ loN a 1 = 128 ∧ hiN a 1 = 191) := by
  have hd : ∀ a : Fin 256, (0 ≤ a.val ∧ a.val ≤ 193 ∧ wantN a.val = 1 ∧ loN a.val 1 = 128 ∧ hiN a.val 1 = 191) ∨ (194 ≤ a.val ∧ a.val ≤ 223 ∧ wantN a.val = 2 ∧ loN a.val 1 = 128 ∧ hiN a.val 1 = 191) ∨ (224 ≤ a.val ∧ a.val ≤ 224 ∧ wantN a.val = 3 ∧ loN a.val 1 = 160 ∧ hiN a.val 1 = 191) ∨ (225 ≤ a.val ∧ a.val ≤ 236 ∧ wantN a.val = 3 ∧ loN a.val 1 = 128 ∧ hiN a.val 1 = 191) ∨ (237 ≤ a.val ∧ a.val ≤ 237 ∧ wantN a.val = 3 ∧ loN a.val 1 = 128 ∧ hiN a.val 1 = 159) ∨ (238 ≤ a.val ∧ a.val ≤ 239 ∧ wantN a.val = 3 ∧ loN a.val 1 = 128 ∧ hiN a.val 1 = 191) ∨ (240 ≤ a.val ∧ a.val ≤ 240 ∧ wantN a.val = 4 ∧ loN a.val 1 = 144 ∧ hiN a.val 1 = 191) ∨ (241 ≤ a.val ∧ a.val ≤ 243 ∧ wantN a.val = 4 ∧ loN a.val 1 = 128 ∧ hiN a.val 1 = 191) ∨ (244 ≤ a.val ∧ a.val ≤ 244 ∧ wantN a.val = 4 ∧ loN a.val 1 = 128 ∧ hiN a.val 1 = 143) ∨ (245 ≤ a.val ∧ a.val ≤ 255 ∧ wantN a.val = 1 ∧ loN a.val 1 = 128 ∧ hiN a.val 1 = 191) := by decide +kernel
  exact hd ⟨a, h⟩
set_option maxRecDepth 100000 in
set_option maxHeartbeats 4000000 in
theorem rsize_c (s : ByteArray) (l : List UInt8) (hs : s.data.toList = l) (h9 : s.size ≤ 1000000) (n : Nat) (hn : szL l = n) (w : World) :
    Calls Try.prog 23 #[.string s] w fun e w' => e = .returned (.int .i64 n) ∧ w = w' := by
  have hl := len_of hs
  by_cases h0 : s.size = 0
  · obtain rfl : l = [] := List.eq_nil_of_length_eq_zero (by omega)
    obtain rfl : 0 = n := by rw [← hn]; exact sz_nil.symm
    have d0 : ((s.size : Int) == 0) = true := by simp [h0]
    have d1 : (s.size == 0) = true := by simp [h0]
    clear hs hn
    go_enter Try.func23, Try.ntmps23
    go_wp2
    go_ret
    exact ⟨rfl, rfl⟩
  · have hne : l ≠ [] := by intro e; rw [e] at hl; simp at hl; omega
    have hpos : 0 < s.size := by omega
    have d0 : ((s.size : Int) == 0) = false := beq_eq_false_iff_ne.2 (by omega)
    have d00 : (s.size == 0) = false := beq_eq_false_iff_ne.2 (by omega)
    obtain ⟨x, hx⟩ : ∃ x : UInt8, s[0]'hpos = x := ⟨_, rfl⟩
    have hx0 : atN l 0 = x.toNat := by rw [← hs, at_byte s 0 hpos, hx]
    have HA : Hid (∀ k (h : k < s.size), atN l k = (s[k]'h).toNat) := Lib.hid fun k h => by rw [← hs]; exact at_byte s k h
    have HB : Hid ((s.size < wantN x.toNat ∨ ∃ j, 1 ≤ j ∧ j < wantN x.toNat ∧ ¬ okN l j) → n = 1) := Lib.hid fun h => by
      rw [← hn]; exact sz_bad hne (by rw [hx0, hl]; exact h)
    have HW : Hid (wantN x.toNat ≤ s.size → (∀ j, 1 ≤ j → j < wantN x.toNat → okN l j) → n = wantN x.toNat) := Lib.hid fun h h2 => by
      rw [← hn, ← hx0]; exact sz_want hne (by rw [hx0, hl]; exact h) (by rw [hx0]; exact h2)
    have HO : Hid (∀ k, okN l k ↔ loN x.toNat k ≤ atN l k ∧ atN l k ≤ hiN x.toNat k) := Lib.hid fun k => by rw [okN, hx0]
    have hc := class_ways x.toNat x.toNat_lt
    clear hs hn hne hx0
    rcases hc with ⟨h1, h2, hw, hlo, hhi⟩ | ⟨h1, h2, hw, hlo, hhi⟩ | ⟨h1, h2, hw, hlo, hhi⟩ | ⟨h1, h2, hw, hlo, hhi⟩ | ⟨h1, h2, hw, hlo, hhi⟩ | ⟨h1, h2, hw, hlo, hhi⟩ | ⟨h1, h2, hw, hlo, hhi⟩ | ⟨h1, h2, hw, hlo, hhi⟩ | ⟨h1, h2, hw, hlo, hhi⟩ | ⟨h1, h2, hw, hlo, hhi⟩
    all_goals
      first | have t1 := decide_eq_true (show (194 : Int) ≤ x.toNat by omega) | have t1 := decide_eq_false (show ¬ (194 : Int) ≤ x.toNat by omega)
      first | have t2 := decide_eq_true (show (x.toNat : Int) ≤ 223 by omega) | have t2 := decide_eq_false (show ¬ (x.toNat : Int) ≤ 223 by omega)
      first | have t3 := decide_eq_true (show (224 : Int) ≤ x.toNat by omega) | have t3 := decide_eq_false (show ¬ (224 : Int) ≤ x.toNat by omega)
      first | have t4 := decide_eq_true (show (x.toNat : Int) ≤ 239 by omega) | have t4 := decide_eq_false (show ¬ (x.toNat : Int) ≤ 239 by omega)
      first | have t5 := decide_eq_true (show (240 : Int) ≤ x.toNat by omega) | have t5 := decide_eq_false (show ¬ (240 : Int) ≤ x.toNat by omega)
      first | have t6 := decide_eq_true (show (x.toNat : Int) ≤ 244 by omega) | have t6 := decide_eq_false (show ¬ (x.toNat : Int) ≤ 244 by omega)
      first | have t7 := beq_iff_eq.2 (show (x.toNat : Int) = 224 by omega) | have t7 := beq_eq_false_iff_ne.2 (show (x.toNat : Int) ≠ 224 by omega)
      first | have t8 := beq_iff_eq.2 (show (x.toNat : Int) = 237 by omega) | have t8 := beq_eq_false_iff_ne.2 (show (x.toNat : Int) ≠ 237 by omega)
      first | have t9 := beq_iff_eq.2 (show (x.toNat : Int) = 240 by omega) | have t9 := beq_eq_false_iff_ne.2 (show (x.toNat : Int) ≠ 240 by omega)
      first | have t10 := beq_iff_eq.2 (show (x.toNat : Int) = 244 by omega) | have t10 := beq_eq_false_iff_ne.2 (show (x.toNat : Int) ≠ 244 by omega)
      clear h1 h2
      have HWN := Lib.hid hw
      have HLO := Lib.hid hlo
      have HHI := Lib.hid hhi
      clear hw hlo hhi
      by_cases hlen : s.size < wantN x.toNat
      · obtain rfl : n = 1 := HB.out (.inl hlen)
        rw [HWN.out] at hlen
        first
          | omega
          | (go_enter Try.func23, Try.ntmps23
             go_wp2
             go_ret
             exact ⟨rfl, rfl⟩)
      · have HLE : Hid (wantN x.toNat ≤ s.size) := Lib.hid (by omega)
        rw [HWN.out] at hlen
        go_enter Try.func23, Try.ntmps23
        go_wp2
        go_loopw [4, 5, 6] (fun lo hi i wr => ∃ (k a b : Nat), 1 ≤ k ∧ k ≤ wantN x.toNat ∧ i = .int .i64 k ∧ lo = .int .u8 a ∧ hi = .int .u8 b ∧ Hid (loN x.toNat k = a ∧ hiN x.toNat k = b) ∧ w = wr ∧ Hid (∀ j, 1 ≤ j → j < k → okN l j)) (fun _ _ i _ => 4 - (intOf i).toNat)
        case atStart => exact ⟨1, _, _, Nat.le_refl _, (want_le _).1, rfl, rfl, rfl, Lib.hid ⟨HLO.out, HHI.out⟩, rfl, Lib.hid fun j h1 h2 => absurd h1 (by omega)⟩
        case round =>
          obtain ⟨k, a, b, hk1, hkn, rfl, rfl, rfl, hab, rfl, hok⟩ := hrel
          have h4 := (want_le x.toNat).2
          by_cases hk : k < wantN x.toNat
          · have HK := Lib.hid hk
            have hks : k < s.size := by have := HLE.out; omega
            rw [HWN.out] at hk hkn h4
            first | (exfalso; omega) | skip
            all_goals
              obtain ⟨y, hy⟩ : ∃ y : UInt8, s[k]'hks = y := ⟨_, rfl⟩
              have HY : Hid (atN l k = y.toNat) := Lib.hid (by rw [HA.out k hks, hy])
              by_cases ha : a ≤ y.toNat
              · have p1 : decide ((y.toNat : Int) < (a : Int)) = false := decide_eq_false (by omega)
                by_cases hb : y.toNat ≤ b
                · have p2 : decide ((b : Int) < (y.toNat : Int)) = false := decide_eq_false (by omega)
                  have HKO : Hid (okN l k) := Lib.hid ((HO.out k).2 (by rw [hab.out.1, hab.out.2, HY.out]; exact ⟨ha, hb⟩))
                  go_wp2
                  go_roundw
                  case rel =>
                    refine ⟨k + 1, 128, 191, by omega, HK.out, by go_num, rfl, rfl, Lib.hid (lo_rest (by omega)), by first | rfl | trivial, Lib.hid fun j h1 h2 => ?_⟩
                    rcases Nat.lt_or_ge j k with h | h
                    · exact hok.out j h1 h
                    · obtain rfl : j = k := by omega
                      exact HKO.out
                  case measure => simp [intOf]; omega
                · have p2 : decide ((b : Int) < (y.toNat : Int)) = true := decide_eq_true (by omega)
                  obtain rfl : n = 1 := HB.out (.inr ⟨k, hk1, HK.out, fun h => by
                    have := (HO.out k).1 h
                    rw [hab.out.2, HY.out] at this
                    omega⟩)
                  go_wp2
                  go_ret
                  exact ⟨rfl, rfl⟩
              · have p1 : decide ((y.toNat : Int) < (a : Int)) = true := decide_eq_true (by omega)
                obtain rfl : n = 1 := HB.out (.inr ⟨k, hk1, HK.out, fun h => by
                  have := (HO.out k).1 h
                  rw [hab.out.1, HY.out] at this
                  omega⟩)
                go_wp2
                go_ret
                exact ⟨rfl, rfl⟩
          · have HN := Lib.hid (HW.out HLE.out (by rw [show wantN x.toNat = k by omega]; exact hok.out))
            rw [HWN.out] at hkn hk
            go_wp2
            go_ret
            exact ⟨ret_i64 (by rw [HN.out, HWN.out]; rfl), rfl⟩
end Go.Proofs.Ytkbibkadofeamaa.Run
