/- What the program's Name answers (over the landed text of package right, e6de85d). -/
import Derived.Test.YteolenhgaekihaaRightSays
import Derived.Test.YteolenhgaekihaaRightRefName
namespace Go.Proofs.Yteolenhgaekihaa.Right
open Go.RowKit Kit Reg Go.Proofs.Yteolenhgaekihaa.Lab
open Go.Proofs.Yteolenhgaekihaa.Cats (U U_or U_zero)

set_option maxRecDepth 100000 in
set_option maxHeartbeats 1000000 in
theorem letter_c (b : UInt8) (r : Bool) (hr : letB b = r) (w : World) : Calls Try.prog 28 #[.int .u8 b.toNat] w fun e w' => e = .returned (.bool r) ∧ w' = w := by
  have HR := Lib.hid hr
  clear hr
  by_cases h0 : 97 ≤ b.toNat
  · by_cases h1 : b.toNat ≤ 122
    · have d0 : decide (97 ≤ (b.toNat : Int)) = true := decide_eq_true (by omega)
      have d1 : decide ((b.toNat : Int) ≤ 122) = true := decide_eq_true (by omega)
      go_enter Try.func28, Try.ntmps28
      go_wp2
      go_ret
      exact ⟨ret_bool (by rw [← HR.out]; simp [letB, h0, h1]), rfl⟩
    · have d0 : decide (97 ≤ (b.toNat : Int)) = true := decide_eq_true (by omega)
      have d1 : decide ((b.toNat : Int) ≤ 122) = false := decide_eq_false (by omega)
      go_enter Try.func28, Try.ntmps28
      go_wp2
      go_ret
      exact ⟨ret_bool (by rw [← HR.out]; simp [letB]; omega), rfl⟩
  · have d0 : decide (97 ≤ (b.toNat : Int)) = false := decide_eq_false (by omega)
    go_enter Try.func28, Try.ntmps28
    go_wp2
    go_ret
    exact ⟨ret_bool (by rw [← HR.out]; simp [letB]; omega), rfl⟩
set_option maxRecDepth 100000 in
set_option maxHeartbeats 1000000 in
theorem digit_c (b : UInt8) (r : Bool) (hr : digB b = r) (w : World) : Calls Try.prog 29 #[.int .u8 b.toNat] w fun e w' => e = .returned (.bool r) ∧ w' = w := by
  have HR := Lib.hid hr
  clear hr
  by_cases h0 : 48 ≤ b.toNat
  · by_cases h1 : b.toNat ≤ 57
    · have d0 : decide (48 ≤ (b.toNat : Int)) = true := decide_eq_true (by omega)
      have d1 : decide ((b.toNat : Int) ≤ 57) = true := decide_eq_true (by omega)
      go_enter Try.func29, Try.ntmps29
      go_wp2
      go_ret
      exact ⟨ret_bool (by rw [← HR.out]; simp [digB, h0, h1]), rfl⟩
    · have d0 : decide (48 ≤ (b.toNat : Int)) = true := decide_eq_true (by omega)
      have d1 : decide ((b.toNat : Int) ≤ 57) = false := decide_eq_false (by omega)
      go_enter Try.func29, Try.ntmps29
      go_wp2
      go_ret
      exact ⟨ret_bool (by rw [← HR.out]; simp [digB]; omega), rfl⟩
  · have d0 : decide (48 ≤ (b.toNat : Int)) = false := decide_eq_false (by omega)
    go_enter Try.func29, Try.ntmps29
    go_wp2
    go_ret
    exact ⟨ret_bool (by rw [← HR.out]; simp [digB]; omega), rfl⟩
theorem empty_no {t : ByteArray} (h : 0 < t.size) : (t.toList == []) = false := by
  rw [Bool.eq_false_iff]
  intro e
  rw [beq_iff_eq, Lib.toList_data] at e
  have := size_list t
  rw [e] at this
  simp at this
  omega
set_option maxRecDepth 100000 in
set_option maxHeartbeats 4000000 in
theorem name_in (t : ByteArray) (h1 : 0 < t.size) (h2 : t.size ≤ 16) (w : World) : Calls Try.prog 10 #[.string t] w fun e w' => e = .returned (.bool (letB t[0] && t.data.toList.all wordB)) ∧ w' = w := by
  have d2 : decide (16 < t.size) = false := decide_eq_false (by omega)
  have d2' : decide (16 < (t.size : Int)) = false := decide_eq_false (by omega)
  have d0 := empty_no h1
  cases hl0 : letB t[0] with
  | false =>
    have HL := Lib.hid (fun w1 => letter_c t[0] false hl0 w1)
    clear hl0
    go_enter Try.func10, Try.ntmps10
    go_wp2_with fail
    refine (HL.out _).mono ?_
    rintro e w1 ⟨rfl, rfl⟩
    go_wp2
    go_ret
    exact ⟨rfl, rfl⟩
  | true =>
    have HL := Lib.hid (fun w1 => letter_c t[0] true hl0 w1)
    clear hl0
    obtain ⟨r, hr⟩ : ∃ r, t.data.toList.all wordB = r := ⟨_, rfl⟩
    rw [hr, Bool.true_and]
    have HR := Lib.hid hr
    clear hr
    go_enter Try.func10, Try.ntmps10
    go_wp2_with fail
    refine (HL.out _).mono ?_
    rintro e w1 ⟨rfl, rfl⟩
    go_wp2
    go_loopw [19] (fun i wr => ∃ k : Nat, k ≤ t.size ∧ i = .int .i64 k ∧ wr = w1 ∧ Hid ((t.data.toList.drop k).all wordB = r)) (fun i _ => t.size - (intOf i).toNat)
    case atStart => exact ⟨0, Nat.zero_le _, rfl, rfl, HR⟩
    case round =>
      obtain ⟨k, hk, rfl, rfl, HK⟩ := hrel
      by_cases hlt : k < t.size
      · have HN : Hid ((wordB t[k] && (t.data.toList.drop (k + 1)).all wordB) = r) := by rw [← all_from (byte_at t k hlt)]; exact HK
        cases hl : letB t[k] with
        | true =>
          have HLk := Lib.hid (fun w1 => letter_c t[k] true hl w1)
          have HN2 : Hid ((t.data.toList.drop (k + 1)).all wordB = r) := by
            have := HN.out
            rwa [show wordB t[k] = true by simp [wordB, hl], Bool.true_and] at this
          clear hl HN
          go_wp2_with fail
          refine (HLk.out _).mono ?_
          rintro e w2 ⟨rfl, rfl⟩
          go_wp2
          go_roundw
          case rel => exact ⟨k + 1, by omega, by go_num, by first | rfl | trivial, HN2⟩
          case measure => simp [intOf]; omega
        | false =>
          have HLk := Lib.hid (fun w1 => letter_c t[k] false hl w1)
          cases hd : digB t[k] with
          | true =>
            have HDk := Lib.hid (fun w1 => digit_c t[k] true hd w1)
            have HN2 : Hid ((t.data.toList.drop (k + 1)).all wordB = r) := by
              have := HN.out
              rwa [show wordB t[k] = true by simp [wordB, hd], Bool.true_and] at this
            clear hl hd HN
            go_wp2_with fail
            refine (HLk.out _).mono ?_
            rintro e w2 ⟨rfl, rfl⟩
            go_wp2_with fail
            refine (HDk.out _).mono ?_
            rintro e w3 ⟨rfl, rfl⟩
            go_wp2
            go_roundw
            case rel => exact ⟨k + 1, by omega, by go_num, by first | rfl | trivial, HN2⟩
            case measure => simp [intOf]; omega
          | false =>
            have HDk := Lib.hid (fun w1 => digit_c t[k] false hd w1)
            have HN2 : r = false := by
              have := HN.out
              rw [show wordB t[k] = false by simp [wordB, hl, hd], Bool.false_and] at this
              exact this.symm
            subst HN2
            clear hl hd HN
            go_wp2_with fail
            refine (HLk.out _).mono ?_
            rintro e w2 ⟨rfl, rfl⟩
            go_wp2_with fail
            refine (HDk.out _).mono ?_
            rintro e w3 ⟨rfl, rfl⟩
            go_wp2
            go_ret
            exact ⟨rfl, rfl⟩
      · obtain rfl : k = t.size := by omega
        have HE := HK.out
        rw [← size_list, List.drop_length] at HE
        obtain rfl : true = r := HE
        go_wp2
        go_ret
        exact ⟨rfl, rfl⟩
set_option maxRecDepth 100000 in
set_option maxHeartbeats 1000000 in
theorem name_says : NameSays := by
  intro t w
  by_cases h0 : t.size < 1
  · have d0 : (t.toList == []) = true := by
      rw [beq_iff_eq, Lib.toList_data]
      exact List.eq_nil_of_length_eq_zero (by rw [size_list]; omega)
    rw [show nameB t.data.toList = false by unfold nameB; rw [size_list]; simp; omega]
    go_enter Try.func10, Try.ntmps10
    go_wp2
    go_ret
    exact ⟨rfl, Below.refl _ _⟩
  · have d0 := empty_no (t := t) (by omega)
    by_cases h1 : 16 < t.size
    · have d2 : decide (16 < t.size) = true := decide_eq_true (by omega)
      have d2' : decide (16 < (t.size : Int)) = true := decide_eq_true (by omega)
      rw [show nameB t.data.toList = false by unfold nameB; rw [size_list]; simp; omega]
      go_enter Try.func10, Try.ntmps10
      go_wp2
      go_ret
      exact ⟨rfl, Below.refl _ _⟩
    · have h2 : 0 < t.size := by omega
      rw [nameB_in h2 (by omega)]
      exact (name_in t h2 (by omega) w).mono fun e w' ⟨h, h2⟩ => ⟨h, by rw [h2]; exact Below.refl _ _⟩
end Go.Proofs.Yteolenhgaekihaa.Right
