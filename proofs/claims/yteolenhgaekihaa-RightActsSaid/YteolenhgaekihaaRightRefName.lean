/- What the reference's Name answers: for every text. -/
import Derived.Test.YteolenhgaekihaaRightRef
namespace Go.Proofs.Yteolenhgaekihaa.Right
open Go.RowKit Kit Reg Go.Proofs.Yteolenhgaekihaa.Lab
open Go.Proofs.Yteolenhgaekihaa.Cats (U U_or U_zero)

theorem byte_at (t : ByteArray) (k : Nat) (h : k < t.size) : t.data.toList[k]? = some t[k] := by
  have h2 : k < t.data.toList.length := by simpa using h
  rw [List.getElem?_eq_getElem h2]
  rfl
theorem size_list (t : ByteArray) : t.data.toList.length = t.size := by rw [Array.length_toList]; rfl
theorem nameB_in {t : ByteArray} (h1 : 0 < t.size) (h2 : t.size ≤ 16) : nameB t.data.toList = (letB t[0] && t.data.toList.all wordB) := by
  unfold nameB
  rw [size_list, show t.data.toList.getD 0 0 = t[0] by rw [List.getD, byte_at t 0 h1]; rfl]
  rw [decide_eq_true (show 1 ≤ t.size by omega), decide_eq_true h2]
  simp
set_option maxRecDepth 100000 in
set_option maxHeartbeats 4000000 in
theorem rname_in (t : ByteArray) (h1 : 0 < t.size) (h2 : t.size ≤ 16) (w : World) : Calls Try.prog 11 #[.string t] w fun e w' => e = .returned (.bool (letB t[0] && t.data.toList.all wordB)) ∧ w' = w := by
  have d1' : decide ((t.size : Int) < 1) = false := decide_eq_false (by omega)
  have d2 : decide (16 < t.size) = false := decide_eq_false (by omega)
  have d2' : decide (16 < (t.size : Int)) = false := decide_eq_false (by omega)
  cases hl0 : letB t[0] with
  | false =>
    have HL := Lib.hid (fun w1 => rletter_c t[0] false hl0 w1)
    clear hl0
    go_enter Try.func11, Try.ntmps11
    go_wp2_with fail
    refine (HL.out _).mono ?_
    rintro e w1 ⟨rfl, rfl⟩
    go_wp2
    go_ret
    exact ⟨rfl, rfl⟩
  | true =>
    have HL := Lib.hid (fun w1 => rletter_c t[0] true hl0 w1)
    clear hl0
    obtain ⟨r, hr⟩ : ∃ r, t.data.toList.all wordB = r := ⟨_, rfl⟩
    rw [hr, Bool.true_and]
    have HR := Lib.hid hr
    clear hr
    go_enter Try.func11, Try.ntmps11
    go_wp2_with fail
    refine (HL.out _).mono ?_
    rintro e w1 ⟨rfl, rfl⟩
    go_wp2
    go_loopw [3] (fun i wr => ∃ k : Nat, k ≤ t.size ∧ i = .int .i64 k ∧ wr = w1 ∧ Hid ((t.data.toList.drop k).all wordB = r)) (fun i _ => t.size - (intOf i).toNat)
    case atStart => exact ⟨0, Nat.zero_le _, rfl, rfl, HR⟩
    case round =>
      obtain ⟨k, hk, rfl, rfl, HK⟩ := hrel
      by_cases hlt : k < t.size
      · have HN : Hid ((wordB t[k] && (t.data.toList.drop (k + 1)).all wordB) = r) := by rw [← all_from (byte_at t k hlt)]; exact HK
        cases hl : letB t[k] with
        | true =>
          have HLk := Lib.hid (fun w1 => rletter_c t[k] true hl w1)
          have HN2 : Hid ((t.data.toList.drop (k + 1)).all wordB = r) := by
            have := HN.out
            rwa [show wordB t[k] = true by simp [wordB, hl], Bool.true_and] at this
          clear hl HN
          go_wp2_with fail
          refine (HLk.out _).mono ?_
          rintro e w2 ⟨rfl, rfl⟩
          go_wp2
          go_roundw
          case rel => exact ⟨k + 1, by omega, by go_num, by first | rfl | trivial, HN2⟩
          case measure => simp [intOf]; omega
        | false =>
          have HLk := Lib.hid (fun w1 => rletter_c t[k] false hl w1)
          by_cases h48 : 48 ≤ t[k].toNat
          · by_cases h57 : t[k].toNat ≤ 57
            · have HN2 : Hid ((t.data.toList.drop (k + 1)).all wordB = r) := by
                have := HN.out
                rwa [show wordB t[k] = true by simp [wordB, digB, h48, h57], Bool.true_and] at this
              have e1 : decide (48 ≤ (t[k].toNat : Int)) = true := by simp; omega
              have e2 : decide ((t[k].toNat : Int) ≤ 57) = true := by simp; omega
              clear hl HN
              go_wp2_with fail
              refine (HLk.out _).mono ?_
              rintro e w2 ⟨rfl, rfl⟩
              go_wp2
              go_roundw
              case rel => exact ⟨k + 1, by omega, by go_num, by first | rfl | trivial, HN2⟩
              case measure => simp [intOf]; omega
            · have HN2 : r = false := by
                have := HN.out
                rw [show wordB t[k] = false by simp only [wordB, digB, hl, Bool.false_or]; simp; omega, Bool.false_and] at this
                exact this.symm
              subst HN2
              have e1 : decide (48 ≤ (t[k].toNat : Int)) = true := by simp; omega
              have e2 : decide ((t[k].toNat : Int) ≤ 57) = false := by simp; omega
              clear hl HN
              go_wp2_with fail
              refine (HLk.out _).mono ?_
              rintro e w2 ⟨rfl, rfl⟩
              go_wp2
              go_ret
              exact ⟨rfl, rfl⟩
          · have HN2 : r = false := by
              have := HN.out
              rw [show wordB t[k] = false by simp only [wordB, digB, hl, Bool.false_or]; simp; omega, Bool.false_and] at this
              exact this.symm
            subst HN2
            have e1 : decide (48 ≤ (t[k].toNat : Int)) = false := by simp; omega
            clear hl HN
            go_wp2_with fail
            refine (HLk.out _).mono ?_
            rintro e w2 ⟨rfl, rfl⟩
            go_wp2
            go_ret
            exact ⟨rfl, rfl⟩
      · obtain rfl : k = t.size := by omega
        have HE := HK.out
        rw [← size_list, List.drop_length] at HE
        obtain rfl : true = r := HE
        go_wp2
        go_ret
        exact ⟨rfl, rfl⟩
set_option maxRecDepth 100000 in
set_option maxHeartbeats 1000000 in
theorem rname_c (t : ByteArray) (r : Bool) (hr : nameB t.data.toList = r) (w : World) : Calls Try.prog 11 #[.string t] w fun e w' => e = .returned (.bool r) ∧ w' = w := by
  subst hr
  by_cases h0 : t.size < 1
  · have d1' : decide ((t.size : Int) < 1) = true := decide_eq_true (by omega)
    rw [show nameB t.data.toList = false by unfold nameB; rw [size_list]; simp; omega]
    go_enter Try.func11, Try.ntmps11
    go_wp2
    go_ret
    exact ⟨rfl, rfl⟩
  · by_cases h1 : 16 < t.size
    · have d1' : decide ((t.size : Int) < 1) = false := decide_eq_false (by omega)
      have d2 : decide (16 < t.size) = true := decide_eq_true (by omega)
      have d2' : decide (16 < (t.size : Int)) = true := decide_eq_true (by omega)
      rw [show nameB t.data.toList = false by unfold nameB; rw [size_list]; simp; omega]
      go_enter Try.func11, Try.ntmps11
      go_wp2
      go_ret
      exact ⟨rfl, rfl⟩
    · have h2 : 0 < t.size := by omega
      rw [nameB_in h2 (by omega)]
      exact rname_in t h2 (by omega) w
end Go.Proofs.Yteolenhgaekihaa.Right
