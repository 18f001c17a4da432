/- What the reference's small functions on names and users answer: for every text, and every slice that reads as users. -/
import Derived.Test.YteolenhgaekihaaRightText
import Derived.Test.YteolenhgaekihaaLabRefLeafs
namespace Go.Proofs.Yteolenhgaekihaa.Right
open Go.RowKit Kit Reg Go.Proofs.Yteolenhgaekihaa.Lab
open Go.Proofs.Yteolenhgaekihaa.Cats (U U_or U_zero)

set_option maxRecDepth 100000 in
set_option maxHeartbeats 1000000 in
theorem rletter_c (b : UInt8) (r : Bool) (hr : letB b = r) (w : World) : Calls Try.prog 30 #[.int .u8 b.toNat] w fun e w' => e = .returned (.bool r) ∧ w' = w := by
  have HR := Lib.hid hr
  clear hr
  by_cases h0 : 97 ≤ b.toNat
  · by_cases h1 : b.toNat ≤ 122
    · have d0 : decide (97 ≤ (b.toNat : Int)) = true := by simp; omega
      have d1 : decide ((b.toNat : Int) ≤ 122) = true := by simp; omega
      go_enter Try.func30, Try.ntmps30
      go_wp2
      go_ret
      exact ⟨ret_bool (by rw [← HR.out]; simp [letB, h0, h1]), rfl⟩
    · have d0 : decide (97 ≤ (b.toNat : Int)) = true := by simp; omega
      have d1 : decide ((b.toNat : Int) ≤ 122) = false := by simp; omega
      go_enter Try.func30, Try.ntmps30
      go_wp2
      go_ret
      exact ⟨ret_bool (by rw [← HR.out]; simp [letB]; omega), rfl⟩
  · have d0 : decide (97 ≤ (b.toNat : Int)) = false := by simp; omega
    go_enter Try.func30, Try.ntmps30
    go_wp2
    go_ret
    exact ⟨ret_bool (by rw [← HR.out]; simp [letB]; omega), rfl⟩
set_option maxRecDepth 100000 in
set_option maxHeartbeats 1000000 in
theorem rmay_c (l : Int) (s : Nat) (b : Bool) (hb : mayL l = b) (w : World) : Calls Try.prog 32 #[.agg #[.int .i64 l, .int .u64 s]] w fun e w' => e = .returned (.bool b) ∧ Below w.heap.size w w' := by
  have HB := Lib.hid hb
  clear hb
  by_cases h0 : 0 ≤ l
  · by_cases h1 : l ≤ 15
    · go_enter Try.func32, Try.ntmps32
      go_wp2
      go_ret
      exact ⟨ret_bool (by rw [← HB.out]; simp [mayL, h0, h1]), below1 _ _⟩
    · go_enter Try.func32, Try.ntmps32
      go_wp2
      go_ret
      exact ⟨ret_bool (by rw [← HB.out]; simp [mayL]; omega), below1 _ _⟩
  · have hd : decide (0 ≤ l) = false := by simpa using h0
    go_enter Try.func32, Try.ntmps32
    go_wp2
    go_ret
    exact ⟨ret_bool (by rw [← HB.out]; simp [mayL]; omega), below1 _ _⟩
set_option maxRecDepth 100000 in
set_option maxHeartbeats 1000000 in
theorem rfind_c (A : Option Addr) (n cap : Nat) (us : List Us) (t : ByteArray) (p : Int) (hp : findI us t 0 = p) (w : World) (hz : UsersR w A n us) :
    Calls Try.prog 9 #[.slice A n cap, .string t] w fun e w' => e = .returned (.int .i64 p) ∧ Below w.heap.size w w' := by
  obtain ⟨hlen, hmax, _, _⟩ := id hz
  have HZ := Lib.hid hz
  have HL := Lib.hid hlen
  have HC := Lib.hid hp
  clear hz hlen hp
  go_enter Try.func9, Try.ntmps9
  go_wp2
  go_loopw [5] (fun i wr => ∃ k : Nat, k ≤ n ∧ i = .int .i64 k ∧ Hid (findI (us.drop k) t k = p) ∧ Below w.heap.size w wr) (fun i _ => n - (intOf i).toNat)
  case atStart => exact ⟨0, Nat.zero_le _, rfl, HC, Below.refl _ _⟩
  case round =>
    obtain ⟨k, hk, rfl, HK, hb0⟩ := hrel
    by_cases hlt : k < n
    · obtain ⟨z, hzk⟩ : ∃ z, us[k]? = some z := ⟨_, List.getElem?_eq_getElem (by rw [HL.out]; exact hlt)⟩
      obtain ⟨_, _, _, h4⟩ := HZ.out.on hb0
      obtain ⟨b, o, rfl, hblt, hcell⟩ := h4 (by omega)
      obtain ⟨c0, c1, c2⟩ := user_cells (hcell k z hzk)
      have HZk := Lib.hid hzk
      clear h4 hcell hzk
      cases hh : (z.name.toList == t.toList) with
      | false =>
        have HN : Hid (findI (us.drop (k + 1)) t (k + 1) = p) := by rw [← findI_miss HZk.out hh]; exact HK
        go_wp2
        go_roundw
        case rel => exact ⟨k + 1, by omega, by go_num, HN, hb0⟩
        case measure => simp [intOf]; omega
      | true =>
        have HN : (k : Int) = p := by rw [← findI_hit HZk.out hh]; exact HK.out
        subst HN
        go_wp2
        go_ret
        exact ⟨rfl, hb0⟩
    · obtain rfl : k = n := by omega
      have HE := HK.out
      rw [← HL.out, findI_end] at HE
      subst HE
      go_wp2
      go_ret
      exact ⟨rfl, hb0⟩
end Go.Proofs.Yteolenhgaekihaa.Right
