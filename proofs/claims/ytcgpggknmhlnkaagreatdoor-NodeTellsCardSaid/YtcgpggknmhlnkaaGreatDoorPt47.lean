/- What the reference's one answers: is a node as told, whatever is below it? Written by wip/gen22one.py. -/
import Derived.Test.YtcgpggknmhlnkaaGreatDoorPt25
import Derived.Test.YtcgpggknmhlnkaaGreatDoorPt30
import Derived.Test.YtcgpggknmhlnkaaGreatDoorPt45
import Derived.Test.YtcgpggknmhlnkaaGreatDoorPt46
import Derived.Test.YtcgpggknmhlnkaaGreatDoorPt27
import Derived.Deep.CutBlock
import Derived.Deep.DeepCutAuto
namespace Go.Proofs.YtcgpggknmhlnkaaGreatDoor.Nod
open Go.RowKit Kit Reg
set_option maxRecDepth 100000 in
set_option maxHeartbeats 4000000 in
theorem rone_2 (h : Hd) (A : Option Addr) (n c : Nat) (F : Fo) (hk : h.k = 2) (r : Bool) (hr : oneV (h, F) = r) (w : World) (hz : KidsR w A n F) : Calls Tryz.prog 22 #[.agg #[.int .i64 h.k, .int .i64 h.op, .int .i64 h.vk, .int .i64 h.vn, .string h.vt, .int .i64 h.ar, .int .i64 h.ac, .bool h.ah, .bool h.al, .int .i64 h.br, .int .i64 h.bc, .bool h.bh, .bool h.bl, .slice A n c]] w fun e w' => e = .returned (.bool r) ∧ Below w.heap.size w w' := by
  have HR := Lib.hid hr
  have HZ := Lib.hid hz
  have HN := Lib.hid hz.1.1
  have hn : n ≤ 9223372036854775807 := by have := hz.1.2; unfold maxLen at this; omega
  have qV := run_eqV h.vk h.vn h.vt 0 0 ⟨#[]⟩ (zV h) rfl
  have qA := run_eqF h.ar h.ac h.ah h.al 0 0 false false (zA h) rfl
  have qB := run_eqF h.br h.bc h.bh h.bl 0 0 false false (zB h) rfl
  have HK := Lib.hid hk
  clear hz hr hk
  go_enter Tryz.func22, Tryz.ntmps22
  go_upto_region 2 with fail
  go_cut [4] from 8 to 23 (fun s wx => s = .bool (bareB h) ∧ wx = (w.alloc (.cells #[.int .i64 h.k, .int .i64 h.op, .int .i64 h.vk, .int .i64 h.vn, .string h.vt, .int .i64 h.ar, .int .i64 h.ac, .bool h.ah, .bool h.al, .int .i64 h.br, .int .i64 h.bc, .bool h.bh, .bool h.bl, .slice A n c] 28)).alloc (.cells #[.int .i64 0, .int .i64 0, .bool false, .bool false] 25))
  case first =>
    cases d1 : zV h with
    | false =>
      rw [d1] at qV
      go_wp2_with fail
      go_meet
      exact ⟨by unfold bareB; rw [d1]; rfl, rfl⟩
    | true =>
      cases d2 : zA h with
      | false =>
        rw [d1] at qV
        rw [d2] at qA
        go_wp2_with fail
        go_meet
        exact ⟨by unfold bareB; rw [d1, d2]; rfl, rfl⟩
      | true =>
        rw [d1] at qV
        rw [d2] at qA
        go_wp2_with fail
        go_meet
        exact ⟨by unfold bareB; rw [d1, d2]; rfl, rfl⟩
  case rest =>
    obtain ⟨rfl, rfl⟩ := hcut
    have HB := Lib.hid (below2 w (.cells #[.int .i64 h.k, .int .i64 h.op, .int .i64 h.vk, .int .i64 h.vn, .string h.vt, .int .i64 h.ar, .int .i64 h.ac, .bool h.ah, .bool h.al, .int .i64 h.br, .int .i64 h.bc, .bool h.bh, .bool h.bl, .slice A n c] 28) (.cells #[.int .i64 0, .int .i64 0, .bool false, .bool false] 25))
    have k1 : (h.k == 1) = false := by rw [HK.out]; rfl
    have k2 : (h.k == 2) = true := by rw [HK.out]; rfl
    cases d1 : (h.op == 0) with
    | false =>
      go_wp2_with fail
      go_ret
      exact ⟨ret_bool (by rw [← HR.out]; simp [oneV, HK.out, HN.out, d1]), HB.out⟩
    | true =>
      cases d2 : bareB h with
      | false =>
        go_wp2_with fail
        go_ret
        exact ⟨ret_bool (by rw [← HR.out]; simp [oneV, HK.out, HN.out, d1, d2]), HB.out⟩
      | true =>
        cases d3 : ((n : Int) == 0) with
        | false =>
          go_wp2_with fail
          go_ret
          exact ⟨ret_bool (by rw [← HR.out]; simp [oneV, HK.out, HN.out, d1, d2, d3]), HB.out⟩
        | true =>
          go_wp2_with fail
          go_ret
          exact ⟨ret_bool (by rw [← HR.out]; simp [oneV, HK.out, HN.out, d1, d2, d3]), HB.out⟩

set_option maxRecDepth 100000 in
set_option maxHeartbeats 4000000 in
theorem rone_1 (h : Hd) (A : Option Addr) (n c : Nat) (F : Fo) (hk : h.k = 1) (hs : h.vt.size ≤ 9223372036854775807) (r : Bool) (hr : oneV (h, F) = r) (w : World) (hz : KidsR w A n F) : Calls Tryz.prog 22 #[.agg #[.int .i64 h.k, .int .i64 h.op, .int .i64 h.vk, .int .i64 h.vn, .string h.vt, .int .i64 h.ar, .int .i64 h.ac, .bool h.ah, .bool h.al, .int .i64 h.br, .int .i64 h.bc, .bool h.bh, .bool h.bl, .slice A n c]] w fun e w' => e = .returned (.bool r) ∧ Below w.heap.size w w' := by
  have HR := Lib.hid hr
  have HZ := Lib.hid hz
  have HN := Lib.hid hz.1.1
  have hn : n ≤ 9223372036854775807 := by have := hz.1.2; unfold maxLen at this; omega
  have qV := run_eqV h.vk h.vn h.vt 0 0 ⟨#[]⟩ (zV h) rfl
  have qA := run_eqF h.ar h.ac h.ah h.al 0 0 false false (zA h) rfl
  have qB := run_eqF h.br h.bc h.bh h.bl 0 0 false false (zB h) rfl
  have HK := Lib.hid hk
  clear hz hr hk
  go_enter Tryz.func22, Tryz.ntmps22
  go_upto_region 2 with fail
  go_cut [4] from 8 to 23 (fun s wx => s = .bool (bareB h) ∧ wx = (w.alloc (.cells #[.int .i64 h.k, .int .i64 h.op, .int .i64 h.vk, .int .i64 h.vn, .string h.vt, .int .i64 h.ar, .int .i64 h.ac, .bool h.ah, .bool h.al, .int .i64 h.br, .int .i64 h.bc, .bool h.bh, .bool h.bl, .slice A n c] 28)).alloc (.cells #[.int .i64 0, .int .i64 0, .bool false, .bool false] 25))
  case first =>
    cases d1 : zV h with
    | false =>
      rw [d1] at qV
      go_wp2_with fail
      go_meet
      exact ⟨by unfold bareB; rw [d1]; rfl, rfl⟩
    | true =>
      cases d2 : zA h with
      | false =>
        rw [d1] at qV
        rw [d2] at qA
        go_wp2_with fail
        go_meet
        exact ⟨by unfold bareB; rw [d1, d2]; rfl, rfl⟩
      | true =>
        rw [d1] at qV
        rw [d2] at qA
        go_wp2_with fail
        go_meet
        exact ⟨by unfold bareB; rw [d1, d2]; rfl, rfl⟩
  case rest =>
    obtain ⟨rfl, rfl⟩ := hcut
    have k1 : (h.k == 1) = true := by rw [HK.out]; rfl
    have HD := Lib.hid (fun i (hi : i < h.vt.size) => Lib.data_getElem? h.vt i hi)
    have HT := Lib.hid (show h.vt.data.toList.length = h.vt.size by rw [Array.length_toList]; rfl)
    have HB := Lib.hid (below2 w (.cells #[.int .i64 h.k, .int .i64 h.op, .int .i64 h.vk, .int .i64 h.vn, .string h.vt, .int .i64 h.ar, .int .i64 h.ac, .bool h.ah, .bool h.al, .int .i64 h.br, .int .i64 h.bc, .bool h.bh, .bool h.bl, .slice A n c] 28) (.cells #[.int .i64 0, .int .i64 0, .bool false, .bool false] 25))
    go_wp2_with fail
    go_loopw [5] (fun x wr => ∃ i : Nat, i ≤ h.vt.size ∧ x = .int .i64 i ∧ Hid ((h.vt.data.toList.take i).all Lex.plainB = true) ∧ (w.alloc (.cells #[.int .i64 h.k, .int .i64 h.op, .int .i64 h.vk, .int .i64 h.vn, .string h.vt, .int .i64 h.ar, .int .i64 h.ac, .bool h.ah, .bool h.al, .int .i64 h.br, .int .i64 h.bc, .bool h.bh, .bool h.bl, .slice A n c] 28)).alloc (.cells #[.int .i64 0, .int .i64 0, .bool false, .bool false] 25) = wr) (fun x _ => h.vt.size - (intOf x).toNat)
    case atStart => exact ⟨0, Nat.zero_le _, rfl, Lib.hid rfl, rfl⟩
    case round =>
      obtain ⟨i, hi, rfl, HA, rfl⟩ := hrel
      by_cases hlt : i < h.vt.size
      · have hb := HD.out i hlt
        cases hp : Lex.plainB h.vt[i] with
        | true =>
          have HN2 : Hid ((h.vt.data.toList.take (i + 1)).all Lex.plainB = true) := Lib.hid (by rw [all_snoc HA.out hb, hp])
          have HC := Lib.hid (fun w1 => Lex.rplain_c h.vt[i] true hp w1)
          clear hb hp HD HT HA
          go_wp2_with fail
          refine (HC.out _).mono ?_
          rintro e w2 ⟨rfl, rfl⟩
          go_wp2_with fail
          go_roundw
          case rel => exact ⟨i + 1, by omega, by go_num, HN2, by first | rfl | trivial⟩
          case measure => simp [intOf]; omega
        | false =>
          have HP : Hid (plainT h = false) := Lib.hid (all_bad hb hp)
          have HC := Lib.hid (fun w1 => Lex.rplain_c h.vt[i] false hp w1)
          clear hb hp HD HT HA
          go_wp2_with fail
          refine (HC.out _).mono ?_
          rintro e w2 ⟨rfl, rfl⟩
          go_wp2_with fail
          go_ret
          exact ⟨ret_bool (by rw [← HR.out]; simp [oneV, HK.out, HP.out]), HB.out⟩
      · obtain rfl : i = h.vt.size := by omega
        have HP : Hid (plainT h = true) := Lib.hid (by have := HA.out; rwa [List.take_of_length_le (by rw [HT.out]; exact Nat.le_refl _)] at this)
        clear HA HD hi
        cases d1 : (h.op == 0) with
        | false =>
          go_wp2_with fail
          go_ret
          exact ⟨ret_bool (by rw [← HR.out]; simp [oneV, litB, HK.out, HN.out, HP.out, d1]), HB.out⟩
        | true =>
          cases d2 : zA h with
          | false =>
            rw [d2] at qA
            go_wp2_with fail
            go_ret
            exact ⟨ret_bool (by rw [← HR.out]; simp [oneV, litB, HK.out, HN.out, HP.out, d1, d2]), HB.out⟩
          | true =>
            rw [d2] at qA
            cases d3 : zB h with
            | false =>
              rw [d3] at qB
              go_wp2_with fail
              go_ret
              exact ⟨ret_bool (by rw [← HR.out]; simp [oneV, litB, HK.out, HN.out, HP.out, d1, d2, d3]), HB.out⟩
            | true =>
              rw [d3] at qB
              cases d4 : ((n : Int) == 0) with
              | false =>
                go_wp2_with fail
                go_ret
                exact ⟨ret_bool (by rw [← HR.out]; simp [oneV, litB, HK.out, HN.out, HP.out, d1, d2, d3, d4]), HB.out⟩
              | true =>
                cases d5 : decide (1 ≤ h.vk) with
                | false =>
                  go_wp2_with fail
                  go_ret
                  exact ⟨ret_bool (by rw [← HR.out]; simp [oneV, litB, HK.out, HN.out, HP.out, d1, d2, d3, d4, d5]), HB.out⟩
                | true =>
                  cases d6 : decide (h.vk ≤ 3) with
                  | false =>
                    go_wp2_with fail
                    go_ret
                    exact ⟨ret_bool (by rw [← HR.out]; simp [oneV, litB, HK.out, HN.out, HP.out, d1, d2, d3, d4, d5, d6]), HB.out⟩
                  | true =>
                    cases d7 : decide (0 ≤ h.vn) with
                    | false =>
                      go_wp2_with fail
                      go_ret
                      exact ⟨ret_bool (by rw [← HR.out]; simp [oneV, litB, HK.out, HN.out, HP.out, d1, d2, d3, d4, d5, d6, d7]), HB.out⟩
                    | true =>
                      go_wp2_with fail
                      refine (Val.rmayv_c h.vk h.vn h.vt _ rfl _).mono ?_
                      rintro e w2 ⟨rfl, hb2⟩
                      replace HB := Lib.hid (on HB.out hb2)
                      go_wp2_with fail
                      go_ret
                      exact ⟨ret_bool (by rw [← HR.out]; simp [oneV, litB, HK.out, HN.out, HP.out, d1, d2, d3, d4, d5, d6, d7]), HB.out⟩

set_option maxRecDepth 100000 in
set_option maxHeartbeats 4000000 in
theorem rone_3 (h : Hd) (A : Option Addr) (n c : Nat) (F : Fo) (hk : h.k = 3) (r : Bool) (hr : oneV (h, F) = r) (w : World) (hz : KidsR w A n F) : Calls Tryz.prog 22 #[.agg #[.int .i64 h.k, .int .i64 h.op, .int .i64 h.vk, .int .i64 h.vn, .string h.vt, .int .i64 h.ar, .int .i64 h.ac, .bool h.ah, .bool h.al, .int .i64 h.br, .int .i64 h.bc, .bool h.bh, .bool h.bl, .slice A n c]] w fun e w' => e = .returned (.bool r) ∧ Below w.heap.size w w' := by
  have HR := Lib.hid hr
  have HZ := Lib.hid hz
  have HN := Lib.hid hz.1.1
  have hn : n ≤ 9223372036854775807 := by have := hz.1.2; unfold maxLen at this; omega
  have qV := run_eqV h.vk h.vn h.vt 0 0 ⟨#[]⟩ (zV h) rfl
  have qA := run_eqF h.ar h.ac h.ah h.al 0 0 false false (zA h) rfl
  have qB := run_eqF h.br h.bc h.bh h.bl 0 0 false false (zB h) rfl
  have HK := Lib.hid hk
  clear hz hr hk
  go_enter Tryz.func22, Tryz.ntmps22
  go_upto_region 2 with fail
  go_cut [4] from 8 to 23 (fun s wx => s = .bool (bareB h) ∧ wx = (w.alloc (.cells #[.int .i64 h.k, .int .i64 h.op, .int .i64 h.vk, .int .i64 h.vn, .string h.vt, .int .i64 h.ar, .int .i64 h.ac, .bool h.ah, .bool h.al, .int .i64 h.br, .int .i64 h.bc, .bool h.bh, .bool h.bl, .slice A n c] 28)).alloc (.cells #[.int .i64 0, .int .i64 0, .bool false, .bool false] 25))
  case first =>
    cases d1 : zV h with
    | false =>
      rw [d1] at qV
      go_wp2_with fail
      go_meet
      exact ⟨by unfold bareB; rw [d1]; rfl, rfl⟩
    | true =>
      cases d2 : zA h with
      | false =>
        rw [d1] at qV
        rw [d2] at qA
        go_wp2_with fail
        go_meet
        exact ⟨by unfold bareB; rw [d1, d2]; rfl, rfl⟩
      | true =>
        rw [d1] at qV
        rw [d2] at qA
        go_wp2_with fail
        go_meet
        exact ⟨by unfold bareB; rw [d1, d2]; rfl, rfl⟩
  case rest =>
    obtain ⟨rfl, rfl⟩ := hcut
    have HB := Lib.hid (below2 w (.cells #[.int .i64 h.k, .int .i64 h.op, .int .i64 h.vk, .int .i64 h.vn, .string h.vt, .int .i64 h.ar, .int .i64 h.ac, .bool h.ah, .bool h.al, .int .i64 h.br, .int .i64 h.bc, .bool h.bh, .bool h.bl, .slice A n c] 28) (.cells #[.int .i64 0, .int .i64 0, .bool false, .bool false] 25))
    have k1 : (h.k == 1) = false := by rw [HK.out]; rfl
    have k2 : (h.k == 2) = false := by rw [HK.out]; rfl
    have k3 : (h.k == 3) = true := by rw [HK.out]; rfl
    cases d1 : (h.op == 0) with
    | false =>
      go_wp2_with fail
      go_ret
      exact ⟨ret_bool (by rw [← HR.out]; simp [oneV, HK.out, HN.out, d1]), HB.out⟩
    | true =>
      cases d2 : zV h with
      | false =>
        rw [d2] at qV
        go_wp2_with fail
        go_ret
        exact ⟨ret_bool (by rw [← HR.out]; simp [oneV, HK.out, HN.out, d1, d2]), HB.out⟩
      | true =>
        rw [d2] at qV
        cases d3 : zB h with
        | false =>
          rw [d3] at qB
          go_wp2_with fail
          go_ret
          exact ⟨ret_bool (by rw [← HR.out]; simp [oneV, HK.out, HN.out, d1, d2, d3]), HB.out⟩
        | true =>
          rw [d3] at qB
          cases d4 : ((n : Int) == 0) with
          | false =>
            go_wp2_with fail
            go_ret
            exact ⟨ret_bool (by rw [← HR.out]; simp [oneV, HK.out, HN.out, d1, d2, d3, d4]), HB.out⟩
          | true =>
            go_wp2_with fail
            refine (rref_c h.ar h.ac h.ah h.al _ rfl _).mono ?_
            rintro e w2 ⟨rfl, hb2⟩
            replace HB := Lib.hid (on HB.out hb2)
            go_wp2_with fail
            go_ret
            exact ⟨ret_bool (by rw [← HR.out]; simp [oneV, HK.out, HN.out, d1, d2, d3, d4]), HB.out⟩

set_option maxRecDepth 100000 in
set_option maxHeartbeats 4000000 in
theorem rone_4 (h : Hd) (A : Option Addr) (n c : Nat) (F : Fo) (hk : h.k = 4) (r : Bool) (hr : oneV (h, F) = r) (w : World) (hz : KidsR w A n F) : Calls Tryz.prog 22 #[.agg #[.int .i64 h.k, .int .i64 h.op, .int .i64 h.vk, .int .i64 h.vn, .string h.vt, .int .i64 h.ar, .int .i64 h.ac, .bool h.ah, .bool h.al, .int .i64 h.br, .int .i64 h.bc, .bool h.bh, .bool h.bl, .slice A n c]] w fun e w' => e = .returned (.bool r) ∧ Below w.heap.size w w' := by
  have HR := Lib.hid hr
  have HZ := Lib.hid hz
  have HN := Lib.hid hz.1.1
  have hn : n ≤ 9223372036854775807 := by have := hz.1.2; unfold maxLen at this; omega
  have qV := run_eqV h.vk h.vn h.vt 0 0 ⟨#[]⟩ (zV h) rfl
  have qA := run_eqF h.ar h.ac h.ah h.al 0 0 false false (zA h) rfl
  have qB := run_eqF h.br h.bc h.bh h.bl 0 0 false false (zB h) rfl
  have HK := Lib.hid hk
  clear hz hr hk
  go_enter Tryz.func22, Tryz.ntmps22
  go_upto_region 2 with fail
  go_cut [4] from 8 to 23 (fun s wx => s = .bool (bareB h) ∧ wx = (w.alloc (.cells #[.int .i64 h.k, .int .i64 h.op, .int .i64 h.vk, .int .i64 h.vn, .string h.vt, .int .i64 h.ar, .int .i64 h.ac, .bool h.ah, .bool h.al, .int .i64 h.br, .int .i64 h.bc, .bool h.bh, .bool h.bl, .slice A n c] 28)).alloc (.cells #[.int .i64 0, .int .i64 0, .bool false, .bool false] 25))
  case first =>
    cases d1 : zV h with
    | false =>
      rw [d1] at qV
      go_wp2_with fail
      go_meet
      exact ⟨by unfold bareB; rw [d1]; rfl, rfl⟩
    | true =>
      cases d2 : zA h with
      | false =>
        rw [d1] at qV
        rw [d2] at qA
        go_wp2_with fail
        go_meet
        exact ⟨by unfold bareB; rw [d1, d2]; rfl, rfl⟩
      | true =>
        rw [d1] at qV
        rw [d2] at qA
        go_wp2_with fail
        go_meet
        exact ⟨by unfold bareB; rw [d1, d2]; rfl, rfl⟩
  case rest =>
    obtain ⟨rfl, rfl⟩ := hcut
    have HX := Lib.hid ((CellsAt.new w [.int .i64 h.k, .int .i64 h.op, .int .i64 h.vk, .int .i64 h.vn, .string h.vt, .int .i64 h.ar, .int .i64 h.ac, .bool h.ah, .bool h.al, .int .i64 h.br, .int .i64 h.bc, .bool h.bh, .bool h.bl, .slice A n c] 28).on_alloc (.cells #[.int .i64 0, .int .i64 0, .bool false, .bool false] 25))
    have HB := Lib.hid (below2 w (.cells #[.int .i64 h.k, .int .i64 h.op, .int .i64 h.vk, .int .i64 h.vn, .string h.vt, .int .i64 h.ar, .int .i64 h.ac, .bool h.ah, .bool h.al, .int .i64 h.br, .int .i64 h.bc, .bool h.bh, .bool h.bl, .slice A n c] 28) (.cells #[.int .i64 0, .int .i64 0, .bool false, .bool false] 25))
    have k1 : (h.k == 1) = false := by rw [HK.out]; rfl
    have k2 : (h.k == 2) = false := by rw [HK.out]; rfl
    have k3 : (h.k == 3) = false := by rw [HK.out]; rfl
    have k4 : (h.k == 4) = true := by rw [HK.out]; rfl
    cases d1 : (h.op == 0) with
    | false =>
      go_wp2_with fail
      go_ret
      exact ⟨ret_bool (by rw [← HR.out]; simp [oneV, HK.out, HN.out, d1]), HB.out⟩
    | true =>
      cases d2 : zV h with
      | false =>
        rw [d2] at qV
        go_wp2_with fail
        go_ret
        exact ⟨ret_bool (by rw [← HR.out]; simp [oneV, HK.out, HN.out, d1, d2]), HB.out⟩
      | true =>
        rw [d2] at qV
        cases d3 : ((n : Int) == 0) with
        | false =>
          go_wp2_with fail
          go_ret
          exact ⟨ret_bool (by rw [← HR.out]; simp [oneV, HK.out, HN.out, d1, d2, d3]), HB.out⟩
        | true =>
          cases d4 : Addr.mayB h.ar h.ac with
          | false =>
            go_wp2_with fail
            refine (rref_c h.ar h.ac h.ah h.al _ d4 _).mono ?_
            rintro e w2 ⟨rfl, hb2⟩
            replace HB := Lib.hid (on HB.out hb2)
            go_wp2_with fail
            go_ret
            exact ⟨ret_bool (by rw [← HR.out]; simp [oneV, HK.out, HN.out, d1, d2, d3, d4]), HB.out⟩
          | true =>
            go_wp2_with fail
            refine (rref_c h.ar h.ac h.ah h.al _ d4 _).mono ?_
            rintro e w2 ⟨rfl, hb2⟩
            replace HB := Lib.hid (on HB.out hb2)
            have x9 := ((HX.out.on hb2).2 9 _ rfl).1
            have x10 := ((HX.out.on hb2).2 10 _ rfl).1
            have x11 := ((HX.out.on hb2).2 11 _ rfl).1
            have x12 := ((HX.out.on hb2).2 12 _ rfl).1
            have x13 := ((HX.out.on hb2).2 13 _ rfl).1
            go_wp2_with fail
            refine (rref_c h.br h.bc h.bh h.bl _ rfl _).mono ?_
            rintro e w2 ⟨rfl, hb2⟩
            replace HB := Lib.hid (on HB.out hb2)
            go_wp2_with fail
            go_ret
            exact ⟨ret_bool (by rw [← HR.out]; simp [oneV, HK.out, HN.out, d1, d2, d3, d4]), HB.out⟩

set_option maxRecDepth 100000 in
set_option maxHeartbeats 4000000 in
theorem rone_5 (h : Hd) (A : Option Addr) (n c : Nat) (F : Fo) (hk : h.k = 5) (hs : ∀ x ∈ tops F, x.1.vt.size ≤ 9223372036854775807) (r : Bool) (hr : oneV (h, F) = r) (w : World) (hz : KidsR w A n F) : Calls Tryz.prog 22 #[.agg #[.int .i64 h.k, .int .i64 h.op, .int .i64 h.vk, .int .i64 h.vn, .string h.vt, .int .i64 h.ar, .int .i64 h.ac, .bool h.ah, .bool h.al, .int .i64 h.br, .int .i64 h.bc, .bool h.bh, .bool h.bl, .slice A n c]] w fun e w' => e = .returned (.bool r) ∧ Below w.heap.size w w' := by
  have HR := Lib.hid hr
  have HZ := Lib.hid hz
  have HN := Lib.hid hz.1.1
  have hn : n ≤ 9223372036854775807 := by have := hz.1.2; unfold maxLen at this; omega
  have qV := run_eqV h.vk h.vn h.vt 0 0 ⟨#[]⟩ (zV h) rfl
  have qA := run_eqF h.ar h.ac h.ah h.al 0 0 false false (zA h) rfl
  have qB := run_eqF h.br h.bc h.bh h.bl 0 0 false false (zB h) rfl
  have HK := Lib.hid hk
  clear hz hr hk
  go_enter Tryz.func22, Tryz.ntmps22
  go_upto_region 2 with fail
  go_cut [4] from 8 to 23 (fun s wx => s = .bool (bareB h) ∧ wx = (w.alloc (.cells #[.int .i64 h.k, .int .i64 h.op, .int .i64 h.vk, .int .i64 h.vn, .string h.vt, .int .i64 h.ar, .int .i64 h.ac, .bool h.ah, .bool h.al, .int .i64 h.br, .int .i64 h.bc, .bool h.bh, .bool h.bl, .slice A n c] 28)).alloc (.cells #[.int .i64 0, .int .i64 0, .bool false, .bool false] 25))
  case first =>
    cases d1 : zV h with
    | false =>
      rw [d1] at qV
      go_wp2_with fail
      go_meet
      exact ⟨by unfold bareB; rw [d1]; rfl, rfl⟩
    | true =>
      cases d2 : zA h with
      | false =>
        rw [d1] at qV
        rw [d2] at qA
        go_wp2_with fail
        go_meet
        exact ⟨by unfold bareB; rw [d1, d2]; rfl, rfl⟩
      | true =>
        rw [d1] at qV
        rw [d2] at qA
        go_wp2_with fail
        go_meet
        exact ⟨by unfold bareB; rw [d1, d2]; rfl, rfl⟩
  case rest =>
    obtain ⟨rfl, rfl⟩ := hcut
    have HS := Lib.hid hs
    have HB := Lib.hid (below2 w (.cells #[.int .i64 h.k, .int .i64 h.op, .int .i64 h.vk, .int .i64 h.vn, .string h.vt, .int .i64 h.ar, .int .i64 h.ac, .bool h.ah, .bool h.al, .int .i64 h.br, .int .i64 h.bc, .bool h.bh, .bool h.bl, .slice A n c] 28) (.cells #[.int .i64 0, .int .i64 0, .bool false, .bool false] 25))
    have k1 : (h.k == 1) = false := by rw [HK.out]; rfl
    have k2 : (h.k == 2) = false := by rw [HK.out]; rfl
    have k3 : (h.k == 3) = false := by rw [HK.out]; rfl
    have k4 : (h.k == 4) = false := by rw [HK.out]; rfl
    have k5 : (h.k == 5) = true := by rw [HK.out]; rfl
    cases d1 : (h.op == 0) with
    | false =>
      go_wp2_with fail
      go_ret
      exact ⟨ret_bool (by rw [← HR.out]; simp [oneV, HK.out, HN.out, d1]), HB.out⟩
    | true =>
      cases d2 : bareB h with
      | false =>
        go_wp2_with fail
        go_ret
        exact ⟨ret_bool (by rw [← HR.out]; simp [oneV, HK.out, HN.out, d1, d2]), HB.out⟩
      | true =>
        cases d3 : ((n : Int) == 1) with
        | false =>
          go_wp2_with fail
          go_ret
          exact ⟨ret_bool (by rw [← HR.out]; simp [oneV, HK.out, HN.out, d1, d2, d3]), HB.out⟩
        | true =>
          have en : 0 < n := by have := eq_of_beq d3; omega
          obtain ⟨x, hx⟩ := HZ.out.get (show 0 < n by omega)
          obtain ⟨b0, o0, rfl, bl0, hc0, B0, m0, c0, z0, hk0⟩ := HZ.out.at hx
          have xc0 := hc0 0 _ rfl
          simp only [Nat.zero_mul, Nat.add_zero] at xc0
          have xc1 := hc0 1 _ rfl
          simp only [Nat.zero_mul, Nat.add_zero] at xc1
          have xc2 := hc0 2 _ rfl
          simp only [Nat.zero_mul, Nat.add_zero] at xc2
          have xc3 := hc0 3 _ rfl
          simp only [Nat.zero_mul, Nat.add_zero] at xc3
          have xc4 := hc0 4 _ rfl
          simp only [Nat.zero_mul, Nat.add_zero] at xc4
          have xc5 := hc0 5 _ rfl
          simp only [Nat.zero_mul, Nat.add_zero] at xc5
          have xc6 := hc0 6 _ rfl
          simp only [Nat.zero_mul, Nat.add_zero] at xc6
          have xc7 := hc0 7 _ rfl
          simp only [Nat.zero_mul, Nat.add_zero] at xc7
          have xc8 := hc0 8 _ rfl
          simp only [Nat.zero_mul, Nat.add_zero] at xc8
          have xc9 := hc0 9 _ rfl
          simp only [Nat.zero_mul, Nat.add_zero] at xc9
          have xc10 := hc0 10 _ rfl
          simp only [Nat.zero_mul, Nat.add_zero] at xc10
          have xc11 := hc0 11 _ rfl
          simp only [Nat.zero_mul, Nat.add_zero] at xc11
          have xc12 := hc0 12 _ rfl
          simp only [Nat.zero_mul, Nat.add_zero] at xc12
          have xc13 := z0
          simp only [Nat.zero_mul, Nat.add_zero] at xc13
          have HE : Hid (argsB (fun _ => 118) (tops F) = argV 118 x.1) := Lib.hid (argsB_one (kd := fun _ => 118) hx (by have := HN.out; have := eq_of_beq d3; unfold arity at *; omega))
          clear hc0 z0
          go_wp2_with fail
          refine (rarg_c 118 x.1 B0 m0 c0 (HS.out x (List.mem_of_getElem? hx)) _ rfl _).mono ?_
          rintro e w2 ⟨rfl, hb2⟩
          replace HB := Lib.hid (on HB.out hb2)
          go_wp2_with fail
          go_ret
          exact ⟨ret_bool (by rw [← HR.out]; simp [oneV, HK.out, HN.out, d1, d2, d3, HE.out]), HB.out⟩

set_option maxRecDepth 100000 in
set_option maxHeartbeats 4000000 in
theorem rone_6 (h : Hd) (A : Option Addr) (n c : Nat) (F : Fo) (hk : h.k = 6) (hs : ∀ x ∈ tops F, x.1.vt.size ≤ 9223372036854775807) (r : Bool) (hr : oneV (h, F) = r) (w : World) (hz : KidsR w A n F) : Calls Tryz.prog 22 #[.agg #[.int .i64 h.k, .int .i64 h.op, .int .i64 h.vk, .int .i64 h.vn, .string h.vt, .int .i64 h.ar, .int .i64 h.ac, .bool h.ah, .bool h.al, .int .i64 h.br, .int .i64 h.bc, .bool h.bh, .bool h.bl, .slice A n c]] w fun e w' => e = .returned (.bool r) ∧ Below w.heap.size w w' := by
  have HR := Lib.hid hr
  have HZ := Lib.hid hz
  have HN := Lib.hid hz.1.1
  have hn : n ≤ 9223372036854775807 := by have := hz.1.2; unfold maxLen at this; omega
  have qV := run_eqV h.vk h.vn h.vt 0 0 ⟨#[]⟩ (zV h) rfl
  have qA := run_eqF h.ar h.ac h.ah h.al 0 0 false false (zA h) rfl
  have qB := run_eqF h.br h.bc h.bh h.bl 0 0 false false (zB h) rfl
  have HK := Lib.hid hk
  clear hz hr hk
  go_enter Tryz.func22, Tryz.ntmps22
  go_upto_region 2 with fail
  go_cut [4] from 8 to 23 (fun s wx => s = .bool (bareB h) ∧ wx = (w.alloc (.cells #[.int .i64 h.k, .int .i64 h.op, .int .i64 h.vk, .int .i64 h.vn, .string h.vt, .int .i64 h.ar, .int .i64 h.ac, .bool h.ah, .bool h.al, .int .i64 h.br, .int .i64 h.bc, .bool h.bh, .bool h.bl, .slice A n c] 28)).alloc (.cells #[.int .i64 0, .int .i64 0, .bool false, .bool false] 25))
  case first =>
    cases d1 : zV h with
    | false =>
      rw [d1] at qV
      go_wp2_with fail
      go_meet
      exact ⟨by unfold bareB; rw [d1]; rfl, rfl⟩
    | true =>
      cases d2 : zA h with
      | false =>
        rw [d1] at qV
        rw [d2] at qA
        go_wp2_with fail
        go_meet
        exact ⟨by unfold bareB; rw [d1, d2]; rfl, rfl⟩
      | true =>
        rw [d1] at qV
        rw [d2] at qA
        go_wp2_with fail
        go_meet
        exact ⟨by unfold bareB; rw [d1, d2]; rfl, rfl⟩
  case rest =>
    obtain ⟨rfl, rfl⟩ := hcut
    have HS := Lib.hid hs
    have HX := Lib.hid ((CellsAt.new w [.int .i64 h.k, .int .i64 h.op, .int .i64 h.vk, .int .i64 h.vn, .string h.vt, .int .i64 h.ar, .int .i64 h.ac, .bool h.ah, .bool h.al, .int .i64 h.br, .int .i64 h.bc, .bool h.bh, .bool h.bl, .slice A n c] 28).on_alloc (.cells #[.int .i64 0, .int .i64 0, .bool false, .bool false] 25))
    have HB := Lib.hid (below2 w (.cells #[.int .i64 h.k, .int .i64 h.op, .int .i64 h.vk, .int .i64 h.vn, .string h.vt, .int .i64 h.ar, .int .i64 h.ac, .bool h.ah, .bool h.al, .int .i64 h.br, .int .i64 h.bc, .bool h.bh, .bool h.bl, .slice A n c] 28) (.cells #[.int .i64 0, .int .i64 0, .bool false, .bool false] 25))
    have k1 : (h.k == 1) = false := by rw [HK.out]; rfl
    have k2 : (h.k == 2) = false := by rw [HK.out]; rfl
    have k3 : (h.k == 3) = false := by rw [HK.out]; rfl
    have k4 : (h.k == 4) = false := by rw [HK.out]; rfl
    have k5 : (h.k == 5) = false := by rw [HK.out]; rfl
    have k6 : (h.k == 6) = true := by rw [HK.out]; rfl
    cases d1 : decide (1 ≤ h.op) with
    | false =>
      go_wp2_with fail
      go_ret
      exact ⟨ret_bool (by rw [← HR.out]; simp [oneV, HK.out, HN.out, d1]), HB.out⟩
    | true =>
      cases d2 : decide (h.op ≤ 12) with
      | false =>
        go_wp2_with fail
        go_ret
        exact ⟨ret_bool (by rw [← HR.out]; simp [oneV, HK.out, HN.out, d1, d2]), HB.out⟩
      | true =>
        cases d3 : bareB h with
        | false =>
          go_wp2_with fail
          go_ret
          exact ⟨ret_bool (by rw [← HR.out]; simp [oneV, HK.out, HN.out, d1, d2, d3]), HB.out⟩
        | true =>
          cases d4 : ((n : Int) == 2) with
          | false =>
            go_wp2_with fail
            go_ret
            exact ⟨ret_bool (by rw [← HR.out]; simp [oneV, HK.out, HN.out, d1, d2, d3, d4]), HB.out⟩
          | true =>
            have en : 1 < n := by have := eq_of_beq d4; omega
            obtain ⟨x, hx⟩ := HZ.out.get (show 0 < n by omega)
            obtain ⟨b0, o0, rfl, bl0, hc0, B0, m0, c0, z0, hk0⟩ := HZ.out.at hx
            have xc0 := hc0 0 _ rfl
            simp only [Nat.zero_mul, Nat.add_zero] at xc0
            have xc1 := hc0 1 _ rfl
            simp only [Nat.zero_mul, Nat.add_zero] at xc1
            have xc2 := hc0 2 _ rfl
            simp only [Nat.zero_mul, Nat.add_zero] at xc2
            have xc3 := hc0 3 _ rfl
            simp only [Nat.zero_mul, Nat.add_zero] at xc3
            have xc4 := hc0 4 _ rfl
            simp only [Nat.zero_mul, Nat.add_zero] at xc4
            have xc5 := hc0 5 _ rfl
            simp only [Nat.zero_mul, Nat.add_zero] at xc5
            have xc6 := hc0 6 _ rfl
            simp only [Nat.zero_mul, Nat.add_zero] at xc6
            have xc7 := hc0 7 _ rfl
            simp only [Nat.zero_mul, Nat.add_zero] at xc7
            have xc8 := hc0 8 _ rfl
            simp only [Nat.zero_mul, Nat.add_zero] at xc8
            have xc9 := hc0 9 _ rfl
            simp only [Nat.zero_mul, Nat.add_zero] at xc9
            have xc10 := hc0 10 _ rfl
            simp only [Nat.zero_mul, Nat.add_zero] at xc10
            have xc11 := hc0 11 _ rfl
            simp only [Nat.zero_mul, Nat.add_zero] at xc11
            have xc12 := hc0 12 _ rfl
            simp only [Nat.zero_mul, Nat.add_zero] at xc12
            have xc13 := z0
            simp only [Nat.zero_mul, Nat.add_zero] at xc13
            obtain ⟨y, hy⟩ := HZ.out.get (show 1 < n by omega)
            obtain ⟨b1, o1, e1, bl1, hc1, B1, m1, c1, z1, hk1⟩ := HZ.out.at hy
            simp only [Option.some.injEq, Addr.mk.injEq, and_true] at e1
            obtain ⟨rfl, rfl⟩ := e1
            clear hc0 z0
            cases d5 : argV 118 x.1 with
            | false =>
              have HE : Hid (argsB (fun _ => 118) (tops F) = false) := Lib.hid (argsB_no (kd := fun _ => 118) hx d5)
              go_wp2_with fail
              refine (rarg_c 118 x.1 B0 m0 c0 (HS.out x (List.mem_of_getElem? hx)) _ d5 _).mono ?_
              rintro e w2 ⟨rfl, hb2⟩
              replace HB := Lib.hid (on HB.out hb2)
              go_wp2_with fail
              go_ret
              exact ⟨ret_bool (by rw [← HR.out]; simp [oneV, HK.out, HN.out, d1, d2, d3, d4, HE.out]), HB.out⟩
            | true =>
              have HE : Hid (argsB (fun _ => 118) (tops F) = argV 118 y.1) := Lib.hid (by rw [argsB_two (kd := fun _ => 118) hx hy (by have := HN.out; have := eq_of_beq d4; unfold arity at *; omega), d5]; rfl)
              go_wp2_with fail
              refine (rarg_c 118 x.1 B0 m0 c0 (HS.out x (List.mem_of_getElem? hx)) _ d5 _).mono ?_
              rintro e w2 ⟨rfl, hb2⟩
              replace HB := Lib.hid (on HB.out hb2)
              have yc0 := kept HB.out (hc1 0 _ rfl)
              simp only [Nat.one_mul, Nat.add_zero] at yc0
              have yc1 := kept HB.out (hc1 1 _ rfl)
              simp only [Nat.one_mul] at yc1
              have yc2 := kept HB.out (hc1 2 _ rfl)
              simp only [Nat.one_mul] at yc2
              have yc3 := kept HB.out (hc1 3 _ rfl)
              simp only [Nat.one_mul] at yc3
              have yc4 := kept HB.out (hc1 4 _ rfl)
              simp only [Nat.one_mul] at yc4
              have yc5 := kept HB.out (hc1 5 _ rfl)
              simp only [Nat.one_mul] at yc5
              have yc6 := kept HB.out (hc1 6 _ rfl)
              simp only [Nat.one_mul] at yc6
              have yc7 := kept HB.out (hc1 7 _ rfl)
              simp only [Nat.one_mul] at yc7
              have yc8 := kept HB.out (hc1 8 _ rfl)
              simp only [Nat.one_mul] at yc8
              have yc9 := kept HB.out (hc1 9 _ rfl)
              simp only [Nat.one_mul] at yc9
              have yc10 := kept HB.out (hc1 10 _ rfl)
              simp only [Nat.one_mul] at yc10
              have yc11 := kept HB.out (hc1 11 _ rfl)
              simp only [Nat.one_mul] at yc11
              have yc12 := kept HB.out (hc1 12 _ rfl)
              simp only [Nat.one_mul] at yc12
              have yc13 := kept HB.out z1
              simp only [Nat.one_mul] at yc13
              have q13 := ((HX.out.on hb2).2 13 _ rfl).1
              go_wp2_with fail
              refine (rarg_c 118 y.1 B1 m1 c1 (HS.out y (List.mem_of_getElem? hy)) _ rfl _).mono ?_
              rintro e w2 ⟨rfl, hb2⟩
              replace HB := Lib.hid (on HB.out hb2)
              go_wp2_with fail
              go_ret
              exact ⟨ret_bool (by rw [← HR.out]; simp [oneV, HK.out, HN.out, d1, d2, d3, d4, HE.out]), HB.out⟩

set_option maxRecDepth 100000 in
set_option maxHeartbeats 4000000 in
theorem rone_7 (h : Hd) (A : Option Addr) (n c : Nat) (F : Fo) (hk : h.k = 7) (hs : ∀ x ∈ tops F, x.1.vt.size ≤ 9223372036854775807) (r : Bool) (hr : oneV (h, F) = r) (w : World) (hz : KidsR w A n F) : Calls Tryz.prog 22 #[.agg #[.int .i64 h.k, .int .i64 h.op, .int .i64 h.vk, .int .i64 h.vn, .string h.vt, .int .i64 h.ar, .int .i64 h.ac, .bool h.ah, .bool h.al, .int .i64 h.br, .int .i64 h.bc, .bool h.bh, .bool h.bl, .slice A n c]] w fun e w' => e = .returned (.bool r) ∧ Below w.heap.size w w' := by
  have HR := Lib.hid hr
  have HZ := Lib.hid hz
  have HN := Lib.hid hz.1.1
  have hn : n ≤ 9223372036854775807 := by have := hz.1.2; unfold maxLen at this; omega
  have qV := run_eqV h.vk h.vn h.vt 0 0 ⟨#[]⟩ (zV h) rfl
  have qA := run_eqF h.ar h.ac h.ah h.al 0 0 false false (zA h) rfl
  have qB := run_eqF h.br h.bc h.bh h.bl 0 0 false false (zB h) rfl
  have HK := Lib.hid hk
  clear hz hr hk
  go_enter Tryz.func22, Tryz.ntmps22
  go_upto_region 2 with fail
  go_cut [4] from 8 to 23 (fun s wx => s = .bool (bareB h) ∧ wx = (w.alloc (.cells #[.int .i64 h.k, .int .i64 h.op, .int .i64 h.vk, .int .i64 h.vn, .string h.vt, .int .i64 h.ar, .int .i64 h.ac, .bool h.ah, .bool h.al, .int .i64 h.br, .int .i64 h.bc, .bool h.bh, .bool h.bl, .slice A n c] 28)).alloc (.cells #[.int .i64 0, .int .i64 0, .bool false, .bool false] 25))
  case first =>
    cases d1 : zV h with
    | false =>
      rw [d1] at qV
      go_wp2_with fail
      go_meet
      exact ⟨by unfold bareB; rw [d1]; rfl, rfl⟩
    | true =>
      cases d2 : zA h with
      | false =>
        rw [d1] at qV
        rw [d2] at qA
        go_wp2_with fail
        go_meet
        exact ⟨by unfold bareB; rw [d1, d2]; rfl, rfl⟩
      | true =>
        rw [d1] at qV
        rw [d2] at qA
        go_wp2_with fail
        go_meet
        exact ⟨by unfold bareB; rw [d1, d2]; rfl, rfl⟩
  case rest =>
    obtain ⟨rfl, rfl⟩ := hcut
    have HS := Lib.hid hs
    have HX := Lib.hid ((CellsAt.new w [.int .i64 h.k, .int .i64 h.op, .int .i64 h.vk, .int .i64 h.vn, .string h.vt, .int .i64 h.ar, .int .i64 h.ac, .bool h.ah, .bool h.al, .int .i64 h.br, .int .i64 h.bc, .bool h.bh, .bool h.bl, .slice A n c] 28).on_alloc (.cells #[.int .i64 0, .int .i64 0, .bool false, .bool false] 25))
    have HB := Lib.hid (below2 w (.cells #[.int .i64 h.k, .int .i64 h.op, .int .i64 h.vk, .int .i64 h.vn, .string h.vt, .int .i64 h.ar, .int .i64 h.ac, .bool h.ah, .bool h.al, .int .i64 h.br, .int .i64 h.bc, .bool h.bh, .bool h.bl, .slice A n c] 28) (.cells #[.int .i64 0, .int .i64 0, .bool false, .bool false] 25))
    have k1 : (h.k == 1) = false := by rw [HK.out]; rfl
    have k2 : (h.k == 2) = false := by rw [HK.out]; rfl
    have k3 : (h.k == 3) = false := by rw [HK.out]; rfl
    have k4 : (h.k == 4) = false := by rw [HK.out]; rfl
    have k5 : (h.k == 5) = false := by rw [HK.out]; rfl
    have k6 : (h.k == 6) = false := by rw [HK.out]; rfl
    have k7 : (h.k == 7) = true := by rw [HK.out]; rfl
    cases d1 : bareB h with
    | false =>
      go_wp2_with fail
      go_ret
      exact ⟨ret_bool (by rw [← HR.out]; simp [oneV, HK.out, HN.out, d1]), HB.out⟩
    | true =>
      cases d2 : Fnm.fitsF h.op (n : Int) with
      | false =>
        go_wp2_with fail
        refine (Fnm.rfits_c h.op (n : Int) _ d2 _).mono ?_
        rintro e w2 ⟨rfl, hb2⟩
        replace HB := Lib.hid (on HB.out hb2)
        go_wp2_with fail
        go_ret
        exact ⟨ret_bool (by rw [← HR.out]; simp [oneV, HK.out, HN.out, d1, d2]), HB.out⟩
      | true =>
        go_wp2_with fail
        refine (Fnm.rfits_c h.op (n : Int) _ d2 _).mono ?_
        rintro e w2 ⟨rfl, hb2⟩
        replace HB := Lib.hid (on HB.out hb2)
        have HX2 := Lib.hid (HX.out.on hb2)
        have hw2 := (HX2.out).1
        clear hb2
        go_wp2_with fail
        go_loopw [6] (fun x wr => ∃ i : Nat, i ≤ n ∧ x = .int .i64 i ∧ Hid (∀ (j : Nat) (y : Nd), j < i → (tops F)[j]? = some y → argV (Fnm.kindF h.op (j : Int)) y.1 = true) ∧ Below w2.heap.size w2 wr) (fun x _ => n - (intOf x).toNat)
        case atStart => exact ⟨0, Nat.zero_le _, rfl, Lib.hid (fun j y hj => absurd hj (Nat.not_lt_zero j)), Below.refl _ _⟩
        case round =>
          obtain ⟨i, hi, rfl, HA, hbr⟩ := hrel
          have q1 := (HX2.out.on hbr).2 1 _ rfl |>.1
          have q13 := (HX2.out.on hbr).2 13 _ rfl |>.1
          by_cases hlt : i < n
          · obtain ⟨x, hx⟩ := HZ.out.get hlt
            obtain ⟨b, o, rfl, hblt, hcell, B, m2, c2, y13, hk⟩ := (HZ.out.on (on HB.out hbr)).at hx
            have y0 : wr.cell? ⟨b, o + i * 14, none⟩ = some (.int .i64 x.1.k) := hcell 0 _ rfl
            have y1 := hcell 1 _ rfl
            have y2 := hcell 2 _ rfl
            have y3 := hcell 3 _ rfl
            have y4 := hcell 4 _ rfl
            have y5 := hcell 5 _ rfl
            have y6 := hcell 6 _ rfl
            have y7 := hcell 7 _ rfl
            have y8 := hcell 8 _ rfl
            have y9 := hcell 9 _ rfl
            have y10 := hcell 10 _ rfl
            have y11 := hcell 11 _ rfl
            have y12 := hcell 12 _ rfl
            have HXX := Lib.hid hx
            have QX := fun d os => cell_regrown q1 d os
            have QL := fun d os => cell_regrown q13 d os
            have Q0 := fun d os => cell_regrown y0 d os
            have Q1 := fun d os => cell_regrown y1 d os
            have Q2 := fun d os => cell_regrown y2 d os
            have Q3 := fun d os => cell_regrown y3 d os
            have Q4 := fun d os => cell_regrown y4 d os
            have Q5 := fun d os => cell_regrown y5 d os
            have Q6 := fun d os => cell_regrown y6 d os
            have Q7 := fun d os => cell_regrown y7 d os
            have Q8 := fun d os => cell_regrown y8 d os
            have Q9 := fun d os => cell_regrown y9 d os
            have Q10 := fun d os => cell_regrown y10 d os
            have Q11 := fun d os => cell_regrown y11 d os
            have Q12 := fun d os => cell_regrown y12 d os
            have Q13 := fun d os => cell_regrown y13 d os
            clear hcell hk
            cases hv : argV (Fnm.kindF h.op (i : Int)) x.1 with
            | true =>
              have HC := Lib.hid (fun w1 => rarg_c (Fnm.kindF h.op (i : Int)) x.1 B m2 c2 (HS.out x (List.mem_of_getElem? hx)) true hv w1)
              have HN2 : Hid (∀ (j : Nat) (y : Nd), j < i + 1 → (tops F)[j]? = some y → argV (Fnm.kindF h.op (j : Int)) y.1 = true) := Lib.hid fun j y hj hy => by
                by_cases e : j = i
                · subst e
                  rw [HXX.out] at hy
                  cases hy
                  exact hv
                · exact HA.out j y (by omega) hy
              clear hx hv
              go_wp2_with fail
              refine wp_region_mem 11 (fun d => match d with
                  | 233 => some (Is (.int .u8 ((Fnm.kindF h.op (i : Int)).toNat : Int)))
                  | 239 => some (Is (.bool true))
                  | _ => none) (by kernel_rfl) (by kernel_rfl) ?_
              simp only [List.take_succ_cons, List.take_zero, List.drop_succ_cons, List.drop_zero]
              repeat (first | ((with_reducible refine wpM_calm ?_ ?_ ?_ ?_); exact rfl; exact rfl; exact rfl; intro K hK; go_big_quiet_op; go_big_quiet_on) | ((with_reducible refine wpM_skip ?_ ?_); exact rfl; simp only [Act.put, List.setIfInBounds_toArray, List.set_cons_succ, List.set_cons_zero]))
              refine wpM_exact rfl rfl rfl Tryz.func35 (by kernel_rfl) (by kernel_rfl) (fun w1 _ _ => Fnm.rkind_c h.op (i : Int) _ rfl w1) rfl (by simp only [Act.put, List.setIfInBounds_toArray, List.set_cons_succ, List.set_cons_zero]; rfl) ?_
              repeat (first | ((with_reducible refine wpM_calm ?_ ?_ ?_ ?_); exact rfl; exact rfl; exact rfl; intro K hK; go_big_quiet_op; go_big_quiet_on) | ((with_reducible refine wpM_skip ?_ ?_); exact rfl; simp only [Act.put, List.setIfInBounds_toArray, List.set_cons_succ, List.set_cons_zero]))
              refine wpM_exact rfl rfl rfl Tryz.func33 (by kernel_rfl) (by kernel_rfl) (fun w1 _ _ => HC.out w1) rfl (by simp only [Act.put, List.setIfInBounds_toArray, List.set_cons_succ, List.set_cons_zero]; rfl) ?_
              repeat (first | ((with_reducible refine wpM_calm ?_ ?_ ?_ ?_); exact rfl; exact rfl; exact rfl; intro K hK; go_big_quiet_op; go_big_quiet_on) | ((with_reducible refine wpM_skip ?_ ?_); exact rfl; simp only [Act.put, List.setIfInBounds_toArray, List.set_cons_succ, List.set_cons_zero]))
              refine wpM_nil ?_
              intro w9 hw9 _
              replace hbr := on hbr hw9
              clear hw9 HC QX QL y0 y1 y2 y3 y4 y5 y6 y7 y8 y9 y10 y11 y12 y13 Q0 Q1 Q2 Q3 Q4 Q5 Q6 Q7 Q8 Q9 Q10 Q11 Q12 Q13
              go_wp2_with fail
              go_roundw
              case rel => exact ⟨i + 1, by omega, by go_num, HN2, hbr⟩
              case measure => simp [intOf]; omega
            | false =>
              have HC := Lib.hid (fun w1 => rarg_c (Fnm.kindF h.op (i : Int)) x.1 B m2 c2 (HS.out x (List.mem_of_getElem? hx)) false hv w1)
              have HE : Hid (argsB (fun i => Fnm.kindF h.op (i : Int)) (tops F) = false) := Lib.hid (argsB_no (kd := fun i => Fnm.kindF h.op (i : Int)) hx hv)
              clear hx hv
              go_wp2_with fail
              refine wp_region_mem 11 (fun d => match d with
                  | 233 => some (Is (.int .u8 ((Fnm.kindF h.op (i : Int)).toNat : Int)))
                  | 239 => some (Is (.bool false))
                  | _ => none) (by kernel_rfl) (by kernel_rfl) ?_
              simp only [List.take_succ_cons, List.take_zero, List.drop_succ_cons, List.drop_zero]
              repeat (first | ((with_reducible refine wpM_calm ?_ ?_ ?_ ?_); exact rfl; exact rfl; exact rfl; intro K hK; go_big_quiet_op; go_big_quiet_on) | ((with_reducible refine wpM_skip ?_ ?_); exact rfl; simp only [Act.put, List.setIfInBounds_toArray, List.set_cons_succ, List.set_cons_zero]))
              refine wpM_exact rfl rfl rfl Tryz.func35 (by kernel_rfl) (by kernel_rfl) (fun w1 _ _ => Fnm.rkind_c h.op (i : Int) _ rfl w1) rfl (by simp only [Act.put, List.setIfInBounds_toArray, List.set_cons_succ, List.set_cons_zero]; rfl) ?_
              repeat (first | ((with_reducible refine wpM_calm ?_ ?_ ?_ ?_); exact rfl; exact rfl; exact rfl; intro K hK; go_big_quiet_op; go_big_quiet_on) | ((with_reducible refine wpM_skip ?_ ?_); exact rfl; simp only [Act.put, List.setIfInBounds_toArray, List.set_cons_succ, List.set_cons_zero]))
              refine wpM_exact rfl rfl rfl Tryz.func33 (by kernel_rfl) (by kernel_rfl) (fun w1 _ _ => HC.out w1) rfl (by simp only [Act.put, List.setIfInBounds_toArray, List.set_cons_succ, List.set_cons_zero]; rfl) ?_
              repeat (first | ((with_reducible refine wpM_calm ?_ ?_ ?_ ?_); exact rfl; exact rfl; exact rfl; intro K hK; go_big_quiet_op; go_big_quiet_on) | ((with_reducible refine wpM_skip ?_ ?_); exact rfl; simp only [Act.put, List.setIfInBounds_toArray, List.set_cons_succ, List.set_cons_zero]))
              refine wpM_nil ?_
              intro w9 hw9 _
              replace hbr := on hbr hw9
              clear hw9 HC QX QL y0 y1 y2 y3 y4 y5 y6 y7 y8 y9 y10 y11 y12 y13 Q0 Q1 Q2 Q3 Q4 Q5 Q6 Q7 Q8 Q9 Q10 Q11 Q12 Q13
              go_wp2_with fail
              go_ret
              exact ⟨ret_bool (by rw [← HR.out]; simp [oneV, HK.out, HN.out, d1, d2, HE.out]), on HB.out hbr⟩
          · obtain rfl : n = i := by omega
            have HE : Hid (argsB (fun i => Fnm.kindF h.op (i : Int)) (tops F) = true) := Lib.hid (argsB_yes (kd := fun i => Fnm.kindF h.op (i : Int)) fun j y hy => HA.out j y (by
              have := (List.getElem?_eq_some_iff.1 hy).1
              have := HN.out
              unfold arity at this
              omega) hy)
            go_wp2_with fail
            go_ret
            exact ⟨ret_bool (by rw [← HR.out]; simp [oneV, HK.out, HN.out, d1, d2, HE.out]), on HB.out hbr⟩

set_option maxRecDepth 100000 in
set_option maxHeartbeats 4000000 in
theorem rone_0 (h : Hd) (A : Option Addr) (n c : Nat) (F : Fo) (hk : h.k ≠ 1 ∧ h.k ≠ 2 ∧ h.k ≠ 3 ∧ h.k ≠ 4 ∧ h.k ≠ 5 ∧ h.k ≠ 6 ∧ h.k ≠ 7) (r : Bool) (hr : oneV (h, F) = r) (w : World) (hz : KidsR w A n F) : Calls Tryz.prog 22 #[.agg #[.int .i64 h.k, .int .i64 h.op, .int .i64 h.vk, .int .i64 h.vn, .string h.vt, .int .i64 h.ar, .int .i64 h.ac, .bool h.ah, .bool h.al, .int .i64 h.br, .int .i64 h.bc, .bool h.bh, .bool h.bl, .slice A n c]] w fun e w' => e = .returned (.bool r) ∧ Below w.heap.size w w' := by
  have HR := Lib.hid hr
  have HZ := Lib.hid hz
  have HN := Lib.hid hz.1.1
  have hn : n ≤ 9223372036854775807 := by have := hz.1.2; unfold maxLen at this; omega
  have qV := run_eqV h.vk h.vn h.vt 0 0 ⟨#[]⟩ (zV h) rfl
  have qA := run_eqF h.ar h.ac h.ah h.al 0 0 false false (zA h) rfl
  have qB := run_eqF h.br h.bc h.bh h.bl 0 0 false false (zB h) rfl
  have HK := Lib.hid hk
  clear hz hr hk
  go_enter Tryz.func22, Tryz.ntmps22
  go_upto_region 2 with fail
  go_cut [4] from 8 to 23 (fun s wx => s = .bool (bareB h) ∧ wx = (w.alloc (.cells #[.int .i64 h.k, .int .i64 h.op, .int .i64 h.vk, .int .i64 h.vn, .string h.vt, .int .i64 h.ar, .int .i64 h.ac, .bool h.ah, .bool h.al, .int .i64 h.br, .int .i64 h.bc, .bool h.bh, .bool h.bl, .slice A n c] 28)).alloc (.cells #[.int .i64 0, .int .i64 0, .bool false, .bool false] 25))
  case first =>
    cases d1 : zV h with
    | false =>
      rw [d1] at qV
      go_wp2_with fail
      go_meet
      exact ⟨by unfold bareB; rw [d1]; rfl, rfl⟩
    | true =>
      cases d2 : zA h with
      | false =>
        rw [d1] at qV
        rw [d2] at qA
        go_wp2_with fail
        go_meet
        exact ⟨by unfold bareB; rw [d1, d2]; rfl, rfl⟩
      | true =>
        rw [d1] at qV
        rw [d2] at qA
        go_wp2_with fail
        go_meet
        exact ⟨by unfold bareB; rw [d1, d2]; rfl, rfl⟩
  case rest =>
    obtain ⟨rfl, rfl⟩ := hcut
    have HB := Lib.hid (below2 w (.cells #[.int .i64 h.k, .int .i64 h.op, .int .i64 h.vk, .int .i64 h.vn, .string h.vt, .int .i64 h.ar, .int .i64 h.ac, .bool h.ah, .bool h.al, .int .i64 h.br, .int .i64 h.bc, .bool h.bh, .bool h.bl, .slice A n c] 28) (.cells #[.int .i64 0, .int .i64 0, .bool false, .bool false] 25))
    have k1 : (h.k == 1) = false := beq_eq_false_iff_ne.2 HK.out.1
    have k2 : (h.k == 2) = false := beq_eq_false_iff_ne.2 HK.out.2.1
    have k3 : (h.k == 3) = false := beq_eq_false_iff_ne.2 HK.out.2.2.1
    have k4 : (h.k == 4) = false := beq_eq_false_iff_ne.2 HK.out.2.2.2.1
    have k5 : (h.k == 5) = false := beq_eq_false_iff_ne.2 HK.out.2.2.2.2.1
    have k6 : (h.k == 6) = false := beq_eq_false_iff_ne.2 HK.out.2.2.2.2.2.1
    have k7 : (h.k == 7) = false := beq_eq_false_iff_ne.2 HK.out.2.2.2.2.2.2
    go_wp2_with fail
    go_ret
    exact ⟨ret_bool (by rw [← HR.out]; simp [oneV, HK.out.1, HK.out.2.1, HK.out.2.2.1, HK.out.2.2.2.1, HK.out.2.2.2.2.1, HK.out.2.2.2.2.2.1, HK.out.2.2.2.2.2.2]), HB.out⟩

/-- no text is too long -/
def OkH (x : Nd) : Prop := x.1.vt.size ≤ 140737488351232 ∧ ∀ y ∈ tops x.2, y.1.vt.size ≤ 140737488351232
theorem rone_c : OneHyp oneV OkH := by
  intro h A n c F w hok hz
  have hs : h.vt.size ≤ 9223372036854775807 := Nat.le_trans hok.1 (by decide)
  have hs2 : ∀ x ∈ tops F, x.1.vt.size ≤ 9223372036854775807 := fun x hx => Nat.le_trans (hok.2 x hx) (by decide)
  by_cases h1 : h.k = 1
  · exact rone_1 h A n c F h1 hs _ rfl w hz
  by_cases h2 : h.k = 2
  · exact rone_2 h A n c F h2 _ rfl w hz
  by_cases h3 : h.k = 3
  · exact rone_3 h A n c F h3 _ rfl w hz
  by_cases h4 : h.k = 4
  · exact rone_4 h A n c F h4 _ rfl w hz
  by_cases h5 : h.k = 5
  · exact rone_5 h A n c F h5 hs2 _ rfl w hz
  by_cases h6 : h.k = 6
  · exact rone_6 h A n c F h6 hs2 _ rfl w hz
  by_cases h7 : h.k = 7
  · exact rone_7 h A n c F h7 hs2 _ rfl w hz
  exact rone_0 h A n c F ⟨h1, h2, h3, h4, h5, h6, h7⟩ _ rfl w hz
end Go.Proofs.YtcgpggknmhlnkaaGreatDoor.Nod
