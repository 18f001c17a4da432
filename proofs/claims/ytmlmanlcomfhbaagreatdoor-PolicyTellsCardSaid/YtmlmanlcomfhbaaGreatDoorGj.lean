/- What the reference's small functions on names and users answer: for every text, and every slice that reads as users.
   What the reference's Name answers: for every text.
   The first user that is wrong, and why: what the reference's Users answers.
   The first grant that is wrong, and why: what the reference's Grants answers.
   Rows of one's own: behind calls, behind appends; and 'append' of what came in, nil too. No function of the program is named here.
   Rows of one's own that hold grants, and texts.
   What the program's functions on users and grants have to answer, as hypotheses of the laws' walks; and plain facts on that. -/
import Derived.Laws.OwnMore
import Derived.Maps.AppendAt
import Derived.Deep.Onto
import Derived.Laws.AppendOwnNone
import Derived.Test.YtmlmanlcomfhbaaGreatDoorGa
namespace Go.Proofs.YtmlmanlcomfhbaaGreatDoor.Right
open Go.RowKit Kit Reg Go.Proofs.YtmlmanlcomfhbaaGreatDoor.Lab
open Go.Proofs.YtmlmanlcomfhbaaGreatDoor.Cats (U U_or U_zero)

set_option maxRecDepth 100000 in
set_option maxHeartbeats 1000000 in
theorem rletter_c (b : UInt8) (r : Bool) (hr : letB b = r) (w : World) : Calls Tryz.prog 65 #[.int .u8 b.toNat] w fun e w' => e = .returned (.bool r) ∧ w' = w := by
  have HR := Lib.hid hr
  clear hr
  by_cases h0 : 97 ≤ b.toNat
  · by_cases h1 : b.toNat ≤ 122
    · have d0 : decide (97 ≤ (b.toNat : Int)) = true := by simp; omega
      have d1 : decide ((b.toNat : Int) ≤ 122) = true := by simp; omega
      go_enter Tryz.func65, Tryz.ntmps65
      go_wp2
      go_ret
      exact ⟨ret_bool (by rw [← HR.out]; simp [letB, h0, h1]), rfl⟩
    · have d0 : decide (97 ≤ (b.toNat : Int)) = true := by simp; omega
      have d1 : decide ((b.toNat : Int) ≤ 122) = false := by simp; omega
      go_enter Tryz.func65, Tryz.ntmps65
      go_wp2
      go_ret
      exact ⟨ret_bool (by rw [← HR.out]; simp [letB]; omega), rfl⟩
  · have d0 : decide (97 ≤ (b.toNat : Int)) = false := by simp; omega
    go_enter Tryz.func65, Tryz.ntmps65
    go_wp2
    go_ret
    exact ⟨ret_bool (by rw [← HR.out]; simp [letB]; omega), rfl⟩
set_option maxRecDepth 100000 in
set_option maxHeartbeats 1000000 in
theorem rmay_c (l : Int) (s : Nat) (b : Bool) (hb : mayL l = b) (w : World) : Calls Tryz.prog 41 #[.agg #[.int .i64 l, .int .u64 s]] w fun e w' => e = .returned (.bool b) ∧ Below w.heap.size w w' := by
  have HB := Lib.hid hb
  clear hb
  by_cases h0 : 0 ≤ l
  · by_cases h1 : l ≤ 15
    · go_enter Tryz.func41, Tryz.ntmps41
      go_wp2
      go_ret
      exact ⟨ret_bool (by rw [← HB.out]; simp [mayL, h0, h1]), below1 _ _⟩
    · go_enter Tryz.func41, Tryz.ntmps41
      go_wp2
      go_ret
      exact ⟨ret_bool (by rw [← HB.out]; simp [mayL]; omega), below1 _ _⟩
  · have hd : decide (0 ≤ l) = false := by simpa using h0
    go_enter Tryz.func41, Tryz.ntmps41
    go_wp2
    go_ret
    exact ⟨ret_bool (by rw [← HB.out]; simp [mayL]; omega), below1 _ _⟩
set_option maxRecDepth 100000 in
set_option maxHeartbeats 1000000 in
theorem rfind_c (A : Option Addr) (n cap : Nat) (us : List Us) (t : ByteArray) (p : Int) (hp : findI us t 0 = p) (w : World) (hz : UsersR w A n us) :
    Calls Tryz.prog 42 #[.slice A n cap, .string t] w fun e w' => e = .returned (.int .i64 p) ∧ Below w.heap.size w w' := by
  obtain ⟨hlen, hmax, _, _⟩ := id hz
  have HZ := Lib.hid hz
  have HL := Lib.hid hlen
  have HC := Lib.hid hp
  clear hz hlen hp
  go_enter Tryz.func42, Tryz.ntmps42
  go_wp2
  go_loopw [5] (fun i wr => ∃ k : Nat, k ≤ n ∧ i = .int .i64 k ∧ Hid (findI (us.drop k) t k = p) ∧ Below w.heap.size w wr) (fun i _ => n - (intOf i).toNat)
  case atStart => exact ⟨0, Nat.zero_le _, rfl, HC, Below.refl _ _⟩
  case round =>
    obtain ⟨k, hk, rfl, HK, hb0⟩ := hrel
    by_cases hlt : k < n
    · obtain ⟨z, hzk⟩ : ∃ z, us[k]? = some z := ⟨_, List.getElem?_eq_getElem (by rw [HL.out]; exact hlt)⟩
      obtain ⟨_, _, _, h4⟩ := HZ.out.on hb0
      obtain ⟨b, o, rfl, hblt, hcell⟩ := h4 (by omega)
      obtain ⟨c0, c1, c2⟩ := user_cells (hcell k z hzk)
      have HZk := Lib.hid hzk
      clear h4 hcell hzk
      cases hh : (z.name.toList == t.toList) with
      | false =>
        have HN : Hid (findI (us.drop (k + 1)) t (k + 1) = p) := by rw [← findI_miss HZk.out hh]; exact HK
        go_wp2
        go_roundw
        case rel => exact ⟨k + 1, by omega, by go_num, HN, hb0⟩
        case measure => simp [intOf]; omega
      | true =>
        have HN : (k : Int) = p := by rw [← findI_hit HZk.out hh]; exact HK.out
        subst HN
        go_wp2
        go_ret
        exact ⟨rfl, hb0⟩
    · obtain rfl : k = n := by omega
      have HE := HK.out
      rw [← HL.out, findI_end] at HE
      subst HE
      go_wp2
      go_ret
      exact ⟨rfl, hb0⟩
end Go.Proofs.YtmlmanlcomfhbaaGreatDoor.Right
namespace Go.Proofs.YtmlmanlcomfhbaaGreatDoor.Right
open Go.RowKit Kit Reg Go.Proofs.YtmlmanlcomfhbaaGreatDoor.Lab
open Go.Proofs.YtmlmanlcomfhbaaGreatDoor.Cats (U U_or U_zero)

theorem byte_at (t : ByteArray) (k : Nat) (h : k < t.size) : t.data.toList[k]? = some t[k] := by
  have h2 : k < t.data.toList.length := by simpa using h
  rw [List.getElem?_eq_getElem h2]
  rfl
theorem size_list (t : ByteArray) : t.data.toList.length = t.size := by rw [Array.length_toList]; rfl
theorem nameB_in {t : ByteArray} (h1 : 0 < t.size) (h2 : t.size ≤ 16) : nameB t.data.toList = (letB t[0] && t.data.toList.all wordB) := by
  unfold nameB
  rw [size_list, show t.data.toList.getD 0 0 = t[0] by rw [List.getD, byte_at t 0 h1]; rfl]
  rw [decide_eq_true (show 1 ≤ t.size by omega), decide_eq_true h2]
  simp
set_option maxRecDepth 100000 in
set_option maxHeartbeats 4000000 in
theorem rname_in (t : ByteArray) (h1 : 0 < t.size) (h2 : t.size ≤ 16) (w : World) : Calls Tryz.prog 43 #[.string t] w fun e w' => e = .returned (.bool (letB t[0] && t.data.toList.all wordB)) ∧ w' = w := by
  have d1' : decide ((t.size : Int) < 1) = false := decide_eq_false (by omega)
  have d2 : decide (16 < t.size) = false := decide_eq_false (by omega)
  have d2' : decide (16 < (t.size : Int)) = false := decide_eq_false (by omega)
  cases hl0 : letB t[0] with
  | false =>
    have HL := Lib.hid (fun w1 => rletter_c t[0] false hl0 w1)
    clear hl0
    go_enter Tryz.func43, Tryz.ntmps43
    go_wp2_with fail
    refine (HL.out _).mono ?_
    rintro e w1 ⟨rfl, rfl⟩
    go_wp2
    go_ret
    exact ⟨rfl, rfl⟩
  | true =>
    have HL := Lib.hid (fun w1 => rletter_c t[0] true hl0 w1)
    clear hl0
    obtain ⟨r, hr⟩ : ∃ r, t.data.toList.all wordB = r := ⟨_, rfl⟩
    rw [hr, Bool.true_and]
    have HR := Lib.hid hr
    clear hr
    go_enter Tryz.func43, Tryz.ntmps43
    go_wp2_with fail
    refine (HL.out _).mono ?_
    rintro e w1 ⟨rfl, rfl⟩
    go_wp2
    go_loopw [3] (fun i wr => ∃ k : Nat, k ≤ t.size ∧ i = .int .i64 k ∧ wr = w1 ∧ Hid ((t.data.toList.drop k).all wordB = r)) (fun i _ => t.size - (intOf i).toNat)
    case atStart => exact ⟨0, Nat.zero_le _, rfl, rfl, HR⟩
    case round =>
      obtain ⟨k, hk, rfl, rfl, HK⟩ := hrel
      by_cases hlt : k < t.size
      · have HN : Hid ((wordB t[k] && (t.data.toList.drop (k + 1)).all wordB) = r) := by rw [← all_from (byte_at t k hlt)]; exact HK
        cases hl : letB t[k] with
        | true =>
          have HLk := Lib.hid (fun w1 => rletter_c t[k] true hl w1)
          have HN2 : Hid ((t.data.toList.drop (k + 1)).all wordB = r) := by
            have := HN.out
            rwa [show wordB t[k] = true by simp [wordB, hl], Bool.true_and] at this
          clear hl HN
          go_wp2_with fail
          refine (HLk.out _).mono ?_
          rintro e w2 ⟨rfl, rfl⟩
          go_wp2
          go_roundw
          case rel => exact ⟨k + 1, by omega, by go_num, by first | rfl | trivial, HN2⟩
          case measure => simp [intOf]; omega
        | false =>
          have HLk := Lib.hid (fun w1 => rletter_c t[k] false hl w1)
          by_cases h48 : 48 ≤ t[k].toNat
          · by_cases h57 : t[k].toNat ≤ 57
            · have HN2 : Hid ((t.data.toList.drop (k + 1)).all wordB = r) := by
                have := HN.out
                rwa [show wordB t[k] = true by simp [wordB, digB, h48, h57], Bool.true_and] at this
              have e1 : decide (48 ≤ (t[k].toNat : Int)) = true := by simp; omega
              have e2 : decide ((t[k].toNat : Int) ≤ 57) = true := by simp; omega
              clear hl HN
              go_wp2_with fail
              refine (HLk.out _).mono ?_
              rintro e w2 ⟨rfl, rfl⟩
              go_wp2
              go_roundw
              case rel => exact ⟨k + 1, by omega, by go_num, by first | rfl | trivial, HN2⟩
              case measure => simp [intOf]; omega
            · have HN2 : r = false := by
                have := HN.out
                rw [show wordB t[k] = false by simp only [wordB, digB, hl, Bool.false_or]; simp; omega, Bool.false_and] at this
                exact this.symm
              subst HN2
              have e1 : decide (48 ≤ (t[k].toNat : Int)) = true := by simp; omega
              have e2 : decide ((t[k].toNat : Int) ≤ 57) = false := by simp; omega
              clear hl HN
              go_wp2_with fail
              refine (HLk.out _).mono ?_
              rintro e w2 ⟨rfl, rfl⟩
              go_wp2
              go_ret
              exact ⟨rfl, rfl⟩
          · have HN2 : r = false := by
              have := HN.out
              rw [show wordB t[k] = false by simp only [wordB, digB, hl, Bool.false_or]; simp; omega, Bool.false_and] at this
              exact this.symm
            subst HN2
            have e1 : decide (48 ≤ (t[k].toNat : Int)) = false := by simp; omega
            clear hl HN
            go_wp2_with fail
            refine (HLk.out _).mono ?_
            rintro e w2 ⟨rfl, rfl⟩
            go_wp2
            go_ret
            exact ⟨rfl, rfl⟩
      · obtain rfl : k = t.size := by omega
        have HE := HK.out
        rw [← size_list, List.drop_length] at HE
        obtain rfl : true = r := HE
        go_wp2
        go_ret
        exact ⟨rfl, rfl⟩
set_option maxRecDepth 100000 in
set_option maxHeartbeats 1000000 in
theorem rname_c (t : ByteArray) (r : Bool) (hr : nameB t.data.toList = r) (w : World) : Calls Tryz.prog 43 #[.string t] w fun e w' => e = .returned (.bool r) ∧ w' = w := by
  subst hr
  by_cases h0 : t.size < 1
  · have d1' : decide ((t.size : Int) < 1) = true := decide_eq_true (by omega)
    rw [show nameB t.data.toList = false by unfold nameB; rw [size_list]; simp; omega]
    go_enter Tryz.func43, Tryz.ntmps43
    go_wp2
    go_ret
    exact ⟨rfl, rfl⟩
  · by_cases h1 : 16 < t.size
    · have d1' : decide ((t.size : Int) < 1) = false := decide_eq_false (by omega)
      have d2 : decide (16 < t.size) = true := decide_eq_true (by omega)
      have d2' : decide (16 < (t.size : Int)) = true := decide_eq_true (by omega)
      rw [show nameB t.data.toList = false by unfold nameB; rw [size_list]; simp; omega]
      go_enter Tryz.func43, Tryz.ntmps43
      go_wp2
      go_ret
      exact ⟨rfl, rfl⟩
    · have h2 : 0 < t.size := by omega
      rw [nameB_in h2 (by omega)]
      exact rname_in t h2 (by omega) w
end Go.Proofs.YtmlmanlcomfhbaaGreatDoor.Right
namespace Go.Proofs.YtmlmanlcomfhbaaGreatDoor.Right
open Go.RowKit Kit Reg Go.Proofs.YtmlmanlcomfhbaaGreatDoor.Lab
open Go.Proofs.YtmlmanlcomfhbaaGreatDoor.Cats (U U_or U_zero)

theorem wrongU_hit {us r : List Us} {k : Nat} {u : Us} (h : r[k]? = some u) (hh : whyU k u (findI us u.name 0) ≠ 0) : wrongU us k (r.drop k) = ((k : Int), whyU k u (findI us u.name 0)) := by rw [drop_at h, wrongU, if_neg hh]
theorem wrongU_miss {us r : List Us} {k : Nat} {u : Us} (h : r[k]? = some u) (hh : whyU k u (findI us u.name 0) = 0) : wrongU us k (r.drop k) = wrongU us (k + 1) (r.drop (k + 1)) := by rw [drop_at h, wrongU, if_pos hh]
theorem wrongU_end (us r : List Us) : wrongU us r.length (r.drop r.length) = (0, 0) := by rw [List.drop_length]; rfl
set_option maxRecDepth 100000 in
set_option maxHeartbeats 16000000 in
theorem rusers_c (A : Option Addr) (n cap : Nat) (us : List Us) (p e : Int) (hc : wrongU us 0 us = (p, e)) (w : World) (hz : UsersR w A n us) :
    Calls Tryz.prog 22 #[.slice A n cap] w fun e' w' => e' = .returned (.agg #[.int .i64 p, .int .i64 e]) ∧ Below w.heap.size w w' := by
  obtain ⟨hlen, hmax, _, _⟩ := id hz
  have HZ := Lib.hid hz
  have HL := Lib.hid hlen
  have HC := Lib.hid hc
  clear hz hlen hc
  have hb0 := below1 w (.cells #[.int .i64 0, .int .i64 0] 35)
  have hr := CellsAt.new w [.int .i64 0, .int .i64 0] 35
  go_enter Tryz.func22, Tryz.ntmps22
  go_wp2
  go_loopw [3] (fun i wr => ∃ k : Nat, k ≤ n ∧ i = .int .i64 k ∧ Hid (wrongU us k (us.drop k) = (p, e)) ∧ Below w.heap.size w wr ∧ CellsAt wr w.heap.size [.int .i64 0, .int .i64 0]) (fun i _ => n - (intOf i).toNat)
  case atStart => exact ⟨0, Nat.zero_le _, rfl, HC, hb0, hr⟩
  case round =>
    clear hb0 hr
    obtain ⟨k, hk, rfl, HK, hb0, hr⟩ := hrel
    by_cases hlt : k < n
    · obtain ⟨u, huk⟩ : ∃ u, us[k]? = some u := ⟨_, List.getElem?_eq_getElem (by rw [HL.out]; exact hlt)⟩
      have HZk := Lib.hid (HZ.out.on hb0)
      obtain ⟨_, _, _, h4⟩ := HZk.out
      obtain ⟨bb, o, rfl, hblt, hcell⟩ := h4 (by omega)
      obtain ⟨f, hf⟩ : ∃ f, findI us u.name 0 = f := ⟨_, rfl⟩
      have HK2 : Hid ((whyU k u f = 0 → wrongU us (k + 1) (us.drop (k + 1)) = (p, e)) ∧ (whyU k u f ≠ 0 → (k : Int) = p ∧ whyU k u f = e)) := by
        rw [← hf]
        refine Lib.hid ⟨fun hh => by rw [← wrongU_miss huk hh]; exact HK.out, fun hh => ?_⟩
        have := HK.out
        rw [wrongU_hit huk hh] at this
        simpa using this
      obtain ⟨c0, c1, c2⟩ := user_cells (hcell k u huk)
      have lr := hr.1
      have HF := Lib.hid (fun w1 h => rfind_c (some ⟨bb, o, none⟩) n cap us u.name f hf w1 h)
      have HMm := Lib.hid (fun m hm w1 => rmay_c u.l u.s m hm w1)
      have HNm := Lib.hid (fun r hr w1 => rname_c u.name r hr w1)
      clear h4 hcell huk hf HK
      rcases (show (mayL u.l = true ∧ f = k ∧ nameB u.name.data.toList = true ∧ ¬ 15 < k) ∨ (mayL u.l = true ∧ f = k ∧ nameB u.name.data.toList = true ∧ 15 < k) ∨ (mayL u.l = true ∧ f = k ∧ nameB u.name.data.toList = false ∧ ¬ 15 < k) ∨ (mayL u.l = true ∧ f = k ∧ nameB u.name.data.toList = false ∧ 15 < k) ∨ (mayL u.l = true ∧ f ≠ k ∧ nameB u.name.data.toList = true ∧ ¬ 15 < k) ∨ (mayL u.l = true ∧ f ≠ k ∧ nameB u.name.data.toList = true ∧ 15 < k) ∨ (mayL u.l = true ∧ f ≠ k ∧ nameB u.name.data.toList = false ∧ ¬ 15 < k) ∨ (mayL u.l = true ∧ f ≠ k ∧ nameB u.name.data.toList = false ∧ 15 < k) ∨ (mayL u.l = false ∧ f = k ∧ nameB u.name.data.toList = true ∧ ¬ 15 < k) ∨ (mayL u.l = false ∧ f = k ∧ nameB u.name.data.toList = true ∧ 15 < k) ∨ (mayL u.l = false ∧ f = k ∧ nameB u.name.data.toList = false ∧ ¬ 15 < k) ∨ (mayL u.l = false ∧ f = k ∧ nameB u.name.data.toList = false ∧ 15 < k) ∨ (mayL u.l = false ∧ f ≠ k ∧ nameB u.name.data.toList = true ∧ ¬ 15 < k) ∨ (mayL u.l = false ∧ f ≠ k ∧ nameB u.name.data.toList = true ∧ 15 < k) ∨ (mayL u.l = false ∧ f ≠ k ∧ nameB u.name.data.toList = false ∧ ¬ 15 < k) ∨ (mayL u.l = false ∧ f ≠ k ∧ nameB u.name.data.toList = false ∧ 15 < k) by
        by_cases hg : 15 < k <;> by_cases hf : f = k <;> cases mayL u.l <;> cases nameB u.name.data.toList <;> simp [hg, hf]) with hway | hway | hway | hway | hway | hway | hway | hway | hway | hway | hway | hway | hway | hway | hway | hway
      · -- may True, alone True, name True, late False
        obtain ⟨hm, hf, hn, hg⟩ := hway
        have hY : whyU k u f = 0 := by unfold whyU; rw [if_neg hg, if_neg (by rw [hn]; simp), if_neg (by rw [hf]; simp), if_neg (by rw [hm]; simp)]
        have HM := Lib.hid (fun w1 => HMm.out _ hm w1)
        have HNb := Lib.hid (fun w1 => HNm.out _ hn w1)
        have hfe : (f == (k : Int)) = true := by rw [hf]; simp
        have hgg : decide (15 < (k : Int)) = false := decide_eq_false (by omega)
        have HN := Lib.hid (HK2.out.1 hY)
        clear hY HK2 hm hn hg HMm HNm
        clear hf
        go_wp2_with fail
        refine (HM.out _).mono ?_
        rintro e' w9 ⟨rfl, hb9⟩
        replace hb0 := on hb0 hb9
        replace hr := hr.on hb9
        replace c0 := kept hb9 c0
        replace HZk := Lib.hid (HZk.out.on hb9)
        clear hb9 c1 c2
        have lr := hr.1
        go_wp2_with fail
        refine (HF.out _ HZk.out).mono ?_
        rintro e' w9 ⟨rfl, hb9⟩
        replace hb0 := on hb0 hb9
        replace hr := hr.on hb9
        replace c0 := kept hb9 c0
        clear hb9
        have lr := hr.1
        go_wp2_with fail
        refine (HNb.out _).mono ?_
        rintro e' w8 ⟨rfl, rfl⟩
        go_wp2
        go_roundw
        case rel => exact ⟨k + 1, by omega, by go_num, HN, hb0, hr⟩
        case measure => simp [intOf]; omega
      · -- may True, alone True, name True, late True
        obtain ⟨hm, hf, hn, hg⟩ := hway
        have hY : whyU k u f = 10 := by unfold whyU; rw [if_pos hg]
        have HM := Lib.hid (fun w1 => HMm.out _ hm w1)
        have HNb := Lib.hid (fun w1 => HNm.out _ hn w1)
        have hfe : (f == (k : Int)) = true := by rw [hf]; simp
        have hgg : decide (15 < (k : Int)) = true := decide_eq_true (by omega)
        obtain ⟨hp, he⟩ := HK2.out.2 (by rw [hY]; decide)
        rw [hY] at he
        subst hp he
        clear hY HK2 hm hn hg HMm HNm
        clear hf
        go_wp2_with fail
        refine (HM.out _).mono ?_
        rintro e' w9 ⟨rfl, hb9⟩
        replace hb0 := on hb0 hb9
        replace hr := hr.on hb9
        replace c0 := kept hb9 c0
        replace HZk := Lib.hid (HZk.out.on hb9)
        clear hb9 c1 c2
        have lr := hr.1
        go_wp2_with fail
        refine (HF.out _ HZk.out).mono ?_
        rintro e' w9 ⟨rfl, hb9⟩
        replace hb0 := on hb0 hb9
        replace hr := hr.on hb9
        replace c0 := kept hb9 c0
        clear hb9
        have lr := hr.1
        go_wp2_with fail
        refine (HNb.out _).mono ?_
        rintro e' w8 ⟨rfl, rfl⟩
        obtain ⟨r0, r1, f0, f1⟩ := hr.two
        obtain ⟨e0, e1, _⟩ := (hr.put2 (.int .i64 k) (.int .i64 10)).two
        go_wp2
        exact bodyPost_ret (v := .agg #[.int .i64 k, .int .i64 10]) (by simp [results, Tryz.results22, go_sem, e0, e1]) rfl ⟨rfl, set2 hb0 (by omega) _ _⟩
      · -- may True, alone True, name False, late False
        obtain ⟨hm, hf, hn, hg⟩ := hway
        have hY : whyU k u f = 1 := by unfold whyU; rw [if_neg hg, if_pos hn]
        have HM := Lib.hid (fun w1 => HMm.out _ hm w1)
        have HNb := Lib.hid (fun w1 => HNm.out _ hn w1)
        have hfe : (f == (k : Int)) = true := by rw [hf]; simp
        have hgg : decide (15 < (k : Int)) = false := decide_eq_false (by omega)
        obtain ⟨hp, he⟩ := HK2.out.2 (by rw [hY]; decide)
        rw [hY] at he
        subst hp he
        clear hY HK2 hm hn hg HMm HNm
        clear hf
        go_wp2_with fail
        refine (HM.out _).mono ?_
        rintro e' w9 ⟨rfl, hb9⟩
        replace hb0 := on hb0 hb9
        replace hr := hr.on hb9
        replace c0 := kept hb9 c0
        replace HZk := Lib.hid (HZk.out.on hb9)
        clear hb9 c1 c2
        have lr := hr.1
        go_wp2_with fail
        refine (HF.out _ HZk.out).mono ?_
        rintro e' w9 ⟨rfl, hb9⟩
        replace hb0 := on hb0 hb9
        replace hr := hr.on hb9
        replace c0 := kept hb9 c0
        clear hb9
        have lr := hr.1
        go_wp2_with fail
        refine (HNb.out _).mono ?_
        rintro e' w8 ⟨rfl, rfl⟩
        obtain ⟨r0, r1, f0, f1⟩ := hr.two
        obtain ⟨e0, e1, _⟩ := (hr.put2 (.int .i64 k) (.int .i64 1)).two
        go_wp2
        exact bodyPost_ret (v := .agg #[.int .i64 k, .int .i64 1]) (by simp [results, Tryz.results22, go_sem, e0, e1]) rfl ⟨rfl, set2 hb0 (by omega) _ _⟩
      · -- may True, alone True, name False, late True
        obtain ⟨hm, hf, hn, hg⟩ := hway
        have hY : whyU k u f = 10 := by unfold whyU; rw [if_pos hg]
        have HM := Lib.hid (fun w1 => HMm.out _ hm w1)
        have HNb := Lib.hid (fun w1 => HNm.out _ hn w1)
        have hfe : (f == (k : Int)) = true := by rw [hf]; simp
        have hgg : decide (15 < (k : Int)) = true := decide_eq_true (by omega)
        obtain ⟨hp, he⟩ := HK2.out.2 (by rw [hY]; decide)
        rw [hY] at he
        subst hp he
        clear hY HK2 hm hn hg HMm HNm
        clear hf
        go_wp2_with fail
        refine (HM.out _).mono ?_
        rintro e' w9 ⟨rfl, hb9⟩
        replace hb0 := on hb0 hb9
        replace hr := hr.on hb9
        replace c0 := kept hb9 c0
        replace HZk := Lib.hid (HZk.out.on hb9)
        clear hb9 c1 c2
        have lr := hr.1
        go_wp2_with fail
        refine (HF.out _ HZk.out).mono ?_
        rintro e' w9 ⟨rfl, hb9⟩
        replace hb0 := on hb0 hb9
        replace hr := hr.on hb9
        replace c0 := kept hb9 c0
        clear hb9
        have lr := hr.1
        go_wp2_with fail
        refine (HNb.out _).mono ?_
        rintro e' w8 ⟨rfl, rfl⟩
        obtain ⟨r0, r1, f0, f1⟩ := hr.two
        obtain ⟨e0, e1, _⟩ := (hr.put2 (.int .i64 k) (.int .i64 10)).two
        go_wp2
        exact bodyPost_ret (v := .agg #[.int .i64 k, .int .i64 10]) (by simp [results, Tryz.results22, go_sem, e0, e1]) rfl ⟨rfl, set2 hb0 (by omega) _ _⟩
      · -- may True, alone False, name True, late False
        obtain ⟨hm, hf, hn, hg⟩ := hway
        have hY : whyU k u f = 8 := by unfold whyU; rw [if_neg hg, if_neg (by rw [hn]; simp), if_pos hf]
        have HM := Lib.hid (fun w1 => HMm.out _ hm w1)
        have HNb := Lib.hid (fun w1 => HNm.out _ hn w1)
        have hfe : (f == (k : Int)) = false := by simpa using hf
        have hgg : decide (15 < (k : Int)) = false := decide_eq_false (by omega)
        obtain ⟨hp, he⟩ := HK2.out.2 (by rw [hY]; decide)
        rw [hY] at he
        subst hp he
        clear hY HK2 hm hn hg HMm HNm
        clear hf
        go_wp2_with fail
        refine (HM.out _).mono ?_
        rintro e' w9 ⟨rfl, hb9⟩
        replace hb0 := on hb0 hb9
        replace hr := hr.on hb9
        replace c0 := kept hb9 c0
        replace HZk := Lib.hid (HZk.out.on hb9)
        clear hb9 c1 c2
        have lr := hr.1
        go_wp2_with fail
        refine (HF.out _ HZk.out).mono ?_
        rintro e' w9 ⟨rfl, hb9⟩
        replace hb0 := on hb0 hb9
        replace hr := hr.on hb9
        replace c0 := kept hb9 c0
        clear hb9
        have lr := hr.1
        go_wp2_with fail
        refine (HNb.out _).mono ?_
        rintro e' w8 ⟨rfl, rfl⟩
        obtain ⟨r0, r1, f0, f1⟩ := hr.two
        obtain ⟨e0, e1, _⟩ := (hr.put2 (.int .i64 k) (.int .i64 8)).two
        go_wp2
        exact bodyPost_ret (v := .agg #[.int .i64 k, .int .i64 8]) (by simp [results, Tryz.results22, go_sem, e0, e1]) rfl ⟨rfl, set2 hb0 (by omega) _ _⟩
      · -- may True, alone False, name True, late True
        obtain ⟨hm, hf, hn, hg⟩ := hway
        have hY : whyU k u f = 10 := by unfold whyU; rw [if_pos hg]
        have HM := Lib.hid (fun w1 => HMm.out _ hm w1)
        have HNb := Lib.hid (fun w1 => HNm.out _ hn w1)
        have hfe : (f == (k : Int)) = false := by simpa using hf
        have hgg : decide (15 < (k : Int)) = true := decide_eq_true (by omega)
        obtain ⟨hp, he⟩ := HK2.out.2 (by rw [hY]; decide)
        rw [hY] at he
        subst hp he
        clear hY HK2 hm hn hg HMm HNm
        clear hf
        go_wp2_with fail
        refine (HM.out _).mono ?_
        rintro e' w9 ⟨rfl, hb9⟩
        replace hb0 := on hb0 hb9
        replace hr := hr.on hb9
        replace c0 := kept hb9 c0
        replace HZk := Lib.hid (HZk.out.on hb9)
        clear hb9 c1 c2
        have lr := hr.1
        go_wp2_with fail
        refine (HF.out _ HZk.out).mono ?_
        rintro e' w9 ⟨rfl, hb9⟩
        replace hb0 := on hb0 hb9
        replace hr := hr.on hb9
        replace c0 := kept hb9 c0
        clear hb9
        have lr := hr.1
        go_wp2_with fail
        refine (HNb.out _).mono ?_
        rintro e' w8 ⟨rfl, rfl⟩
        obtain ⟨r0, r1, f0, f1⟩ := hr.two
        obtain ⟨e0, e1, _⟩ := (hr.put2 (.int .i64 k) (.int .i64 10)).two
        go_wp2
        exact bodyPost_ret (v := .agg #[.int .i64 k, .int .i64 10]) (by simp [results, Tryz.results22, go_sem, e0, e1]) rfl ⟨rfl, set2 hb0 (by omega) _ _⟩
      · -- may True, alone False, name False, late False
        obtain ⟨hm, hf, hn, hg⟩ := hway
        have hY : whyU k u f = 1 := by unfold whyU; rw [if_neg hg, if_pos hn]
        have HM := Lib.hid (fun w1 => HMm.out _ hm w1)
        have HNb := Lib.hid (fun w1 => HNm.out _ hn w1)
        have hfe : (f == (k : Int)) = false := by simpa using hf
        have hgg : decide (15 < (k : Int)) = false := decide_eq_false (by omega)
        obtain ⟨hp, he⟩ := HK2.out.2 (by rw [hY]; decide)
        rw [hY] at he
        subst hp he
        clear hY HK2 hm hn hg HMm HNm
        clear hf
        go_wp2_with fail
        refine (HM.out _).mono ?_
        rintro e' w9 ⟨rfl, hb9⟩
        replace hb0 := on hb0 hb9
        replace hr := hr.on hb9
        replace c0 := kept hb9 c0
        replace HZk := Lib.hid (HZk.out.on hb9)
        clear hb9 c1 c2
        have lr := hr.1
        go_wp2_with fail
        refine (HF.out _ HZk.out).mono ?_
        rintro e' w9 ⟨rfl, hb9⟩
        replace hb0 := on hb0 hb9
        replace hr := hr.on hb9
        replace c0 := kept hb9 c0
        clear hb9
        have lr := hr.1
        go_wp2_with fail
        refine (HNb.out _).mono ?_
        rintro e' w8 ⟨rfl, rfl⟩
        obtain ⟨r0, r1, f0, f1⟩ := hr.two
        obtain ⟨e0, e1, _⟩ := (hr.put2 (.int .i64 k) (.int .i64 1)).two
        go_wp2
        exact bodyPost_ret (v := .agg #[.int .i64 k, .int .i64 1]) (by simp [results, Tryz.results22, go_sem, e0, e1]) rfl ⟨rfl, set2 hb0 (by omega) _ _⟩
      · -- may True, alone False, name False, late True
        obtain ⟨hm, hf, hn, hg⟩ := hway
        have hY : whyU k u f = 10 := by unfold whyU; rw [if_pos hg]
        have HM := Lib.hid (fun w1 => HMm.out _ hm w1)
        have HNb := Lib.hid (fun w1 => HNm.out _ hn w1)
        have hfe : (f == (k : Int)) = false := by simpa using hf
        have hgg : decide (15 < (k : Int)) = true := decide_eq_true (by omega)
        obtain ⟨hp, he⟩ := HK2.out.2 (by rw [hY]; decide)
        rw [hY] at he
        subst hp he
        clear hY HK2 hm hn hg HMm HNm
        clear hf
        go_wp2_with fail
        refine (HM.out _).mono ?_
        rintro e' w9 ⟨rfl, hb9⟩
        replace hb0 := on hb0 hb9
        replace hr := hr.on hb9
        replace c0 := kept hb9 c0
        replace HZk := Lib.hid (HZk.out.on hb9)
        clear hb9 c1 c2
        have lr := hr.1
        go_wp2_with fail
        refine (HF.out _ HZk.out).mono ?_
        rintro e' w9 ⟨rfl, hb9⟩
        replace hb0 := on hb0 hb9
        replace hr := hr.on hb9
        replace c0 := kept hb9 c0
        clear hb9
        have lr := hr.1
        go_wp2_with fail
        refine (HNb.out _).mono ?_
        rintro e' w8 ⟨rfl, rfl⟩
        obtain ⟨r0, r1, f0, f1⟩ := hr.two
        obtain ⟨e0, e1, _⟩ := (hr.put2 (.int .i64 k) (.int .i64 10)).two
        go_wp2
        exact bodyPost_ret (v := .agg #[.int .i64 k, .int .i64 10]) (by simp [results, Tryz.results22, go_sem, e0, e1]) rfl ⟨rfl, set2 hb0 (by omega) _ _⟩
      · -- may False, alone True, name True, late False
        obtain ⟨hm, hf, hn, hg⟩ := hway
        have hY : whyU k u f = 7 := by unfold whyU; rw [if_neg hg, if_neg (by rw [hn]; simp), if_neg (by rw [hf]; simp), if_pos hm]
        have HM := Lib.hid (fun w1 => HMm.out _ hm w1)
        have HNb := Lib.hid (fun w1 => HNm.out _ hn w1)
        have hfe : (f == (k : Int)) = true := by rw [hf]; simp
        have hgg : decide (15 < (k : Int)) = false := decide_eq_false (by omega)
        obtain ⟨hp, he⟩ := HK2.out.2 (by rw [hY]; decide)
        rw [hY] at he
        subst hp he
        clear hY HK2 hm hn hg HMm HNm
        clear hf
        go_wp2_with fail
        refine (HM.out _).mono ?_
        rintro e' w9 ⟨rfl, hb9⟩
        replace hb0 := on hb0 hb9
        replace hr := hr.on hb9
        replace c0 := kept hb9 c0
        replace HZk := Lib.hid (HZk.out.on hb9)
        clear hb9 c1 c2
        have lr := hr.1
        go_wp2_with fail
        refine (HF.out _ HZk.out).mono ?_
        rintro e' w9 ⟨rfl, hb9⟩
        replace hb0 := on hb0 hb9
        replace hr := hr.on hb9
        replace c0 := kept hb9 c0
        clear hb9
        have lr := hr.1
        go_wp2_with fail
        refine (HNb.out _).mono ?_
        rintro e' w8 ⟨rfl, rfl⟩
        obtain ⟨r0, r1, f0, f1⟩ := hr.two
        obtain ⟨e0, e1, _⟩ := (hr.put2 (.int .i64 k) (.int .i64 7)).two
        go_wp2
        exact bodyPost_ret (v := .agg #[.int .i64 k, .int .i64 7]) (by simp [results, Tryz.results22, go_sem, e0, e1]) rfl ⟨rfl, set2 hb0 (by omega) _ _⟩
      · -- may False, alone True, name True, late True
        obtain ⟨hm, hf, hn, hg⟩ := hway
        have hY : whyU k u f = 10 := by unfold whyU; rw [if_pos hg]
        have HM := Lib.hid (fun w1 => HMm.out _ hm w1)
        have HNb := Lib.hid (fun w1 => HNm.out _ hn w1)
        have hfe : (f == (k : Int)) = true := by rw [hf]; simp
        have hgg : decide (15 < (k : Int)) = true := decide_eq_true (by omega)
        obtain ⟨hp, he⟩ := HK2.out.2 (by rw [hY]; decide)
        rw [hY] at he
        subst hp he
        clear hY HK2 hm hn hg HMm HNm
        clear hf
        go_wp2_with fail
        refine (HM.out _).mono ?_
        rintro e' w9 ⟨rfl, hb9⟩
        replace hb0 := on hb0 hb9
        replace hr := hr.on hb9
        replace c0 := kept hb9 c0
        replace HZk := Lib.hid (HZk.out.on hb9)
        clear hb9 c1 c2
        have lr := hr.1
        go_wp2_with fail
        refine (HF.out _ HZk.out).mono ?_
        rintro e' w9 ⟨rfl, hb9⟩
        replace hb0 := on hb0 hb9
        replace hr := hr.on hb9
        replace c0 := kept hb9 c0
        clear hb9
        have lr := hr.1
        go_wp2_with fail
        refine (HNb.out _).mono ?_
        rintro e' w8 ⟨rfl, rfl⟩
        obtain ⟨r0, r1, f0, f1⟩ := hr.two
        obtain ⟨e0, e1, _⟩ := (hr.put2 (.int .i64 k) (.int .i64 10)).two
        go_wp2
        exact bodyPost_ret (v := .agg #[.int .i64 k, .int .i64 10]) (by simp [results, Tryz.results22, go_sem, e0, e1]) rfl ⟨rfl, set2 hb0 (by omega) _ _⟩
      · -- may False, alone True, name False, late False
        obtain ⟨hm, hf, hn, hg⟩ := hway
        have hY : whyU k u f = 1 := by unfold whyU; rw [if_neg hg, if_pos hn]
        have HM := Lib.hid (fun w1 => HMm.out _ hm w1)
        have HNb := Lib.hid (fun w1 => HNm.out _ hn w1)
        have hfe : (f == (k : Int)) = true := by rw [hf]; simp
        have hgg : decide (15 < (k : Int)) = false := decide_eq_false (by omega)
        obtain ⟨hp, he⟩ := HK2.out.2 (by rw [hY]; decide)
        rw [hY] at he
        subst hp he
        clear hY HK2 hm hn hg HMm HNm
        clear hf
        go_wp2_with fail
        refine (HM.out _).mono ?_
        rintro e' w9 ⟨rfl, hb9⟩
        replace hb0 := on hb0 hb9
        replace hr := hr.on hb9
        replace c0 := kept hb9 c0
        replace HZk := Lib.hid (HZk.out.on hb9)
        clear hb9 c1 c2
        have lr := hr.1
        go_wp2_with fail
        refine (HF.out _ HZk.out).mono ?_
        rintro e' w9 ⟨rfl, hb9⟩
        replace hb0 := on hb0 hb9
        replace hr := hr.on hb9
        replace c0 := kept hb9 c0
        clear hb9
        have lr := hr.1
        go_wp2_with fail
        refine (HNb.out _).mono ?_
        rintro e' w8 ⟨rfl, rfl⟩
        obtain ⟨r0, r1, f0, f1⟩ := hr.two
        obtain ⟨e0, e1, _⟩ := (hr.put2 (.int .i64 k) (.int .i64 1)).two
        go_wp2
        exact bodyPost_ret (v := .agg #[.int .i64 k, .int .i64 1]) (by simp [results, Tryz.results22, go_sem, e0, e1]) rfl ⟨rfl, set2 hb0 (by omega) _ _⟩
      · -- may False, alone True, name False, late True
        obtain ⟨hm, hf, hn, hg⟩ := hway
        have hY : whyU k u f = 10 := by unfold whyU; rw [if_pos hg]
        have HM := Lib.hid (fun w1 => HMm.out _ hm w1)
        have HNb := Lib.hid (fun w1 => HNm.out _ hn w1)
        have hfe : (f == (k : Int)) = true := by rw [hf]; simp
        have hgg : decide (15 < (k : Int)) = true := decide_eq_true (by omega)
        obtain ⟨hp, he⟩ := HK2.out.2 (by rw [hY]; decide)
        rw [hY] at he
        subst hp he
        clear hY HK2 hm hn hg HMm HNm
        clear hf
        go_wp2_with fail
        refine (HM.out _).mono ?_
        rintro e' w9 ⟨rfl, hb9⟩
        replace hb0 := on hb0 hb9
        replace hr := hr.on hb9
        replace c0 := kept hb9 c0
        replace HZk := Lib.hid (HZk.out.on hb9)
        clear hb9 c1 c2
        have lr := hr.1
        go_wp2_with fail
        refine (HF.out _ HZk.out).mono ?_
        rintro e' w9 ⟨rfl, hb9⟩
        replace hb0 := on hb0 hb9
        replace hr := hr.on hb9
        replace c0 := kept hb9 c0
        clear hb9
        have lr := hr.1
        go_wp2_with fail
        refine (HNb.out _).mono ?_
        rintro e' w8 ⟨rfl, rfl⟩
        obtain ⟨r0, r1, f0, f1⟩ := hr.two
        obtain ⟨e0, e1, _⟩ := (hr.put2 (.int .i64 k) (.int .i64 10)).two
        go_wp2
        exact bodyPost_ret (v := .agg #[.int .i64 k, .int .i64 10]) (by simp [results, Tryz.results22, go_sem, e0, e1]) rfl ⟨rfl, set2 hb0 (by omega) _ _⟩
      · -- may False, alone False, name True, late False
        obtain ⟨hm, hf, hn, hg⟩ := hway
        have hY : whyU k u f = 8 := by unfold whyU; rw [if_neg hg, if_neg (by rw [hn]; simp), if_pos hf]
        have HM := Lib.hid (fun w1 => HMm.out _ hm w1)
        have HNb := Lib.hid (fun w1 => HNm.out _ hn w1)
        have hfe : (f == (k : Int)) = false := by simpa using hf
        have hgg : decide (15 < (k : Int)) = false := decide_eq_false (by omega)
        obtain ⟨hp, he⟩ := HK2.out.2 (by rw [hY]; decide)
        rw [hY] at he
        subst hp he
        clear hY HK2 hm hn hg HMm HNm
        clear hf
        go_wp2_with fail
        refine (HM.out _).mono ?_
        rintro e' w9 ⟨rfl, hb9⟩
        replace hb0 := on hb0 hb9
        replace hr := hr.on hb9
        replace c0 := kept hb9 c0
        replace HZk := Lib.hid (HZk.out.on hb9)
        clear hb9 c1 c2
        have lr := hr.1
        go_wp2_with fail
        refine (HF.out _ HZk.out).mono ?_
        rintro e' w9 ⟨rfl, hb9⟩
        replace hb0 := on hb0 hb9
        replace hr := hr.on hb9
        replace c0 := kept hb9 c0
        clear hb9
        have lr := hr.1
        go_wp2_with fail
        refine (HNb.out _).mono ?_
        rintro e' w8 ⟨rfl, rfl⟩
        obtain ⟨r0, r1, f0, f1⟩ := hr.two
        obtain ⟨e0, e1, _⟩ := (hr.put2 (.int .i64 k) (.int .i64 8)).two
        go_wp2
        exact bodyPost_ret (v := .agg #[.int .i64 k, .int .i64 8]) (by simp [results, Tryz.results22, go_sem, e0, e1]) rfl ⟨rfl, set2 hb0 (by omega) _ _⟩
      · -- may False, alone False, name True, late True
        obtain ⟨hm, hf, hn, hg⟩ := hway
        have hY : whyU k u f = 10 := by unfold whyU; rw [if_pos hg]
        have HM := Lib.hid (fun w1 => HMm.out _ hm w1)
        have HNb := Lib.hid (fun w1 => HNm.out _ hn w1)
        have hfe : (f == (k : Int)) = false := by simpa using hf
        have hgg : decide (15 < (k : Int)) = true := decide_eq_true (by omega)
        obtain ⟨hp, he⟩ := HK2.out.2 (by rw [hY]; decide)
        rw [hY] at he
        subst hp he
        clear hY HK2 hm hn hg HMm HNm
        clear hf
        go_wp2_with fail
        refine (HM.out _).mono ?_
        rintro e' w9 ⟨rfl, hb9⟩
        replace hb0 := on hb0 hb9
        replace hr := hr.on hb9
        replace c0 := kept hb9 c0
        replace HZk := Lib.hid (HZk.out.on hb9)
        clear hb9 c1 c2
        have lr := hr.1
        go_wp2_with fail
        refine (HF.out _ HZk.out).mono ?_
        rintro e' w9 ⟨rfl, hb9⟩
        replace hb0 := on hb0 hb9
        replace hr := hr.on hb9
        replace c0 := kept hb9 c0
        clear hb9
        have lr := hr.1
        go_wp2_with fail
        refine (HNb.out _).mono ?_
        rintro e' w8 ⟨rfl, rfl⟩
        obtain ⟨r0, r1, f0, f1⟩ := hr.two
        obtain ⟨e0, e1, _⟩ := (hr.put2 (.int .i64 k) (.int .i64 10)).two
        go_wp2
        exact bodyPost_ret (v := .agg #[.int .i64 k, .int .i64 10]) (by simp [results, Tryz.results22, go_sem, e0, e1]) rfl ⟨rfl, set2 hb0 (by omega) _ _⟩
      · -- may False, alone False, name False, late False
        obtain ⟨hm, hf, hn, hg⟩ := hway
        have hY : whyU k u f = 1 := by unfold whyU; rw [if_neg hg, if_pos hn]
        have HM := Lib.hid (fun w1 => HMm.out _ hm w1)
        have HNb := Lib.hid (fun w1 => HNm.out _ hn w1)
        have hfe : (f == (k : Int)) = false := by simpa using hf
        have hgg : decide (15 < (k : Int)) = false := decide_eq_false (by omega)
        obtain ⟨hp, he⟩ := HK2.out.2 (by rw [hY]; decide)
        rw [hY] at he
        subst hp he
        clear hY HK2 hm hn hg HMm HNm
        clear hf
        go_wp2_with fail
        refine (HM.out _).mono ?_
        rintro e' w9 ⟨rfl, hb9⟩
        replace hb0 := on hb0 hb9
        replace hr := hr.on hb9
        replace c0 := kept hb9 c0
        replace HZk := Lib.hid (HZk.out.on hb9)
        clear hb9 c1 c2
        have lr := hr.1
        go_wp2_with fail
        refine (HF.out _ HZk.out).mono ?_
        rintro e' w9 ⟨rfl, hb9⟩
        replace hb0 := on hb0 hb9
        replace hr := hr.on hb9
        replace c0 := kept hb9 c0
        clear hb9
        have lr := hr.1
        go_wp2_with fail
        refine (HNb.out _).mono ?_
        rintro e' w8 ⟨rfl, rfl⟩
        obtain ⟨r0, r1, f0, f1⟩ := hr.two
        obtain ⟨e0, e1, _⟩ := (hr.put2 (.int .i64 k) (.int .i64 1)).two
        go_wp2
        exact bodyPost_ret (v := .agg #[.int .i64 k, .int .i64 1]) (by simp [results, Tryz.results22, go_sem, e0, e1]) rfl ⟨rfl, set2 hb0 (by omega) _ _⟩
      · -- may False, alone False, name False, late True
        obtain ⟨hm, hf, hn, hg⟩ := hway
        have hY : whyU k u f = 10 := by unfold whyU; rw [if_pos hg]
        have HM := Lib.hid (fun w1 => HMm.out _ hm w1)
        have HNb := Lib.hid (fun w1 => HNm.out _ hn w1)
        have hfe : (f == (k : Int)) = false := by simpa using hf
        have hgg : decide (15 < (k : Int)) = true := decide_eq_true (by omega)
        obtain ⟨hp, he⟩ := HK2.out.2 (by rw [hY]; decide)
        rw [hY] at he
        subst hp he
        clear hY HK2 hm hn hg HMm HNm
        clear hf
        go_wp2_with fail
        refine (HM.out _).mono ?_
        rintro e' w9 ⟨rfl, hb9⟩
        replace hb0 := on hb0 hb9
        replace hr := hr.on hb9
        replace c0 := kept hb9 c0
        replace HZk := Lib.hid (HZk.out.on hb9)
        clear hb9 c1 c2
        have lr := hr.1
        go_wp2_with fail
        refine (HF.out _ HZk.out).mono ?_
        rintro e' w9 ⟨rfl, hb9⟩
        replace hb0 := on hb0 hb9
        replace hr := hr.on hb9
        replace c0 := kept hb9 c0
        clear hb9
        have lr := hr.1
        go_wp2_with fail
        refine (HNb.out _).mono ?_
        rintro e' w8 ⟨rfl, rfl⟩
        obtain ⟨r0, r1, f0, f1⟩ := hr.two
        obtain ⟨e0, e1, _⟩ := (hr.put2 (.int .i64 k) (.int .i64 10)).two
        go_wp2
        exact bodyPost_ret (v := .agg #[.int .i64 k, .int .i64 10]) (by simp [results, Tryz.results22, go_sem, e0, e1]) rfl ⟨rfl, set2 hb0 (by omega) _ _⟩
    · obtain rfl : k = n := by omega
      have HE := HK.out
      rw [← HL.out, wrongU_end] at HE
      simp only [Prod.mk.injEq] at HE
      obtain ⟨rfl, rfl⟩ := HE
      have lr := hr.1
      obtain ⟨r0, r1, f0, f1⟩ := hr.two
      obtain ⟨e0, e1, _⟩ := (hr.put2 (.int .i64 0) (.int .i64 0)).two
      go_wp2
      exact bodyPost_ret (v := .agg #[.int .i64 0, .int .i64 0]) (by simp [results, Tryz.results22, go_sem, e0, e1]) rfl ⟨rfl, set2 hb0 (by omega) _ _⟩
end Go.Proofs.YtmlmanlcomfhbaaGreatDoor.Right
namespace Go.Proofs.YtmlmanlcomfhbaaGreatDoor.Right
open Go.RowKit Kit Reg Go.Proofs.YtmlmanlcomfhbaaGreatDoor.Lab
open Go.Proofs.YtmlmanlcomfhbaaGreatDoor.Cats (U U_or U_zero)

theorem wrongG_hit {us : List Us} {r : List Gr} {k : Nat} {g : Gr} (h : r[k]? = some g) (hh : whyG k g us ≠ 0) : wrongG us k (r.drop k) = ((k : Int), whyG k g us) := by rw [drop_at h, wrongG, if_neg hh]
theorem wrongG_miss {us : List Us} {r : List Gr} {k : Nat} {g : Gr} (h : r[k]? = some g) (hh : whyG k g us = 0) : wrongG us k (r.drop k) = wrongG us (k + 1) (r.drop (k + 1)) := by rw [drop_at h, wrongG, if_pos hh]
theorem wrongG_end (us : List Us) (r : List Gr) : wrongG us r.length (r.drop r.length) = (0, 0) := by rw [List.drop_length]; rfl
set_option maxRecDepth 100000 in
set_option maxHeartbeats 16000000 in
theorem rgrants_c (A : Option Addr) (n cap : Nat) (gs : List Gr) (A2 : Option Addr) (n2 cap2 : Nat) (us : List Us) (p e : Int) (hc : wrongG us 0 gs = (p, e)) (w : World) (hz : GrantsR w A n gs) (hz2 : UsersR w A2 n2 us) :
    Calls Tryz.prog 23 #[.slice A n cap, .slice A2 n2 cap2] w fun e' w' => e' = .returned (.agg #[.int .i64 p, .int .i64 e]) ∧ Below w.heap.size w w' := by
  obtain ⟨hlen, hmax, _, _⟩ := id hz
  have HZ := Lib.hid hz
  have HZ2 := Lib.hid hz2
  have HL := Lib.hid hlen
  have HC := Lib.hid hc
  clear hz hlen hc hz2
  have hb0 := below1 w (.cells #[.int .i64 0, .int .i64 0] 35)
  have hr := CellsAt.new w [.int .i64 0, .int .i64 0] 35
  go_enter Tryz.func23, Tryz.ntmps23
  go_wp2
  go_loopw [5] (fun i wr => ∃ k : Nat, k ≤ n ∧ i = .int .i64 k ∧ Hid (wrongG us k (gs.drop k) = (p, e)) ∧ Below w.heap.size w wr ∧ CellsAt wr w.heap.size [.int .i64 0, .int .i64 0]) (fun i _ => n - (intOf i).toNat)
  case atStart => exact ⟨0, Nat.zero_le _, rfl, HC, hb0, hr⟩
  case round =>
    clear hb0 hr
    obtain ⟨k, hk, rfl, HK, hb0, hr⟩ := hrel
    by_cases hlt : k < n
    · obtain ⟨u, huk⟩ : ∃ u, gs[k]? = some u := ⟨_, List.getElem?_eq_getElem (by rw [HL.out]; exact hlt)⟩
      have HZk := Lib.hid (HZ.out.on hb0)
      have HZ2k := Lib.hid (HZ2.out.on hb0)
      obtain ⟨_, _, _, h4⟩ := HZk.out
      obtain ⟨bb, o, rfl, hblt, hcell⟩ := h4 (by omega)
      obtain ⟨f, hf⟩ : ∃ f, findI us u.name 0 = f := ⟨_, rfl⟩
      have HK2 : Hid ((whyG k u us = 0 → wrongG us (k + 1) (gs.drop (k + 1)) = (p, e)) ∧ (whyG k u us ≠ 0 → (k : Int) = p ∧ whyG k u us = e)) := by
        refine Lib.hid ⟨fun hh => by rw [← wrongG_miss huk hh]; exact HK.out, fun hh => ?_⟩
        have := HK.out
        rw [wrongG_hit huk hh] at this
        simpa using this
      obtain ⟨c0, c1, c2, c3, c4⟩ := grant_cells (hcell k u huk)
      have lr := hr.1
      have HF := Lib.hid (fun w1 h => rfind_c A2 n2 cap2 us u.name f hf w1 h)
      have HMm := Lib.hid (fun m hm w1 => rmay_c u.l u.s m hm w1)
      have HMn := Lib.hid (fun m hm w1 => rmay_c u.k u.r m hm w1)
      clear h4 hcell huk HK
      rcases (show (mayL u.l = false ∧ ¬ f < 0 ∧ ¬ 31 < k) ∨ (mayL u.l = false ∧ ¬ f < 0 ∧ 31 < k) ∨ (mayL u.l = false ∧ f < 0 ∧ ¬ 31 < k) ∨ (mayL u.l = false ∧ f < 0 ∧ 31 < k) ∨ (mayL u.l = true ∧ mayL u.k = false ∧ ¬ f < 0 ∧ ¬ 31 < k) ∨ (mayL u.l = true ∧ mayL u.k = false ∧ ¬ f < 0 ∧ 31 < k) ∨ (mayL u.l = true ∧ mayL u.k = false ∧ f < 0 ∧ ¬ 31 < k) ∨ (mayL u.l = true ∧ mayL u.k = false ∧ f < 0 ∧ 31 < k) ∨ (mayL u.l = true ∧ mayL u.k = true ∧ ¬ f < 0 ∧ ¬ 31 < k) ∨ (mayL u.l = true ∧ mayL u.k = true ∧ ¬ f < 0 ∧ 31 < k) ∨ (mayL u.l = true ∧ mayL u.k = true ∧ f < 0 ∧ ¬ 31 < k) ∨ (mayL u.l = true ∧ mayL u.k = true ∧ f < 0 ∧ 31 < k) by
        by_cases hg : 31 < k <;> by_cases hf : f < 0 <;> cases mayL u.l <;> cases mayL u.k <;> simp [hg, hf]) with hway | hway | hway | hway | hway | hway | hway | hway | hway | hway | hway | hway
      · -- From False, To None, nobody False, late False
        obtain ⟨hm, hf0, hg⟩ := hway
        have hY : whyG k u us = 7 := by unfold whyG; rw [if_neg hg, hf, if_neg hf0, if_pos (.inl hm)]
        have HM := Lib.hid (fun w1 => HMm.out _ hm w1)
        have hfe : decide (f < 0) = false := decide_eq_false hf0
        have hgg : decide (31 < (k : Int)) = false := decide_eq_false (by omega)
        obtain ⟨hp, he⟩ := HK2.out.2 (by rw [hY]; decide)
        rw [hY] at he
        subst hp he
        clear hY HK2 hm hf0 hg HMm HMn hf
        go_wp2_with fail
        refine (HM.out _).mono ?_
        rintro e' w9 ⟨rfl, hb9⟩
        replace hb0 := on hb0 hb9
        replace hr := hr.on hb9
        replace c0 := kept hb9 c0
        replace c3 := kept hb9 c3
        replace c4 := kept hb9 c4
        replace HZ2k := Lib.hid (HZ2k.out.on hb9)
        clear hb9 c1 c2
        have lr := hr.1
        go_wp2_with fail
        refine (HF.out _ HZ2k.out).mono ?_
        rintro e' w9 ⟨rfl, hb9⟩
        replace hb0 := on hb0 hb9
        replace hr := hr.on hb9
        clear hb9 c0
        have lr := hr.1
        obtain ⟨r0, r1, f0, f1⟩ := hr.two
        obtain ⟨e0, e1, _⟩ := (hr.put2 (.int .i64 k) (.int .i64 7)).two
        go_wp2
        exact bodyPost_ret (v := .agg #[.int .i64 k, .int .i64 7]) (by simp [results, Tryz.results23, go_sem, e0, e1]) rfl ⟨rfl, set2 hb0 (by omega) _ _⟩
      · -- From False, To None, nobody False, late True
        obtain ⟨hm, hf0, hg⟩ := hway
        have hY : whyG k u us = 10 := by unfold whyG; rw [if_pos hg]
        have HM := Lib.hid (fun w1 => HMm.out _ hm w1)
        have hfe : decide (f < 0) = false := decide_eq_false hf0
        have hgg : decide (31 < (k : Int)) = true := decide_eq_true (by omega)
        obtain ⟨hp, he⟩ := HK2.out.2 (by rw [hY]; decide)
        rw [hY] at he
        subst hp he
        clear hY HK2 hm hf0 hg HMm HMn hf
        go_wp2_with fail
        refine (HM.out _).mono ?_
        rintro e' w9 ⟨rfl, hb9⟩
        replace hb0 := on hb0 hb9
        replace hr := hr.on hb9
        replace c0 := kept hb9 c0
        replace c3 := kept hb9 c3
        replace c4 := kept hb9 c4
        replace HZ2k := Lib.hid (HZ2k.out.on hb9)
        clear hb9 c1 c2
        have lr := hr.1
        go_wp2_with fail
        refine (HF.out _ HZ2k.out).mono ?_
        rintro e' w9 ⟨rfl, hb9⟩
        replace hb0 := on hb0 hb9
        replace hr := hr.on hb9
        clear hb9 c0
        have lr := hr.1
        obtain ⟨r0, r1, f0, f1⟩ := hr.two
        obtain ⟨e0, e1, _⟩ := (hr.put2 (.int .i64 k) (.int .i64 10)).two
        go_wp2
        exact bodyPost_ret (v := .agg #[.int .i64 k, .int .i64 10]) (by simp [results, Tryz.results23, go_sem, e0, e1]) rfl ⟨rfl, set2 hb0 (by omega) _ _⟩
      · -- From False, To None, nobody True, late False
        obtain ⟨hm, hf0, hg⟩ := hway
        have hY : whyG k u us = 11 := by unfold whyG; rw [if_neg hg, hf, if_pos hf0]
        have HM := Lib.hid (fun w1 => HMm.out _ hm w1)
        have hfe : decide (f < 0) = true := decide_eq_true hf0
        have hgg : decide (31 < (k : Int)) = false := decide_eq_false (by omega)
        obtain ⟨hp, he⟩ := HK2.out.2 (by rw [hY]; decide)
        rw [hY] at he
        subst hp he
        clear hY HK2 hm hf0 hg HMm HMn hf
        go_wp2_with fail
        refine (HM.out _).mono ?_
        rintro e' w9 ⟨rfl, hb9⟩
        replace hb0 := on hb0 hb9
        replace hr := hr.on hb9
        replace c0 := kept hb9 c0
        replace c3 := kept hb9 c3
        replace c4 := kept hb9 c4
        replace HZ2k := Lib.hid (HZ2k.out.on hb9)
        clear hb9 c1 c2
        have lr := hr.1
        go_wp2_with fail
        refine (HF.out _ HZ2k.out).mono ?_
        rintro e' w9 ⟨rfl, hb9⟩
        replace hb0 := on hb0 hb9
        replace hr := hr.on hb9
        clear hb9 c0
        have lr := hr.1
        obtain ⟨r0, r1, f0, f1⟩ := hr.two
        obtain ⟨e0, e1, _⟩ := (hr.put2 (.int .i64 k) (.int .i64 11)).two
        go_wp2
        exact bodyPost_ret (v := .agg #[.int .i64 k, .int .i64 11]) (by simp [results, Tryz.results23, go_sem, e0, e1]) rfl ⟨rfl, set2 hb0 (by omega) _ _⟩
      · -- From False, To None, nobody True, late True
        obtain ⟨hm, hf0, hg⟩ := hway
        have hY : whyG k u us = 10 := by unfold whyG; rw [if_pos hg]
        have HM := Lib.hid (fun w1 => HMm.out _ hm w1)
        have hfe : decide (f < 0) = true := decide_eq_true hf0
        have hgg : decide (31 < (k : Int)) = true := decide_eq_true (by omega)
        obtain ⟨hp, he⟩ := HK2.out.2 (by rw [hY]; decide)
        rw [hY] at he
        subst hp he
        clear hY HK2 hm hf0 hg HMm HMn hf
        go_wp2_with fail
        refine (HM.out _).mono ?_
        rintro e' w9 ⟨rfl, hb9⟩
        replace hb0 := on hb0 hb9
        replace hr := hr.on hb9
        replace c0 := kept hb9 c0
        replace c3 := kept hb9 c3
        replace c4 := kept hb9 c4
        replace HZ2k := Lib.hid (HZ2k.out.on hb9)
        clear hb9 c1 c2
        have lr := hr.1
        go_wp2_with fail
        refine (HF.out _ HZ2k.out).mono ?_
        rintro e' w9 ⟨rfl, hb9⟩
        replace hb0 := on hb0 hb9
        replace hr := hr.on hb9
        clear hb9 c0
        have lr := hr.1
        obtain ⟨r0, r1, f0, f1⟩ := hr.two
        obtain ⟨e0, e1, _⟩ := (hr.put2 (.int .i64 k) (.int .i64 10)).two
        go_wp2
        exact bodyPost_ret (v := .agg #[.int .i64 k, .int .i64 10]) (by simp [results, Tryz.results23, go_sem, e0, e1]) rfl ⟨rfl, set2 hb0 (by omega) _ _⟩
      · -- From True, To False, nobody False, late False
        obtain ⟨hm, hm2, hf0, hg⟩ := hway
        have hY : whyG k u us = 7 := by unfold whyG; rw [if_neg hg, hf, if_neg hf0, if_pos (.inr hm2)]
        have HM := Lib.hid (fun w1 => HMm.out _ hm w1)
        have HM2 := Lib.hid (fun w1 => HMn.out _ hm2 w1)
        have hfe : decide (f < 0) = false := decide_eq_false hf0
        have hgg : decide (31 < (k : Int)) = false := decide_eq_false (by omega)
        obtain ⟨hp, he⟩ := HK2.out.2 (by rw [hY]; decide)
        rw [hY] at he
        subst hp he
        clear hY HK2 hm hm2 hf0 hg HMm HMn hf
        go_wp2_with fail
        refine (HM.out _).mono ?_
        rintro e' w9 ⟨rfl, hb9⟩
        replace hb0 := on hb0 hb9
        replace hr := hr.on hb9
        replace c0 := kept hb9 c0
        replace c3 := kept hb9 c3
        replace c4 := kept hb9 c4
        replace HZ2k := Lib.hid (HZ2k.out.on hb9)
        clear hb9 c1 c2
        have lr := hr.1
        go_wp2_with fail
        refine (HM2.out _).mono ?_
        rintro e' w9 ⟨rfl, hb9⟩
        replace hb0 := on hb0 hb9
        replace hr := hr.on hb9
        replace c0 := kept hb9 c0
        replace HZ2k := Lib.hid (HZ2k.out.on hb9)
        clear hb9 c3 c4
        have lr := hr.1
        go_wp2_with fail
        refine (HF.out _ HZ2k.out).mono ?_
        rintro e' w9 ⟨rfl, hb9⟩
        replace hb0 := on hb0 hb9
        replace hr := hr.on hb9
        clear hb9 c0
        have lr := hr.1
        obtain ⟨r0, r1, f0, f1⟩ := hr.two
        obtain ⟨e0, e1, _⟩ := (hr.put2 (.int .i64 k) (.int .i64 7)).two
        go_wp2
        exact bodyPost_ret (v := .agg #[.int .i64 k, .int .i64 7]) (by simp [results, Tryz.results23, go_sem, e0, e1]) rfl ⟨rfl, set2 hb0 (by omega) _ _⟩
      · -- From True, To False, nobody False, late True
        obtain ⟨hm, hm2, hf0, hg⟩ := hway
        have hY : whyG k u us = 10 := by unfold whyG; rw [if_pos hg]
        have HM := Lib.hid (fun w1 => HMm.out _ hm w1)
        have HM2 := Lib.hid (fun w1 => HMn.out _ hm2 w1)
        have hfe : decide (f < 0) = false := decide_eq_false hf0
        have hgg : decide (31 < (k : Int)) = true := decide_eq_true (by omega)
        obtain ⟨hp, he⟩ := HK2.out.2 (by rw [hY]; decide)
        rw [hY] at he
        subst hp he
        clear hY HK2 hm hm2 hf0 hg HMm HMn hf
        go_wp2_with fail
        refine (HM.out _).mono ?_
        rintro e' w9 ⟨rfl, hb9⟩
        replace hb0 := on hb0 hb9
        replace hr := hr.on hb9
        replace c0 := kept hb9 c0
        replace c3 := kept hb9 c3
        replace c4 := kept hb9 c4
        replace HZ2k := Lib.hid (HZ2k.out.on hb9)
        clear hb9 c1 c2
        have lr := hr.1
        go_wp2_with fail
        refine (HM2.out _).mono ?_
        rintro e' w9 ⟨rfl, hb9⟩
        replace hb0 := on hb0 hb9
        replace hr := hr.on hb9
        replace c0 := kept hb9 c0
        replace HZ2k := Lib.hid (HZ2k.out.on hb9)
        clear hb9 c3 c4
        have lr := hr.1
        go_wp2_with fail
        refine (HF.out _ HZ2k.out).mono ?_
        rintro e' w9 ⟨rfl, hb9⟩
        replace hb0 := on hb0 hb9
        replace hr := hr.on hb9
        clear hb9 c0
        have lr := hr.1
        obtain ⟨r0, r1, f0, f1⟩ := hr.two
        obtain ⟨e0, e1, _⟩ := (hr.put2 (.int .i64 k) (.int .i64 10)).two
        go_wp2
        exact bodyPost_ret (v := .agg #[.int .i64 k, .int .i64 10]) (by simp [results, Tryz.results23, go_sem, e0, e1]) rfl ⟨rfl, set2 hb0 (by omega) _ _⟩
      · -- From True, To False, nobody True, late False
        obtain ⟨hm, hm2, hf0, hg⟩ := hway
        have hY : whyG k u us = 11 := by unfold whyG; rw [if_neg hg, hf, if_pos hf0]
        have HM := Lib.hid (fun w1 => HMm.out _ hm w1)
        have HM2 := Lib.hid (fun w1 => HMn.out _ hm2 w1)
        have hfe : decide (f < 0) = true := decide_eq_true hf0
        have hgg : decide (31 < (k : Int)) = false := decide_eq_false (by omega)
        obtain ⟨hp, he⟩ := HK2.out.2 (by rw [hY]; decide)
        rw [hY] at he
        subst hp he
        clear hY HK2 hm hm2 hf0 hg HMm HMn hf
        go_wp2_with fail
        refine (HM.out _).mono ?_
        rintro e' w9 ⟨rfl, hb9⟩
        replace hb0 := on hb0 hb9
        replace hr := hr.on hb9
        replace c0 := kept hb9 c0
        replace c3 := kept hb9 c3
        replace c4 := kept hb9 c4
        replace HZ2k := Lib.hid (HZ2k.out.on hb9)
        clear hb9 c1 c2
        have lr := hr.1
        go_wp2_with fail
        refine (HM2.out _).mono ?_
        rintro e' w9 ⟨rfl, hb9⟩
        replace hb0 := on hb0 hb9
        replace hr := hr.on hb9
        replace c0 := kept hb9 c0
        replace HZ2k := Lib.hid (HZ2k.out.on hb9)
        clear hb9 c3 c4
        have lr := hr.1
        go_wp2_with fail
        refine (HF.out _ HZ2k.out).mono ?_
        rintro e' w9 ⟨rfl, hb9⟩
        replace hb0 := on hb0 hb9
        replace hr := hr.on hb9
        clear hb9 c0
        have lr := hr.1
        obtain ⟨r0, r1, f0, f1⟩ := hr.two
        obtain ⟨e0, e1, _⟩ := (hr.put2 (.int .i64 k) (.int .i64 11)).two
        go_wp2
        exact bodyPost_ret (v := .agg #[.int .i64 k, .int .i64 11]) (by simp [results, Tryz.results23, go_sem, e0, e1]) rfl ⟨rfl, set2 hb0 (by omega) _ _⟩
      · -- From True, To False, nobody True, late True
        obtain ⟨hm, hm2, hf0, hg⟩ := hway
        have hY : whyG k u us = 10 := by unfold whyG; rw [if_pos hg]
        have HM := Lib.hid (fun w1 => HMm.out _ hm w1)
        have HM2 := Lib.hid (fun w1 => HMn.out _ hm2 w1)
        have hfe : decide (f < 0) = true := decide_eq_true hf0
        have hgg : decide (31 < (k : Int)) = true := decide_eq_true (by omega)
        obtain ⟨hp, he⟩ := HK2.out.2 (by rw [hY]; decide)
        rw [hY] at he
        subst hp he
        clear hY HK2 hm hm2 hf0 hg HMm HMn hf
        go_wp2_with fail
        refine (HM.out _).mono ?_
        rintro e' w9 ⟨rfl, hb9⟩
        replace hb0 := on hb0 hb9
        replace hr := hr.on hb9
        replace c0 := kept hb9 c0
        replace c3 := kept hb9 c3
        replace c4 := kept hb9 c4
        replace HZ2k := Lib.hid (HZ2k.out.on hb9)
        clear hb9 c1 c2
        have lr := hr.1
        go_wp2_with fail
        refine (HM2.out _).mono ?_
        rintro e' w9 ⟨rfl, hb9⟩
        replace hb0 := on hb0 hb9
        replace hr := hr.on hb9
        replace c0 := kept hb9 c0
        replace HZ2k := Lib.hid (HZ2k.out.on hb9)
        clear hb9 c3 c4
        have lr := hr.1
        go_wp2_with fail
        refine (HF.out _ HZ2k.out).mono ?_
        rintro e' w9 ⟨rfl, hb9⟩
        replace hb0 := on hb0 hb9
        replace hr := hr.on hb9
        clear hb9 c0
        have lr := hr.1
        obtain ⟨r0, r1, f0, f1⟩ := hr.two
        obtain ⟨e0, e1, _⟩ := (hr.put2 (.int .i64 k) (.int .i64 10)).two
        go_wp2
        exact bodyPost_ret (v := .agg #[.int .i64 k, .int .i64 10]) (by simp [results, Tryz.results23, go_sem, e0, e1]) rfl ⟨rfl, set2 hb0 (by omega) _ _⟩
      · -- From True, To True, nobody False, late False
        obtain ⟨hm, hm2, hf0, hg⟩ := hway
        have hY : whyG k u us = 0 := by unfold whyG; rw [if_neg hg, hf, if_neg hf0, if_neg (by rw [hm, hm2]; simp)]
        have HM := Lib.hid (fun w1 => HMm.out _ hm w1)
        have HM2 := Lib.hid (fun w1 => HMn.out _ hm2 w1)
        have hfe : decide (f < 0) = false := decide_eq_false hf0
        have hgg : decide (31 < (k : Int)) = false := decide_eq_false (by omega)
        have HN := Lib.hid (HK2.out.1 hY)
        clear hY HK2 hm hm2 hf0 hg HMm HMn hf
        go_wp2_with fail
        refine (HM.out _).mono ?_
        rintro e' w9 ⟨rfl, hb9⟩
        replace hb0 := on hb0 hb9
        replace hr := hr.on hb9
        replace c0 := kept hb9 c0
        replace c3 := kept hb9 c3
        replace c4 := kept hb9 c4
        replace HZ2k := Lib.hid (HZ2k.out.on hb9)
        clear hb9 c1 c2
        have lr := hr.1
        go_wp2_with fail
        refine (HM2.out _).mono ?_
        rintro e' w9 ⟨rfl, hb9⟩
        replace hb0 := on hb0 hb9
        replace hr := hr.on hb9
        replace c0 := kept hb9 c0
        replace HZ2k := Lib.hid (HZ2k.out.on hb9)
        clear hb9 c3 c4
        have lr := hr.1
        go_wp2_with fail
        refine (HF.out _ HZ2k.out).mono ?_
        rintro e' w9 ⟨rfl, hb9⟩
        replace hb0 := on hb0 hb9
        replace hr := hr.on hb9
        clear hb9 c0
        have lr := hr.1
        go_wp2
        go_roundw
        case rel => exact ⟨k + 1, by omega, by go_num, HN, hb0, hr⟩
        case measure => simp [intOf]; omega
      · -- From True, To True, nobody False, late True
        obtain ⟨hm, hm2, hf0, hg⟩ := hway
        have hY : whyG k u us = 10 := by unfold whyG; rw [if_pos hg]
        have HM := Lib.hid (fun w1 => HMm.out _ hm w1)
        have HM2 := Lib.hid (fun w1 => HMn.out _ hm2 w1)
        have hfe : decide (f < 0) = false := decide_eq_false hf0
        have hgg : decide (31 < (k : Int)) = true := decide_eq_true (by omega)
        obtain ⟨hp, he⟩ := HK2.out.2 (by rw [hY]; decide)
        rw [hY] at he
        subst hp he
        clear hY HK2 hm hm2 hf0 hg HMm HMn hf
        go_wp2_with fail
        refine (HM.out _).mono ?_
        rintro e' w9 ⟨rfl, hb9⟩
        replace hb0 := on hb0 hb9
        replace hr := hr.on hb9
        replace c0 := kept hb9 c0
        replace c3 := kept hb9 c3
        replace c4 := kept hb9 c4
        replace HZ2k := Lib.hid (HZ2k.out.on hb9)
        clear hb9 c1 c2
        have lr := hr.1
        go_wp2_with fail
        refine (HM2.out _).mono ?_
        rintro e' w9 ⟨rfl, hb9⟩
        replace hb0 := on hb0 hb9
        replace hr := hr.on hb9
        replace c0 := kept hb9 c0
        replace HZ2k := Lib.hid (HZ2k.out.on hb9)
        clear hb9 c3 c4
        have lr := hr.1
        go_wp2_with fail
        refine (HF.out _ HZ2k.out).mono ?_
        rintro e' w9 ⟨rfl, hb9⟩
        replace hb0 := on hb0 hb9
        replace hr := hr.on hb9
        clear hb9 c0
        have lr := hr.1
        obtain ⟨r0, r1, f0, f1⟩ := hr.two
        obtain ⟨e0, e1, _⟩ := (hr.put2 (.int .i64 k) (.int .i64 10)).two
        go_wp2
        exact bodyPost_ret (v := .agg #[.int .i64 k, .int .i64 10]) (by simp [results, Tryz.results23, go_sem, e0, e1]) rfl ⟨rfl, set2 hb0 (by omega) _ _⟩
      · -- From True, To True, nobody True, late False
        obtain ⟨hm, hm2, hf0, hg⟩ := hway
        have hY : whyG k u us = 11 := by unfold whyG; rw [if_neg hg, hf, if_pos hf0]
        have HM := Lib.hid (fun w1 => HMm.out _ hm w1)
        have HM2 := Lib.hid (fun w1 => HMn.out _ hm2 w1)
        have hfe : decide (f < 0) = true := decide_eq_true hf0
        have hgg : decide (31 < (k : Int)) = false := decide_eq_false (by omega)
        obtain ⟨hp, he⟩ := HK2.out.2 (by rw [hY]; decide)
        rw [hY] at he
        subst hp he
        clear hY HK2 hm hm2 hf0 hg HMm HMn hf
        go_wp2_with fail
        refine (HM.out _).mono ?_
        rintro e' w9 ⟨rfl, hb9⟩
        replace hb0 := on hb0 hb9
        replace hr := hr.on hb9
        replace c0 := kept hb9 c0
        replace c3 := kept hb9 c3
        replace c4 := kept hb9 c4
        replace HZ2k := Lib.hid (HZ2k.out.on hb9)
        clear hb9 c1 c2
        have lr := hr.1
        go_wp2_with fail
        refine (HM2.out _).mono ?_
        rintro e' w9 ⟨rfl, hb9⟩
        replace hb0 := on hb0 hb9
        replace hr := hr.on hb9
        replace c0 := kept hb9 c0
        replace HZ2k := Lib.hid (HZ2k.out.on hb9)
        clear hb9 c3 c4
        have lr := hr.1
        go_wp2_with fail
        refine (HF.out _ HZ2k.out).mono ?_
        rintro e' w9 ⟨rfl, hb9⟩
        replace hb0 := on hb0 hb9
        replace hr := hr.on hb9
        clear hb9 c0
        have lr := hr.1
        obtain ⟨r0, r1, f0, f1⟩ := hr.two
        obtain ⟨e0, e1, _⟩ := (hr.put2 (.int .i64 k) (.int .i64 11)).two
        go_wp2
        exact bodyPost_ret (v := .agg #[.int .i64 k, .int .i64 11]) (by simp [results, Tryz.results23, go_sem, e0, e1]) rfl ⟨rfl, set2 hb0 (by omega) _ _⟩
      · -- From True, To True, nobody True, late True
        obtain ⟨hm, hm2, hf0, hg⟩ := hway
        have hY : whyG k u us = 10 := by unfold whyG; rw [if_pos hg]
        have HM := Lib.hid (fun w1 => HMm.out _ hm w1)
        have HM2 := Lib.hid (fun w1 => HMn.out _ hm2 w1)
        have hfe : decide (f < 0) = true := decide_eq_true hf0
        have hgg : decide (31 < (k : Int)) = true := decide_eq_true (by omega)
        obtain ⟨hp, he⟩ := HK2.out.2 (by rw [hY]; decide)
        rw [hY] at he
        subst hp he
        clear hY HK2 hm hm2 hf0 hg HMm HMn hf
        go_wp2_with fail
        refine (HM.out _).mono ?_
        rintro e' w9 ⟨rfl, hb9⟩
        replace hb0 := on hb0 hb9
        replace hr := hr.on hb9
        replace c0 := kept hb9 c0
        replace c3 := kept hb9 c3
        replace c4 := kept hb9 c4
        replace HZ2k := Lib.hid (HZ2k.out.on hb9)
        clear hb9 c1 c2
        have lr := hr.1
        go_wp2_with fail
        refine (HM2.out _).mono ?_
        rintro e' w9 ⟨rfl, hb9⟩
        replace hb0 := on hb0 hb9
        replace hr := hr.on hb9
        replace c0 := kept hb9 c0
        replace HZ2k := Lib.hid (HZ2k.out.on hb9)
        clear hb9 c3 c4
        have lr := hr.1
        go_wp2_with fail
        refine (HF.out _ HZ2k.out).mono ?_
        rintro e' w9 ⟨rfl, hb9⟩
        replace hb0 := on hb0 hb9
        replace hr := hr.on hb9
        clear hb9 c0
        have lr := hr.1
        obtain ⟨r0, r1, f0, f1⟩ := hr.two
        obtain ⟨e0, e1, _⟩ := (hr.put2 (.int .i64 k) (.int .i64 10)).two
        go_wp2
        exact bodyPost_ret (v := .agg #[.int .i64 k, .int .i64 10]) (by simp [results, Tryz.results23, go_sem, e0, e1]) rfl ⟨rfl, set2 hb0 (by omega) _ _⟩
    · obtain rfl : k = n := by omega
      have HE := HK.out
      rw [← HL.out, wrongG_end] at HE
      simp only [Prod.mk.injEq] at HE
      obtain ⟨rfl, rfl⟩ := HE
      have lr := hr.1
      obtain ⟨r0, r1, f0, f1⟩ := hr.two
      obtain ⟨e0, e1, _⟩ := (hr.put2 (.int .i64 0) (.int .i64 0)).two
      go_wp2
      exact bodyPost_ret (v := .agg #[.int .i64 0, .int .i64 0]) (by simp [results, Tryz.results23, go_sem, e0, e1]) rfl ⟨rfl, set2 hb0 (by omega) _ _⟩
end Go.Proofs.YtmlmanlcomfhbaaGreatDoor.Right
namespace Go.Proofs.YtmlmanlcomfhbaaGreatDoor.Kit
open Go.RowKit Reg

theorem below_none {A B : World} (hb : Below A.heap.size A B) : A.grownBy B none := ⟨hb.os, hb.tape, hb.output, hb.size, fun k hk _ => hb.block k hk⟩
theorem own_on {w w' : World} {B : Nat} {e : TypeId} {size : Nat} {v : Value} {n : Nat} {xs : List Value} (h : w.ownsRow B e size v n xs) (hb : Below w.heap.size w w') : w'.ownsRow B e size v n xs := World.ownsRow.kept h (below_none hb) (by
  rcases h.2 with ⟨rfl, _⟩ | ⟨g, cap, cur, rfl, _⟩
  · exact .inl rfl
  · exact .inr (by simp [Value.ownBlock]))
/-- cells stay where another block turns -/
theorem cells_grown {A B : World} {b : Nat} {cs : List Value} {row : Option Nat} (h : CellsAt A b cs) (hg : A.grownBy B row) (hne : some b ≠ row) : CellsAt B b cs := by
  have hb := hg.block b h.1 hne
  exact ⟨Nat.lt_of_lt_of_le h.1 hg.size, fun i v hi => ⟨(World.cell?_of_block (a := ⟨b, i, none⟩) hb).trans (h.2 i v hi).1, (World.frozen?_of_block (a := ⟨b, i, none⟩) hb).trans (h.2 i v hi).2⟩⟩
theorem own_new {w : World} {B : Nat} {e : TypeId} {size : Nat} {A : Option Addr} {m cap n : Nat} {xs : List Value} {g : Nat} (h : w.ownsRow B e size (.slice A m cap) n xs) (hA : A = some ⟨g, 0, none⟩) : B ≤ g ∧ g < w.heap.size := by
  subst hA
  exact World.ownsRow.lt h g (by simp [Value.ownBlock])
/-- where a row's own block is -/
theorem own_far {w : World} {B : Nat} {e : TypeId} {size : Nat} {v : Value} {n : Nat} {xs : List Value} (h : w.ownsRow B e size v n xs) {b : Nat} (hb : b < B) : some b ≠ v.ownBlock := fun e => by
  have := (World.ownsRow.lt h b e.symm).1
  omega
end Go.Proofs.YtmlmanlcomfhbaaGreatDoor.Kit
namespace Go.Proofs.YtmlmanlcomfhbaaGreatDoor.Right
open Go.RowKit Kit Reg Go.Proofs.YtmlmanlcomfhbaaGreatDoor.Lab
open Go.Proofs.YtmlmanlcomfhbaaGreatDoor.Cats (U U_or U_zero)

theorem infoG : (Tryz.prog.info? 78).map (fun i => (i.zero, i.size, i.bytes)) = some (some (.agg #[.string ⟨#[]⟩, .int .i64 0, .int .u64 0, .int .i64 0, .int .u64 0]), 5, 48) := by kernel_rfl
theorem infoS : (Tryz.prog.info? 9).map (fun i => (i.zero, i.size, i.bytes)) = some (some (.string ⟨#[]⟩), 1, 16) := by kernel_rfl
def flatG : List Gr → List Value
  | [] => []
  | z :: r => z.cells ++ flatG r
theorem cells_len (z : Gr) : z.cells.length = 5 := rfl
theorem flatG_length : ∀ zs : List Gr, (flatG zs).length = zs.length * 5
  | [] => rfl
  | z :: r => by rw [flatG, List.length_append, flatG_length r, cells_len, List.length_cons]; omega
theorem flatG_append : ∀ zs ys : List Gr, flatG (zs ++ ys) = flatG zs ++ flatG ys
  | [], _ => rfl
  | z :: r, ys => by rw [List.cons_append, flatG, flatG, flatG_append r, List.append_assoc]
theorem flatG_snoc (zs : List Gr) (z : Gr) : flatG (zs ++ [z]) = flatG zs ++ z.cells := by rw [flatG_append]; simp [flatG]
theorem flatG_at : ∀ (zs : List Gr) (k : Nat) (z : Gr), zs[k]? = some z → ∀ j v, z.cells[j]? = some v → (flatG zs)[k * 5 + j]? = some v
  | [], _, _, h, _, _, _ => by simp at h
  | d :: r, 0, z, h, j, v, hj => by
    simp only [List.getElem?_cons_zero, Option.some.injEq] at h
    subst h
    have hl : j < 5 := (List.getElem?_eq_some_iff.1 hj).1
    rw [flatG, List.getElem?_append_left (by rw [cells_len]; omega), Nat.zero_mul, Nat.zero_add]
    exact hj
  | d :: r, k + 1, z, h, j, v, hj => by
    have h2 := flatG_at r k z (by simpa using h) j v hj
    rw [flatG, List.getElem?_append_right (by rw [cells_len]; omega), cells_len, show (k + 1) * 5 + j - 5 = k * 5 + j by omega]
    exact h2
theorem grant_new (w : World) (z : Gr) : ∀ j v, z.cells[j]? = some v → (w.alloc (.cells z.cells.toArray 78)).cell? ((⟨w.heap.size, 0, none⟩ : Addr).add j) = some v := by
  intro j v hj
  rw [show ((⟨w.heap.size, 0, none⟩ : Addr).add j) = ⟨w.heap.size, j, none⟩ by unfold Addr.add; split <;> simp_all]
  exact ((CellsAt.new w z.cells 78).2 j v hj).1
def OwnG (B : Nat) (v : Value) (zs : List Gr) (w : World) : Prop := w.ownsRow B 78 5 v zs.length (flatG zs)
theorem OwnG.on {B : Nat} {v : Value} {zs : List Gr} {w w' : World} (h : OwnG B v zs w) (hb : Below w.heap.size w w') : OwnG B v zs w' := own_on h hb
theorem OwnG.grants {B n : Nat} {v : Value} {zs : List Gr} {w : World} (h : OwnG B v zs w) (hn : zs.length = n) (hm : n ≤ 140737488355328) (hu : ∀ z ∈ zs, U z.s ∧ U z.r) : ∃ A cap, v = .slice A n cap ∧ GrantsR w A n zs := by
  subst hn
  have h0 := h
  rcases h.2 with ⟨rfl, h1⟩ | ⟨g, cap, cur, rfl, hb, hg, hrest⟩
  · exact ⟨_, _, by rw [h1], rfl, hm, hu, fun hn => absurd h1 hn⟩
  · refine ⟨_, _, rfl, rfl, hm, hu, fun _ => ⟨g, 0, rfl, (Array.getElem?_eq_some_iff.1 hg).1, fun k z hk j v hj => ?_⟩⟩
    have hkl : k < zs.length := (List.getElem?_eq_some_iff.1 hk).1
    have hj5 : j < 5 := (List.getElem?_eq_some_iff.1 hj).1
    rw [Nat.zero_add]
    exact (World.ownsRow.cellAt h0 (k * 5 + j) (by omega)).trans (flatG_at zs k z hk j v hj)
/-- texts -/
def strs (ns : List ByteArray) : List Value := ns.map Value.string
theorem strs_snoc (ns : List ByteArray) (n : ByteArray) : strs (ns ++ [n]) = strs ns ++ [.string n] := by simp [strs]
theorem strs_length (ns : List ByteArray) : (strs ns).length = ns.length := by simp [strs]
def OwnS (B : Nat) (v : Value) (ns : List ByteArray) (w : World) : Prop := w.ownsRow B 9 1 v ns.length (strs ns)
theorem OwnS.on {B : Nat} {v : Value} {ns : List ByteArray} {w w' : World} (h : OwnS B v ns w) (hb : Below w.heap.size w w') : OwnS B v ns w' := own_on h hb
/-- a slice that reads as texts -/
def StrsR (w : World) (v : Value) (ns : List ByteArray) : Prop := ∃ A cap, v = .slice A ns.length cap ∧ (ns = [] ∨ ∃ g, A = some ⟨g, 0, none⟩ ∧ g < w.heap.size ∧ ∀ i n, ns[i]? = some n → w.cell? ⟨g, i, none⟩ = some (.string n))
theorem StrsR.on {w w' : World} {v : Value} {ns : List ByteArray} (h : StrsR w v ns) (hb : Below w.heap.size w w') : StrsR w' v ns := by
  obtain ⟨A, cap, hv, h | ⟨g, hA, hg, h⟩⟩ := h
  · exact ⟨A, cap, hv, .inl h⟩
  · exact ⟨A, cap, hv, .inr ⟨g, hA, Nat.lt_of_lt_of_le hg hb.size, fun i c hc => (hb.cell (p := ⟨g, i, none⟩) hg).trans (h i c hc)⟩⟩
theorem OwnS.strs {B : Nat} {v : Value} {ns : List ByteArray} {w : World} (h : OwnS B v ns w) : StrsR w v ns := by
  have h0 := h
  rcases h.2 with ⟨rfl, h1⟩ | ⟨g, cap, cur, rfl, hb, hg, hrest⟩
  · exact ⟨_, _, by rw [h1], .inl (List.eq_nil_of_length_eq_zero h1)⟩
  · refine ⟨_, _, rfl, .inr ⟨g, rfl, (Array.getElem?_eq_some_iff.1 hg).1, fun i c hc => ?_⟩⟩
    have hi : i < ns.length := (List.getElem?_eq_some_iff.1 hc).1
    exact (World.ownsRow.cellAt h0 i (by omega)).trans (by simp [Right.strs, hc])
end Go.Proofs.YtmlmanlcomfhbaaGreatDoor.Right
namespace Go.Proofs.YtmlmanlcomfhbaaGreatDoor.Right
open Go.RowKit Kit Reg Go.Proofs.YtmlmanlcomfhbaaGreatDoor.Lab
open Go.Proofs.YtmlmanlcomfhbaaGreatDoor.Cats (U U_or U_zero)

/-- up to where the first user of a name may act -/
def clearF : List Us → ByteArray → Int × Nat × Bool
  | [], _ => (0, 0, false)
  | u :: r, t => if (u.name.toList == t.toList) = true then (u.l, u.s, true) else clearF r t
theorem clear_find : ∀ (us : List Us) (t : ByteArray) (k : Nat), (findI us t k = -1 ∧ clearF us t = (0, 0, false)) ∨ ∃ i u, us[i]? = some u ∧ findI us t k = ((k + i : Nat) : Int) ∧ clearF us t = (u.l, u.s, true)
  | [], _, _ => .inl ⟨rfl, rfl⟩
  | u :: r, t, k => by
    unfold findI clearF
    by_cases h : (u.name.toList == t.toList) = true
    · rw [if_pos h, if_pos h]
      exact .inr ⟨0, u, rfl, by simp, rfl⟩
    · rw [if_neg h, if_neg h]
      rcases clear_find r t (k + 1) with ⟨h1, h2⟩ | ⟨i, v, h1, h2, h3⟩
      · exact .inl ⟨h1, h2⟩
      · exact .inr ⟨i + 1, v, by simpa using h1, by rw [h2]; congr 1; omega, h3⟩
def leaksB (gs : List Gr) (l : Int) (s : Nat) : Bool := gs.any fun g => g.leaks l s
theorem leaksB_len (gs : List Gr) (l : Int) (s : Nat) : leaksB gs l s = decide (0 < (leakyF gs l s).length) := by
  rw [Bool.eq_iff_iff, decide_eq_true_eq, List.length_pos_iff_exists_mem, leaksB, List.any_eq_true]
  exact ⟨fun ⟨g, h1, h2⟩ => ⟨g, List.mem_filter.2 ⟨h1, h2⟩⟩, fun ⟨g, h⟩ => ⟨g, (List.mem_filter.1 h).1, (List.mem_filter.1 h).2⟩⟩

def NameSays : Prop := ∀ (t : ByteArray) (w : World), Calls Tryz.prog 63 #[.string t] w fun e w' => e = .returned (.bool (nameB t.data.toList)) ∧ Below w.heap.size w w'
def FindSays : Prop := ∀ (A : Option Addr) (n cap : Nat) (us : List Us) (t : ByteArray) (w : World), UsersR w A n us →
  Calls Tryz.prog 62 #[.slice A n cap, .string t] w fun e w' => e = .returned (.tuple #[.agg #[.int .i64 (clearF us t).1, .int .u64 (clearF us t).2.1], .bool (clearF us t).2.2]) ∧ Below w.heap.size w w'
def UsersSays : Prop := ∀ (A : Option Addr) (n cap : Nat) (us : List Us) (w : World), n ≤ cap → UsersR w A n us →
  Calls Tryz.prog 19 #[.slice A n cap] w fun e w' => e = .returned (.tuple #[.int .i64 (wrongU us 0 us).1, .int .i64 (wrongU us 0 us).2]) ∧ Below w.heap.size w w'
def GrantsSays : Prop := ∀ (A : Option Addr) (n cap : Nat) (gs : List Gr) (A2 : Option Addr) (n2 cap2 : Nat) (us : List Us) (w : World), GrantsR w A n gs → UsersR w A2 n2 us →
  Calls Tryz.prog 20 #[.slice A n cap, .slice A2 n2 cap2] w fun e w' => e = .returned (.tuple #[.int .i64 (wrongG us 0 gs).1, .int .i64 (wrongG us 0 gs).2]) ∧ Below w.heap.size w w'
end Go.Proofs.YtmlmanlcomfhbaaGreatDoor.Right
