/- The first user that is wrong, and why: what the reference's Users answers. -/
import Derived.Test.YteolenhgaekihaaRightRefName
namespace Go.Proofs.Yteolenhgaekihaa.Right
open Go.RowKit Kit Reg Go.Proofs.Yteolenhgaekihaa.Lab
open Go.Proofs.Yteolenhgaekihaa.Cats (U U_or U_zero)

theorem wrongU_hit {us r : List Us} {k : Nat} {u : Us} (h : r[k]? = some u) (hh : whyU k u (findI us u.name 0) ≠ 0) : wrongU us k (r.drop k) = ((k : Int), whyU k u (findI us u.name 0)) := by rw [drop_at h, wrongU, if_neg hh]
theorem wrongU_miss {us r : List Us} {k : Nat} {u : Us} (h : r[k]? = some u) (hh : whyU k u (findI us u.name 0) = 0) : wrongU us k (r.drop k) = wrongU us (k + 1) (r.drop (k + 1)) := by rw [drop_at h, wrongU, if_pos hh]
theorem wrongU_end (us r : List Us) : wrongU us r.length (r.drop r.length) = (0, 0) := by rw [List.drop_length]; rfl
set_option maxRecDepth 100000 in
set_option maxHeartbeats 16000000 in
theorem rusers_c (A : Option Addr) (n cap : Nat) (us : List Us) (p e : Int) (hc : wrongU us 0 us = (p, e)) (w : World) (hz : UsersR w A n us) :
    Calls Try.prog 13 #[.slice A n cap] w fun e' w' => e' = .returned (.agg #[.int .i64 p, .int .i64 e]) ∧ Below w.heap.size w w' := by
  obtain ⟨hlen, hmax, _, _⟩ := id hz
  have HZ := Lib.hid hz
  have HL := Lib.hid hlen
  have HC := Lib.hid hc
  clear hz hlen hc
  have hb0 := below1 w (.cells #[.int .i64 0, .int .i64 0] 37)
  have hr := CellsAt.new w [.int .i64 0, .int .i64 0] 37
  go_enter Try.func13, Try.ntmps13
  go_wp2
  go_loopw [3] (fun i wr => ∃ k : Nat, k ≤ n ∧ i = .int .i64 k ∧ Hid (wrongU us k (us.drop k) = (p, e)) ∧ Below w.heap.size w wr ∧ CellsAt wr w.heap.size [.int .i64 0, .int .i64 0]) (fun i _ => n - (intOf i).toNat)
  case atStart => exact ⟨0, Nat.zero_le _, rfl, HC, hb0, hr⟩
  case round =>
    clear hb0 hr
    obtain ⟨k, hk, rfl, HK, hb0, hr⟩ := hrel
    by_cases hlt : k < n
    · obtain ⟨u, huk⟩ : ∃ u, us[k]? = some u := ⟨_, List.getElem?_eq_getElem (by rw [HL.out]; exact hlt)⟩
      have HZk := Lib.hid (HZ.out.on hb0)
      obtain ⟨_, _, _, h4⟩ := HZk.out
      obtain ⟨bb, o, rfl, hblt, hcell⟩ := h4 (by omega)
      obtain ⟨f, hf⟩ : ∃ f, findI us u.name 0 = f := ⟨_, rfl⟩
      have HK2 : Hid ((whyU k u f = 0 → wrongU us (k + 1) (us.drop (k + 1)) = (p, e)) ∧ (whyU k u f ≠ 0 → (k : Int) = p ∧ whyU k u f = e)) := by
        rw [← hf]
        refine Lib.hid ⟨fun hh => by rw [← wrongU_miss huk hh]; exact HK.out, fun hh => ?_⟩
        have := HK.out
        rw [wrongU_hit huk hh] at this
        simpa using this
      obtain ⟨c0, c1, c2⟩ := user_cells (hcell k u huk)
      have lr := hr.1
      have HF := Lib.hid (fun w1 h => rfind_c (some ⟨bb, o, none⟩) n cap us u.name f hf w1 h)
      have HMm := Lib.hid (fun m hm w1 => rmay_c u.l u.s m hm w1)
      have HNm := Lib.hid (fun r hr w1 => rname_c u.name r hr w1)
      clear h4 hcell huk hf HK
      rcases (show (mayL u.l = true ∧ f = k ∧ nameB u.name.data.toList = true ∧ ¬ 15 < k) ∨ (mayL u.l = true ∧ f = k ∧ nameB u.name.data.toList = true ∧ 15 < k) ∨ (mayL u.l = true ∧ f = k ∧ nameB u.name.data.toList = false ∧ ¬ 15 < k) ∨ (mayL u.l = true ∧ f = k ∧ nameB u.name.data.toList = false ∧ 15 < k) ∨ (mayL u.l = true ∧ f ≠ k ∧ nameB u.name.data.toList = true ∧ ¬ 15 < k) ∨ (mayL u.l = true ∧ f ≠ k ∧ nameB u.name.data.toList = true ∧ 15 < k) ∨ (mayL u.l = true ∧ f ≠ k ∧ nameB u.name.data.toList = false ∧ ¬ 15 < k) ∨ (mayL u.l = true ∧ f ≠ k ∧ nameB u.name.data.toList = false ∧ 15 < k) ∨ (mayL u.l = false ∧ f = k ∧ nameB u.name.data.toList = true ∧ ¬ 15 < k) ∨ (mayL u.l = false ∧ f = k ∧ nameB u.name.data.toList = true ∧ 15 < k) ∨ (mayL u.l = false ∧ f = k ∧ nameB u.name.data.toList = false ∧ ¬ 15 < k) ∨ (mayL u.l = false ∧ f = k ∧ nameB u.name.data.toList = false ∧ 15 < k) ∨ (mayL u.l = false ∧ f ≠ k ∧ nameB u.name.data.toList = true ∧ ¬ 15 < k) ∨ (mayL u.l = false ∧ f ≠ k ∧ nameB u.name.data.toList = true ∧ 15 < k) ∨ (mayL u.l = false ∧ f ≠ k ∧ nameB u.name.data.toList = false ∧ ¬ 15 < k) ∨ (mayL u.l = false ∧ f ≠ k ∧ nameB u.name.data.toList = false ∧ 15 < k) by
        by_cases hg : 15 < k <;> by_cases hf : f = k <;> cases mayL u.l <;> cases nameB u.name.data.toList <;> simp [hg, hf]) with hway | hway | hway | hway | hway | hway | hway | hway | hway | hway | hway | hway | hway | hway | hway | hway
      · -- may True, alone True, name True, late False
        obtain ⟨hm, hf, hn, hg⟩ := hway
        have hY : whyU k u f = 0 := by unfold whyU; rw [if_neg hg, if_neg (by rw [hn]; simp), if_neg (by rw [hf]; simp), if_neg (by rw [hm]; simp)]
        have HM := Lib.hid (fun w1 => HMm.out _ hm w1)
        have HNb := Lib.hid (fun w1 => HNm.out _ hn w1)
        have hfe : (f == (k : Int)) = true := by rw [hf]; simp
        have hgg : decide (15 < (k : Int)) = false := decide_eq_false (by omega)
        have HN := Lib.hid (HK2.out.1 hY)
        clear hY HK2 hm hn hg HMm HNm
        clear hf
        go_wp2_with fail
        refine (HM.out _).mono ?_
        rintro e' w9 ⟨rfl, hb9⟩
        replace hb0 := on hb0 hb9
        replace hr := hr.on hb9
        replace c0 := kept hb9 c0
        replace HZk := Lib.hid (HZk.out.on hb9)
        clear hb9 c1 c2
        have lr := hr.1
        go_wp2_with fail
        refine (HF.out _ HZk.out).mono ?_
        rintro e' w9 ⟨rfl, hb9⟩
        replace hb0 := on hb0 hb9
        replace hr := hr.on hb9
        replace c0 := kept hb9 c0
        clear hb9
        have lr := hr.1
        go_wp2_with fail
        refine (HNb.out _).mono ?_
        rintro e' w8 ⟨rfl, rfl⟩
        go_wp2
        go_roundw
        case rel => exact ⟨k + 1, by omega, by go_num, HN, hb0, hr⟩
        case measure => simp [intOf]; omega
      · -- may True, alone True, name True, late True
        obtain ⟨hm, hf, hn, hg⟩ := hway
        have hY : whyU k u f = 10 := by unfold whyU; rw [if_pos hg]
        have HM := Lib.hid (fun w1 => HMm.out _ hm w1)
        have HNb := Lib.hid (fun w1 => HNm.out _ hn w1)
        have hfe : (f == (k : Int)) = true := by rw [hf]; simp
        have hgg : decide (15 < (k : Int)) = true := decide_eq_true (by omega)
        obtain ⟨hp, he⟩ := HK2.out.2 (by rw [hY]; decide)
        rw [hY] at he
        subst hp he
        clear hY HK2 hm hn hg HMm HNm
        clear hf
        go_wp2_with fail
        refine (HM.out _).mono ?_
        rintro e' w9 ⟨rfl, hb9⟩
        replace hb0 := on hb0 hb9
        replace hr := hr.on hb9
        replace c0 := kept hb9 c0
        replace HZk := Lib.hid (HZk.out.on hb9)
        clear hb9 c1 c2
        have lr := hr.1
        go_wp2_with fail
        refine (HF.out _ HZk.out).mono ?_
        rintro e' w9 ⟨rfl, hb9⟩
        replace hb0 := on hb0 hb9
        replace hr := hr.on hb9
        replace c0 := kept hb9 c0
        clear hb9
        have lr := hr.1
        go_wp2_with fail
        refine (HNb.out _).mono ?_
        rintro e' w8 ⟨rfl, rfl⟩
        obtain ⟨r0, r1, f0, f1⟩ := hr.two
        obtain ⟨e0, e1, _⟩ := (hr.put2 (.int .i64 k) (.int .i64 10)).two
        go_wp2
        exact bodyPost_ret (v := .agg #[.int .i64 k, .int .i64 10]) (by simp [results, Try.results13, go_sem, e0, e1]) rfl ⟨rfl, set2 hb0 (by omega) _ _⟩
      · -- may True, alone True, name False, late False
        obtain ⟨hm, hf, hn, hg⟩ := hway
        have hY : whyU k u f = 1 := by unfold whyU; rw [if_neg hg, if_pos hn]
        have HM := Lib.hid (fun w1 => HMm.out _ hm w1)
        have HNb := Lib.hid (fun w1 => HNm.out _ hn w1)
        have hfe : (f == (k : Int)) = true := by rw [hf]; simp
        have hgg : decide (15 < (k : Int)) = false := decide_eq_false (by omega)
        obtain ⟨hp, he⟩ := HK2.out.2 (by rw [hY]; decide)
        rw [hY] at he
        subst hp he
        clear hY HK2 hm hn hg HMm HNm
        clear hf
        go_wp2_with fail
        refine (HM.out _).mono ?_
        rintro e' w9 ⟨rfl, hb9⟩
        replace hb0 := on hb0 hb9
        replace hr := hr.on hb9
        replace c0 := kept hb9 c0
        replace HZk := Lib.hid (HZk.out.on hb9)
        clear hb9 c1 c2
        have lr := hr.1
        go_wp2_with fail
        refine (HF.out _ HZk.out).mono ?_
        rintro e' w9 ⟨rfl, hb9⟩
        replace hb0 := on hb0 hb9
        replace hr := hr.on hb9
        replace c0 := kept hb9 c0
        clear hb9
        have lr := hr.1
        go_wp2_with fail
        refine (HNb.out _).mono ?_
        rintro e' w8 ⟨rfl, rfl⟩
        obtain ⟨r0, r1, f0, f1⟩ := hr.two
        obtain ⟨e0, e1, _⟩ := (hr.put2 (.int .i64 k) (.int .i64 1)).two
        go_wp2
        exact bodyPost_ret (v := .agg #[.int .i64 k, .int .i64 1]) (by simp [results, Try.results13, go_sem, e0, e1]) rfl ⟨rfl, set2 hb0 (by omega) _ _⟩
      · -- may True, alone True, name False, late True
        obtain ⟨hm, hf, hn, hg⟩ := hway
        have hY : whyU k u f = 10 := by unfold whyU; rw [if_pos hg]
        have HM := Lib.hid (fun w1 => HMm.out _ hm w1)
        have HNb := Lib.hid (fun w1 => HNm.out _ hn w1)
        have hfe : (f == (k : Int)) = true := by rw [hf]; simp
        have hgg : decide (15 < (k : Int)) = true := decide_eq_true (by omega)
        obtain ⟨hp, he⟩ := HK2.out.2 (by rw [hY]; decide)
        rw [hY] at he
        subst hp he
        clear hY HK2 hm hn hg HMm HNm
        clear hf
        go_wp2_with fail
        refine (HM.out _).mono ?_
        rintro e' w9 ⟨rfl, hb9⟩
        replace hb0 := on hb0 hb9
        replace hr := hr.on hb9
        replace c0 := kept hb9 c0
        replace HZk := Lib.hid (HZk.out.on hb9)
        clear hb9 c1 c2
        have lr := hr.1
        go_wp2_with fail
        refine (HF.out _ HZk.out).mono ?_
        rintro e' w9 ⟨rfl, hb9⟩
        replace hb0 := on hb0 hb9
        replace hr := hr.on hb9
        replace c0 := kept hb9 c0
        clear hb9
        have lr := hr.1
        go_wp2_with fail
        refine (HNb.out _).mono ?_
        rintro e' w8 ⟨rfl, rfl⟩
        obtain ⟨r0, r1, f0, f1⟩ := hr.two
        obtain ⟨e0, e1, _⟩ := (hr.put2 (.int .i64 k) (.int .i64 10)).two
        go_wp2
        exact bodyPost_ret (v := .agg #[.int .i64 k, .int .i64 10]) (by simp [results, Try.results13, go_sem, e0, e1]) rfl ⟨rfl, set2 hb0 (by omega) _ _⟩
      · -- may True, alone False, name True, late False
        obtain ⟨hm, hf, hn, hg⟩ := hway
        have hY : whyU k u f = 8 := by unfold whyU; rw [if_neg hg, if_neg (by rw [hn]; simp), if_pos hf]
        have HM := Lib.hid (fun w1 => HMm.out _ hm w1)
        have HNb := Lib.hid (fun w1 => HNm.out _ hn w1)
        have hfe : (f == (k : Int)) = false := by simpa using hf
        have hgg : decide (15 < (k : Int)) = false := decide_eq_false (by omega)
        obtain ⟨hp, he⟩ := HK2.out.2 (by rw [hY]; decide)
        rw [hY] at he
        subst hp he
        clear hY HK2 hm hn hg HMm HNm
        clear hf
        go_wp2_with fail
        refine (HM.out _).mono ?_
        rintro e' w9 ⟨rfl, hb9⟩
        replace hb0 := on hb0 hb9
        replace hr := hr.on hb9
        replace c0 := kept hb9 c0
        replace HZk := Lib.hid (HZk.out.on hb9)
        clear hb9 c1 c2
        have lr := hr.1
        go_wp2_with fail
        refine (HF.out _ HZk.out).mono ?_
        rintro e' w9 ⟨rfl, hb9⟩
        replace hb0 := on hb0 hb9
        replace hr := hr.on hb9
        replace c0 := kept hb9 c0
        clear hb9
        have lr := hr.1
        go_wp2_with fail
        refine (HNb.out _).mono ?_
        rintro e' w8 ⟨rfl, rfl⟩
        obtain ⟨r0, r1, f0, f1⟩ := hr.two
        obtain ⟨e0, e1, _⟩ := (hr.put2 (.int .i64 k) (.int .i64 8)).two
        go_wp2
        exact bodyPost_ret (v := .agg #[.int .i64 k, .int .i64 8]) (by simp [results, Try.results13, go_sem, e0, e1]) rfl ⟨rfl, set2 hb0 (by omega) _ _⟩
      · -- may True, alone False, name True, late True
        obtain ⟨hm, hf, hn, hg⟩ := hway
        have hY : whyU k u f = 10 := by unfold whyU; rw [if_pos hg]
        have HM := Lib.hid (fun w1 => HMm.out _ hm w1)
        have HNb := Lib.hid (fun w1 => HNm.out _ hn w1)
        have hfe : (f == (k : Int)) = false := by simpa using hf
        have hgg : decide (15 < (k : Int)) = true := decide_eq_true (by omega)
        obtain ⟨hp, he⟩ := HK2.out.2 (by rw [hY]; decide)
        rw [hY] at he
        subst hp he
        clear hY HK2 hm hn hg HMm HNm
        clear hf
        go_wp2_with fail
        refine (HM.out _).mono ?_
        rintro e' w9 ⟨rfl, hb9⟩
        replace hb0 := on hb0 hb9
        replace hr := hr.on hb9
        replace c0 := kept hb9 c0
        replace HZk := Lib.hid (HZk.out.on hb9)
        clear hb9 c1 c2
        have lr := hr.1
        go_wp2_with fail
        refine (HF.out _ HZk.out).mono ?_
        rintro e' w9 ⟨rfl, hb9⟩
        replace hb0 := on hb0 hb9
        replace hr := hr.on hb9
        replace c0 := kept hb9 c0
        clear hb9
        have lr := hr.1
        go_wp2_with fail
        refine (HNb.out _).mono ?_
        rintro e' w8 ⟨rfl, rfl⟩
        obtain ⟨r0, r1, f0, f1⟩ := hr.two
        obtain ⟨e0, e1, _⟩ := (hr.put2 (.int .i64 k) (.int .i64 10)).two
        go_wp2
        exact bodyPost_ret (v := .agg #[.int .i64 k, .int .i64 10]) (by simp [results, Try.results13, go_sem, e0, e1]) rfl ⟨rfl, set2 hb0 (by omega) _ _⟩
      · -- may True, alone False, name False, late False
        obtain ⟨hm, hf, hn, hg⟩ := hway
        have hY : whyU k u f = 1 := by unfold whyU; rw [if_neg hg, if_pos hn]
        have HM := Lib.hid (fun w1 => HMm.out _ hm w1)
        have HNb := Lib.hid (fun w1 => HNm.out _ hn w1)
        have hfe : (f == (k : Int)) = false := by simpa using hf
        have hgg : decide (15 < (k : Int)) = false := decide_eq_false (by omega)
        obtain ⟨hp, he⟩ := HK2.out.2 (by rw [hY]; decide)
        rw [hY] at he
        subst hp he
        clear hY HK2 hm hn hg HMm HNm
        clear hf
        go_wp2_with fail
        refine (HM.out _).mono ?_
        rintro e' w9 ⟨rfl, hb9⟩
        replace hb0 := on hb0 hb9
        replace hr := hr.on hb9
        replace c0 := kept hb9 c0
        replace HZk := Lib.hid (HZk.out.on hb9)
        clear hb9 c1 c2
        have lr := hr.1
        go_wp2_with fail
        refine (HF.out _ HZk.out).mono ?_
        rintro e' w9 ⟨rfl, hb9⟩
        replace hb0 := on hb0 hb9
        replace hr := hr.on hb9
        replace c0 := kept hb9 c0
        clear hb9
        have lr := hr.1
        go_wp2_with fail
        refine (HNb.out _).mono ?_
        rintro e' w8 ⟨rfl, rfl⟩
        obtain ⟨r0, r1, f0, f1⟩ := hr.two
        obtain ⟨e0, e1, _⟩ := (hr.put2 (.int .i64 k) (.int .i64 1)).two
        go_wp2
        exact bodyPost_ret (v := .agg #[.int .i64 k, .int .i64 1]) (by simp [results, Try.results13, go_sem, e0, e1]) rfl ⟨rfl, set2 hb0 (by omega) _ _⟩
      · -- may True, alone False, name False, late True
        obtain ⟨hm, hf, hn, hg⟩ := hway
        have hY : whyU k u f = 10 := by unfold whyU; rw [if_pos hg]
        have HM := Lib.hid (fun w1 => HMm.out _ hm w1)
        have HNb := Lib.hid (fun w1 => HNm.out _ hn w1)
        have hfe : (f == (k : Int)) = false := by simpa using hf
        have hgg : decide (15 < (k : Int)) = true := decide_eq_true (by omega)
        obtain ⟨hp, he⟩ := HK2.out.2 (by rw [hY]; decide)
        rw [hY] at he
        subst hp he
        clear hY HK2 hm hn hg HMm HNm
        clear hf
        go_wp2_with fail
        refine (HM.out _).mono ?_
        rintro e' w9 ⟨rfl, hb9⟩
        replace hb0 := on hb0 hb9
        replace hr := hr.on hb9
        replace c0 := kept hb9 c0
        replace HZk := Lib.hid (HZk.out.on hb9)
        clear hb9 c1 c2
        have lr := hr.1
        go_wp2_with fail
        refine (HF.out _ HZk.out).mono ?_
        rintro e' w9 ⟨rfl, hb9⟩
        replace hb0 := on hb0 hb9
        replace hr := hr.on hb9
        replace c0 := kept hb9 c0
        clear hb9
        have lr := hr.1
        go_wp2_with fail
        refine (HNb.out _).mono ?_
        rintro e' w8 ⟨rfl, rfl⟩
        obtain ⟨r0, r1, f0, f1⟩ := hr.two
        obtain ⟨e0, e1, _⟩ := (hr.put2 (.int .i64 k) (.int .i64 10)).two
        go_wp2
        exact bodyPost_ret (v := .agg #[.int .i64 k, .int .i64 10]) (by simp [results, Try.results13, go_sem, e0, e1]) rfl ⟨rfl, set2 hb0 (by omega) _ _⟩
      · -- may False, alone True, name True, late False
        obtain ⟨hm, hf, hn, hg⟩ := hway
        have hY : whyU k u f = 7 := by unfold whyU; rw [if_neg hg, if_neg (by rw [hn]; simp), if_neg (by rw [hf]; simp), if_pos hm]
        have HM := Lib.hid (fun w1 => HMm.out _ hm w1)
        have HNb := Lib.hid (fun w1 => HNm.out _ hn w1)
        have hfe : (f == (k : Int)) = true := by rw [hf]; simp
        have hgg : decide (15 < (k : Int)) = false := decide_eq_false (by omega)
        obtain ⟨hp, he⟩ := HK2.out.2 (by rw [hY]; decide)
        rw [hY] at he
        subst hp he
        clear hY HK2 hm hn hg HMm HNm
        clear hf
        go_wp2_with fail
        refine (HM.out _).mono ?_
        rintro e' w9 ⟨rfl, hb9⟩
        replace hb0 := on hb0 hb9
        replace hr := hr.on hb9
        replace c0 := kept hb9 c0
        replace HZk := Lib.hid (HZk.out.on hb9)
        clear hb9 c1 c2
        have lr := hr.1
        go_wp2_with fail
        refine (HF.out _ HZk.out).mono ?_
        rintro e' w9 ⟨rfl, hb9⟩
        replace hb0 := on hb0 hb9
        replace hr := hr.on hb9
        replace c0 := kept hb9 c0
        clear hb9
        have lr := hr.1
        go_wp2_with fail
        refine (HNb.out _).mono ?_
        rintro e' w8 ⟨rfl, rfl⟩
        obtain ⟨r0, r1, f0, f1⟩ := hr.two
        obtain ⟨e0, e1, _⟩ := (hr.put2 (.int .i64 k) (.int .i64 7)).two
        go_wp2
        exact bodyPost_ret (v := .agg #[.int .i64 k, .int .i64 7]) (by simp [results, Try.results13, go_sem, e0, e1]) rfl ⟨rfl, set2 hb0 (by omega) _ _⟩
      · -- may False, alone True, name True, late True
        obtain ⟨hm, hf, hn, hg⟩ := hway
        have hY : whyU k u f = 10 := by unfold whyU; rw [if_pos hg]
        have HM := Lib.hid (fun w1 => HMm.out _ hm w1)
        have HNb := Lib.hid (fun w1 => HNm.out _ hn w1)
        have hfe : (f == (k : Int)) = true := by rw [hf]; simp
        have hgg : decide (15 < (k : Int)) = true := decide_eq_true (by omega)
        obtain ⟨hp, he⟩ := HK2.out.2 (by rw [hY]; decide)
        rw [hY] at he
        subst hp he
        clear hY HK2 hm hn hg HMm HNm
        clear hf
        go_wp2_with fail
        refine (HM.out _).mono ?_
        rintro e' w9 ⟨rfl, hb9⟩
        replace hb0 := on hb0 hb9
        replace hr := hr.on hb9
        replace c0 := kept hb9 c0
        replace HZk := Lib.hid (HZk.out.on hb9)
        clear hb9 c1 c2
        have lr := hr.1
        go_wp2_with fail
        refine (HF.out _ HZk.out).mono ?_
        rintro e' w9 ⟨rfl, hb9⟩
        replace hb0 := on hb0 hb9
        replace hr := hr.on hb9
        replace c0 := kept hb9 c0
        clear hb9
        have lr := hr.1
        go_wp2_with fail
        refine (HNb.out _).mono ?_
        rintro e' w8 ⟨rfl, rfl⟩
        obtain ⟨r0, r1, f0, f1⟩ := hr.two
        obtain ⟨e0, e1, _⟩ := (hr.put2 (.int .i64 k) (.int .i64 10)).two
        go_wp2
        exact bodyPost_ret (v := .agg #[.int .i64 k, .int .i64 10]) (by simp [results, Try.results13, go_sem, e0, e1]) rfl ⟨rfl, set2 hb0 (by omega) _ _⟩
      · -- may False, alone True, name False, late False
        obtain ⟨hm, hf, hn, hg⟩ := hway
        have hY : whyU k u f = 1 := by unfold whyU; rw [if_neg hg, if_pos hn]
        have HM := Lib.hid (fun w1 => HMm.out _ hm w1)
        have HNb := Lib.hid (fun w1 => HNm.out _ hn w1)
        have hfe : (f == (k : Int)) = true := by rw [hf]; simp
        have hgg : decide (15 < (k : Int)) = false := decide_eq_false (by omega)
        obtain ⟨hp, he⟩ := HK2.out.2 (by rw [hY]; decide)
        rw [hY] at he
        subst hp he
        clear hY HK2 hm hn hg HMm HNm
        clear hf
        go_wp2_with fail
        refine (HM.out _).mono ?_
        rintro e' w9 ⟨rfl, hb9⟩
        replace hb0 := on hb0 hb9
        replace hr := hr.on hb9
        replace c0 := kept hb9 c0
        replace HZk := Lib.hid (HZk.out.on hb9)
        clear hb9 c1 c2
        have lr := hr.1
        go_wp2_with fail
        refine (HF.out _ HZk.out).mono ?_
        rintro e' w9 ⟨rfl, hb9⟩
        replace hb0 := on hb0 hb9
        replace hr := hr.on hb9
        replace c0 := kept hb9 c0
        clear hb9
        have lr := hr.1
        go_wp2_with fail
        refine (HNb.out _).mono ?_
        rintro e' w8 ⟨rfl, rfl⟩
        obtain ⟨r0, r1, f0, f1⟩ := hr.two
        obtain ⟨e0, e1, _⟩ := (hr.put2 (.int .i64 k) (.int .i64 1)).two
        go_wp2
        exact bodyPost_ret (v := .agg #[.int .i64 k, .int .i64 1]) (by simp [results, Try.results13, go_sem, e0, e1]) rfl ⟨rfl, set2 hb0 (by omega) _ _⟩
      · -- may False, alone True, name False, late True
        obtain ⟨hm, hf, hn, hg⟩ := hway
        have hY : whyU k u f = 10 := by unfold whyU; rw [if_pos hg]
        have HM := Lib.hid (fun w1 => HMm.out _ hm w1)
        have HNb := Lib.hid (fun w1 => HNm.out _ hn w1)
        have hfe : (f == (k : Int)) = true := by rw [hf]; simp
        have hgg : decide (15 < (k : Int)) = true := decide_eq_true (by omega)
        obtain ⟨hp, he⟩ := HK2.out.2 (by rw [hY]; decide)
        rw [hY] at he
        subst hp he
        clear hY HK2 hm hn hg HMm HNm
        clear hf
        go_wp2_with fail
        refine (HM.out _).mono ?_
        rintro e' w9 ⟨rfl, hb9⟩
        replace hb0 := on hb0 hb9
        replace hr := hr.on hb9
        replace c0 := kept hb9 c0
        replace HZk := Lib.hid (HZk.out.on hb9)
        clear hb9 c1 c2
        have lr := hr.1
        go_wp2_with fail
        refine (HF.out _ HZk.out).mono ?_
        rintro e' w9 ⟨rfl, hb9⟩
        replace hb0 := on hb0 hb9
        replace hr := hr.on hb9
        replace c0 := kept hb9 c0
        clear hb9
        have lr := hr.1
        go_wp2_with fail
        refine (HNb.out _).mono ?_
        rintro e' w8 ⟨rfl, rfl⟩
        obtain ⟨r0, r1, f0, f1⟩ := hr.two
        obtain ⟨e0, e1, _⟩ := (hr.put2 (.int .i64 k) (.int .i64 10)).two
        go_wp2
        exact bodyPost_ret (v := .agg #[.int .i64 k, .int .i64 10]) (by simp [results, Try.results13, go_sem, e0, e1]) rfl ⟨rfl, set2 hb0 (by omega) _ _⟩
      · -- may False, alone False, name True, late False
        obtain ⟨hm, hf, hn, hg⟩ := hway
        have hY : whyU k u f = 8 := by unfold whyU; rw [if_neg hg, if_neg (by rw [hn]; simp), if_pos hf]
        have HM := Lib.hid (fun w1 => HMm.out _ hm w1)
        have HNb := Lib.hid (fun w1 => HNm.out _ hn w1)
        have hfe : (f == (k : Int)) = false := by simpa using hf
        have hgg : decide (15 < (k : Int)) = false := decide_eq_false (by omega)
        obtain ⟨hp, he⟩ := HK2.out.2 (by rw [hY]; decide)
        rw [hY] at he
        subst hp he
        clear hY HK2 hm hn hg HMm HNm
        clear hf
        go_wp2_with fail
        refine (HM.out _).mono ?_
        rintro e' w9 ⟨rfl, hb9⟩
        replace hb0 := on hb0 hb9
        replace hr := hr.on hb9
        replace c0 := kept hb9 c0
        replace HZk := Lib.hid (HZk.out.on hb9)
        clear hb9 c1 c2
        have lr := hr.1
        go_wp2_with fail
        refine (HF.out _ HZk.out).mono ?_
        rintro e' w9 ⟨rfl, hb9⟩
        replace hb0 := on hb0 hb9
        replace hr := hr.on hb9
        replace c0 := kept hb9 c0
        clear hb9
        have lr := hr.1
        go_wp2_with fail
        refine (HNb.out _).mono ?_
        rintro e' w8 ⟨rfl, rfl⟩
        obtain ⟨r0, r1, f0, f1⟩ := hr.two
        obtain ⟨e0, e1, _⟩ := (hr.put2 (.int .i64 k) (.int .i64 8)).two
        go_wp2
        exact bodyPost_ret (v := .agg #[.int .i64 k, .int .i64 8]) (by simp [results, Try.results13, go_sem, e0, e1]) rfl ⟨rfl, set2 hb0 (by omega) _ _⟩
      · -- may False, alone False, name True, late True
        obtain ⟨hm, hf, hn, hg⟩ := hway
        have hY : whyU k u f = 10 := by unfold whyU; rw [if_pos hg]
        have HM := Lib.hid (fun w1 => HMm.out _ hm w1)
        have HNb := Lib.hid (fun w1 => HNm.out _ hn w1)
        have hfe : (f == (k : Int)) = false := by simpa using hf
        have hgg : decide (15 < (k : Int)) = true := decide_eq_true (by omega)
        obtain ⟨hp, he⟩ := HK2.out.2 (by rw [hY]; decide)
        rw [hY] at he
        subst hp he
        clear hY HK2 hm hn hg HMm HNm
        clear hf
        go_wp2_with fail
        refine (HM.out _).mono ?_
        rintro e' w9 ⟨rfl, hb9⟩
        replace hb0 := on hb0 hb9
        replace hr := hr.on hb9
        replace c0 := kept hb9 c0
        replace HZk := Lib.hid (HZk.out.on hb9)
        clear hb9 c1 c2
        have lr := hr.1
        go_wp2_with fail
        refine (HF.out _ HZk.out).mono ?_
        rintro e' w9 ⟨rfl, hb9⟩
        replace hb0 := on hb0 hb9
        replace hr := hr.on hb9
        replace c0 := kept hb9 c0
        clear hb9
        have lr := hr.1
        go_wp2_with fail
        refine (HNb.out _).mono ?_
        rintro e' w8 ⟨rfl, rfl⟩
        obtain ⟨r0, r1, f0, f1⟩ := hr.two
        obtain ⟨e0, e1, _⟩ := (hr.put2 (.int .i64 k) (.int .i64 10)).two
        go_wp2
        exact bodyPost_ret (v := .agg #[.int .i64 k, .int .i64 10]) (by simp [results, Try.results13, go_sem, e0, e1]) rfl ⟨rfl, set2 hb0 (by omega) _ _⟩
      · -- may False, alone False, name False, late False
        obtain ⟨hm, hf, hn, hg⟩ := hway
        have hY : whyU k u f = 1 := by unfold whyU; rw [if_neg hg, if_pos hn]
        have HM := Lib.hid (fun w1 => HMm.out _ hm w1)
        have HNb := Lib.hid (fun w1 => HNm.out _ hn w1)
        have hfe : (f == (k : Int)) = false := by simpa using hf
        have hgg : decide (15 < (k : Int)) = false := decide_eq_false (by omega)
        obtain ⟨hp, he⟩ := HK2.out.2 (by rw [hY]; decide)
        rw [hY] at he
        subst hp he
        clear hY HK2 hm hn hg HMm HNm
        clear hf
        go_wp2_with fail
        refine (HM.out _).mono ?_
        rintro e' w9 ⟨rfl, hb9⟩
        replace hb0 := on hb0 hb9
        replace hr := hr.on hb9
        replace c0 := kept hb9 c0
        replace HZk := Lib.hid (HZk.out.on hb9)
        clear hb9 c1 c2
        have lr := hr.1
        go_wp2_with fail
        refine (HF.out _ HZk.out).mono ?_
        rintro e' w9 ⟨rfl, hb9⟩
        replace hb0 := on hb0 hb9
        replace hr := hr.on hb9
        replace c0 := kept hb9 c0
        clear hb9
        have lr := hr.1
        go_wp2_with fail
        refine (HNb.out _).mono ?_
        rintro e' w8 ⟨rfl, rfl⟩
        obtain ⟨r0, r1, f0, f1⟩ := hr.two
        obtain ⟨e0, e1, _⟩ := (hr.put2 (.int .i64 k) (.int .i64 1)).two
        go_wp2
        exact bodyPost_ret (v := .agg #[.int .i64 k, .int .i64 1]) (by simp [results, Try.results13, go_sem, e0, e1]) rfl ⟨rfl, set2 hb0 (by omega) _ _⟩
      · -- may False, alone False, name False, late True
        obtain ⟨hm, hf, hn, hg⟩ := hway
        have hY : whyU k u f = 10 := by unfold whyU; rw [if_pos hg]
        have HM := Lib.hid (fun w1 => HMm.out _ hm w1)
        have HNb := Lib.hid (fun w1 => HNm.out _ hn w1)
        have hfe : (f == (k : Int)) = false := by simpa using hf
        have hgg : decide (15 < (k : Int)) = true := decide_eq_true (by omega)
        obtain ⟨hp, he⟩ := HK2.out.2 (by rw [hY]; decide)
        rw [hY] at he
        subst hp he
        clear hY HK2 hm hn hg HMm HNm
        clear hf
        go_wp2_with fail
        refine (HM.out _).mono ?_
        rintro e' w9 ⟨rfl, hb9⟩
        replace hb0 := on hb0 hb9
        replace hr := hr.on hb9
        replace c0 := kept hb9 c0
        replace HZk := Lib.hid (HZk.out.on hb9)
        clear hb9 c1 c2
        have lr := hr.1
        go_wp2_with fail
        refine (HF.out _ HZk.out).mono ?_
        rintro e' w9 ⟨rfl, hb9⟩
        replace hb0 := on hb0 hb9
        replace hr := hr.on hb9
        replace c0 := kept hb9 c0
        clear hb9
        have lr := hr.1
        go_wp2_with fail
        refine (HNb.out _).mono ?_
        rintro e' w8 ⟨rfl, rfl⟩
        obtain ⟨r0, r1, f0, f1⟩ := hr.two
        obtain ⟨e0, e1, _⟩ := (hr.put2 (.int .i64 k) (.int .i64 10)).two
        go_wp2
        exact bodyPost_ret (v := .agg #[.int .i64 k, .int .i64 10]) (by simp [results, Try.results13, go_sem, e0, e1]) rfl ⟨rfl, set2 hb0 (by omega) _ _⟩
    · obtain rfl : k = n := by omega
      have HE := HK.out
      rw [← HL.out, wrongU_end] at HE
      simp only [Prod.mk.injEq] at HE
      obtain ⟨rfl, rfl⟩ := HE
      have lr := hr.1
      obtain ⟨r0, r1, f0, f1⟩ := hr.two
      obtain ⟨e0, e1, _⟩ := (hr.put2 (.int .i64 0) (.int .i64 0)).two
      go_wp2
      exact bodyPost_ret (v := .agg #[.int .i64 0, .int .i64 0]) (by simp [results, Try.results13, go_sem, e0, e1]) rfl ⟨rfl, set2 hb0 (by omega) _ _⟩
end Go.Proofs.Yteolenhgaekihaa.Right
