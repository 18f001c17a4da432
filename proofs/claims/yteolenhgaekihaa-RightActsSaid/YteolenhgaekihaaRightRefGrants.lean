/- The first grant that is wrong, and why: what the reference's Grants answers. -/
import Derived.Test.YteolenhgaekihaaRightRef
namespace Go.Proofs.Yteolenhgaekihaa.Right
open Go.RowKit Kit Reg Go.Proofs.Yteolenhgaekihaa.Lab
open Go.Proofs.Yteolenhgaekihaa.Cats (U U_or U_zero)

theorem wrongG_hit {us : List Us} {r : List Gr} {k : Nat} {g : Gr} (h : r[k]? = some g) (hh : whyG k g us ≠ 0) : wrongG us k (r.drop k) = ((k : Int), whyG k g us) := by rw [drop_at h, wrongG, if_neg hh]
theorem wrongG_miss {us : List Us} {r : List Gr} {k : Nat} {g : Gr} (h : r[k]? = some g) (hh : whyG k g us = 0) : wrongG us k (r.drop k) = wrongG us (k + 1) (r.drop (k + 1)) := by rw [drop_at h, wrongG, if_pos hh]
theorem wrongG_end (us : List Us) (r : List Gr) : wrongG us r.length (r.drop r.length) = (0, 0) := by rw [List.drop_length]; rfl
set_option maxRecDepth 100000 in
set_option maxHeartbeats 16000000 in
theorem rgrants_c (A : Option Addr) (n cap : Nat) (gs : List Gr) (A2 : Option Addr) (n2 cap2 : Nat) (us : List Us) (p e : Int) (hc : wrongG us 0 gs = (p, e)) (w : World) (hz : GrantsR w A n gs) (hz2 : UsersR w A2 n2 us) :
    Calls Try.prog 27 #[.slice A n cap, .slice A2 n2 cap2] w fun e' w' => e' = .returned (.agg #[.int .i64 p, .int .i64 e]) ∧ Below w.heap.size w w' := by
  obtain ⟨hlen, hmax, _, _⟩ := id hz
  have HZ := Lib.hid hz
  have HZ2 := Lib.hid hz2
  have HL := Lib.hid hlen
  have HC := Lib.hid hc
  clear hz hlen hc hz2
  have hb0 := below1 w (.cells #[.int .i64 0, .int .i64 0] 37)
  have hr := CellsAt.new w [.int .i64 0, .int .i64 0] 37
  go_enter Try.func27, Try.ntmps27
  go_wp2
  go_loopw [5] (fun i wr => ∃ k : Nat, k ≤ n ∧ i = .int .i64 k ∧ Hid (wrongG us k (gs.drop k) = (p, e)) ∧ Below w.heap.size w wr ∧ CellsAt wr w.heap.size [.int .i64 0, .int .i64 0]) (fun i _ => n - (intOf i).toNat)
  case atStart => exact ⟨0, Nat.zero_le _, rfl, HC, hb0, hr⟩
  case round =>
    clear hb0 hr
    obtain ⟨k, hk, rfl, HK, hb0, hr⟩ := hrel
    by_cases hlt : k < n
    · obtain ⟨u, huk⟩ : ∃ u, gs[k]? = some u := ⟨_, List.getElem?_eq_getElem (by rw [HL.out]; exact hlt)⟩
      have HZk := Lib.hid (HZ.out.on hb0)
      have HZ2k := Lib.hid (HZ2.out.on hb0)
      obtain ⟨_, _, _, h4⟩ := HZk.out
      obtain ⟨bb, o, rfl, hblt, hcell⟩ := h4 (by omega)
      obtain ⟨f, hf⟩ : ∃ f, findI us u.name 0 = f := ⟨_, rfl⟩
      have HK2 : Hid ((whyG k u us = 0 → wrongG us (k + 1) (gs.drop (k + 1)) = (p, e)) ∧ (whyG k u us ≠ 0 → (k : Int) = p ∧ whyG k u us = e)) := by
        refine Lib.hid ⟨fun hh => by rw [← wrongG_miss huk hh]; exact HK.out, fun hh => ?_⟩
        have := HK.out
        rw [wrongG_hit huk hh] at this
        simpa using this
      obtain ⟨c0, c1, c2, c3, c4⟩ := grant_cells (hcell k u huk)
      have lr := hr.1
      have HF := Lib.hid (fun w1 h => rfind_c A2 n2 cap2 us u.name f hf w1 h)
      have HMm := Lib.hid (fun m hm w1 => rmay_c u.l u.s m hm w1)
      have HMn := Lib.hid (fun m hm w1 => rmay_c u.k u.r m hm w1)
      clear h4 hcell huk HK
      rcases (show (mayL u.l = false ∧ ¬ f < 0 ∧ ¬ 31 < k) ∨ (mayL u.l = false ∧ ¬ f < 0 ∧ 31 < k) ∨ (mayL u.l = false ∧ f < 0 ∧ ¬ 31 < k) ∨ (mayL u.l = false ∧ f < 0 ∧ 31 < k) ∨ (mayL u.l = true ∧ mayL u.k = false ∧ ¬ f < 0 ∧ ¬ 31 < k) ∨ (mayL u.l = true ∧ mayL u.k = false ∧ ¬ f < 0 ∧ 31 < k) ∨ (mayL u.l = true ∧ mayL u.k = false ∧ f < 0 ∧ ¬ 31 < k) ∨ (mayL u.l = true ∧ mayL u.k = false ∧ f < 0 ∧ 31 < k) ∨ (mayL u.l = true ∧ mayL u.k = true ∧ ¬ f < 0 ∧ ¬ 31 < k) ∨ (mayL u.l = true ∧ mayL u.k = true ∧ ¬ f < 0 ∧ 31 < k) ∨ (mayL u.l = true ∧ mayL u.k = true ∧ f < 0 ∧ ¬ 31 < k) ∨ (mayL u.l = true ∧ mayL u.k = true ∧ f < 0 ∧ 31 < k) by
        by_cases hg : 31 < k <;> by_cases hf : f < 0 <;> cases mayL u.l <;> cases mayL u.k <;> simp [hg, hf]) with hway | hway | hway | hway | hway | hway | hway | hway | hway | hway | hway | hway
      · -- From False, To None, nobody False, late False
        obtain ⟨hm, hf0, hg⟩ := hway
        have hY : whyG k u us = 7 := by unfold whyG; rw [if_neg hg, hf, if_neg hf0, if_pos (.inl hm)]
        have HM := Lib.hid (fun w1 => HMm.out _ hm w1)
        have hfe : decide (f < 0) = false := decide_eq_false hf0
        have hgg : decide (31 < (k : Int)) = false := decide_eq_false (by omega)
        obtain ⟨hp, he⟩ := HK2.out.2 (by rw [hY]; decide)
        rw [hY] at he
        subst hp he
        clear hY HK2 hm hf0 hg HMm HMn hf
        go_wp2_with fail
        refine (HM.out _).mono ?_
        rintro e' w9 ⟨rfl, hb9⟩
        replace hb0 := on hb0 hb9
        replace hr := hr.on hb9
        replace c0 := kept hb9 c0
        replace c3 := kept hb9 c3
        replace c4 := kept hb9 c4
        replace HZ2k := Lib.hid (HZ2k.out.on hb9)
        clear hb9 c1 c2
        have lr := hr.1
        go_wp2_with fail
        refine (HF.out _ HZ2k.out).mono ?_
        rintro e' w9 ⟨rfl, hb9⟩
        replace hb0 := on hb0 hb9
        replace hr := hr.on hb9
        clear hb9 c0
        have lr := hr.1
        obtain ⟨r0, r1, f0, f1⟩ := hr.two
        obtain ⟨e0, e1, _⟩ := (hr.put2 (.int .i64 k) (.int .i64 7)).two
        go_wp2
        exact bodyPost_ret (v := .agg #[.int .i64 k, .int .i64 7]) (by simp [results, Try.results27, go_sem, e0, e1]) rfl ⟨rfl, set2 hb0 (by omega) _ _⟩
      · -- From False, To None, nobody False, late True
        obtain ⟨hm, hf0, hg⟩ := hway
        have hY : whyG k u us = 10 := by unfold whyG; rw [if_pos hg]
        have HM := Lib.hid (fun w1 => HMm.out _ hm w1)
        have hfe : decide (f < 0) = false := decide_eq_false hf0
        have hgg : decide (31 < (k : Int)) = true := decide_eq_true (by omega)
        obtain ⟨hp, he⟩ := HK2.out.2 (by rw [hY]; decide)
        rw [hY] at he
        subst hp he
        clear hY HK2 hm hf0 hg HMm HMn hf
        go_wp2_with fail
        refine (HM.out _).mono ?_
        rintro e' w9 ⟨rfl, hb9⟩
        replace hb0 := on hb0 hb9
        replace hr := hr.on hb9
        replace c0 := kept hb9 c0
        replace c3 := kept hb9 c3
        replace c4 := kept hb9 c4
        replace HZ2k := Lib.hid (HZ2k.out.on hb9)
        clear hb9 c1 c2
        have lr := hr.1
        go_wp2_with fail
        refine (HF.out _ HZ2k.out).mono ?_
        rintro e' w9 ⟨rfl, hb9⟩
        replace hb0 := on hb0 hb9
        replace hr := hr.on hb9
        clear hb9 c0
        have lr := hr.1
        obtain ⟨r0, r1, f0, f1⟩ := hr.two
        obtain ⟨e0, e1, _⟩ := (hr.put2 (.int .i64 k) (.int .i64 10)).two
        go_wp2
        exact bodyPost_ret (v := .agg #[.int .i64 k, .int .i64 10]) (by simp [results, Try.results27, go_sem, e0, e1]) rfl ⟨rfl, set2 hb0 (by omega) _ _⟩
      · -- From False, To None, nobody True, late False
        obtain ⟨hm, hf0, hg⟩ := hway
        have hY : whyG k u us = 11 := by unfold whyG; rw [if_neg hg, hf, if_pos hf0]
        have HM := Lib.hid (fun w1 => HMm.out _ hm w1)
        have hfe : decide (f < 0) = true := decide_eq_true hf0
        have hgg : decide (31 < (k : Int)) = false := decide_eq_false (by omega)
        obtain ⟨hp, he⟩ := HK2.out.2 (by rw [hY]; decide)
        rw [hY] at he
        subst hp he
        clear hY HK2 hm hf0 hg HMm HMn hf
        go_wp2_with fail
        refine (HM.out _).mono ?_
        rintro e' w9 ⟨rfl, hb9⟩
        replace hb0 := on hb0 hb9
        replace hr := hr.on hb9
        replace c0 := kept hb9 c0
        replace c3 := kept hb9 c3
        replace c4 := kept hb9 c4
        replace HZ2k := Lib.hid (HZ2k.out.on hb9)
        clear hb9 c1 c2
        have lr := hr.1
        go_wp2_with fail
        refine (HF.out _ HZ2k.out).mono ?_
        rintro e' w9 ⟨rfl, hb9⟩
        replace hb0 := on hb0 hb9
        replace hr := hr.on hb9
        clear hb9 c0
        have lr := hr.1
        obtain ⟨r0, r1, f0, f1⟩ := hr.two
        obtain ⟨e0, e1, _⟩ := (hr.put2 (.int .i64 k) (.int .i64 11)).two
        go_wp2
        exact bodyPost_ret (v := .agg #[.int .i64 k, .int .i64 11]) (by simp [results, Try.results27, go_sem, e0, e1]) rfl ⟨rfl, set2 hb0 (by omega) _ _⟩
      · -- From False, To None, nobody True, late True
        obtain ⟨hm, hf0, hg⟩ := hway
        have hY : whyG k u us = 10 := by unfold whyG; rw [if_pos hg]
        have HM := Lib.hid (fun w1 => HMm.out _ hm w1)
        have hfe : decide (f < 0) = true := decide_eq_true hf0
        have hgg : decide (31 < (k : Int)) = true := decide_eq_true (by omega)
        obtain ⟨hp, he⟩ := HK2.out.2 (by rw [hY]; decide)
        rw [hY] at he
        subst hp he
        clear hY HK2 hm hf0 hg HMm HMn hf
        go_wp2_with fail
        refine (HM.out _).mono ?_
        rintro e' w9 ⟨rfl, hb9⟩
        replace hb0 := on hb0 hb9
        replace hr := hr.on hb9
        replace c0 := kept hb9 c0
        replace c3 := kept hb9 c3
        replace c4 := kept hb9 c4
        replace HZ2k := Lib.hid (HZ2k.out.on hb9)
        clear hb9 c1 c2
        have lr := hr.1
        go_wp2_with fail
        refine (HF.out _ HZ2k.out).mono ?_
        rintro e' w9 ⟨rfl, hb9⟩
        replace hb0 := on hb0 hb9
        replace hr := hr.on hb9
        clear hb9 c0
        have lr := hr.1
        obtain ⟨r0, r1, f0, f1⟩ := hr.two
        obtain ⟨e0, e1, _⟩ := (hr.put2 (.int .i64 k) (.int .i64 10)).two
        go_wp2
        exact bodyPost_ret (v := .agg #[.int .i64 k, .int .i64 10]) (by simp [results, Try.results27, go_sem, e0, e1]) rfl ⟨rfl, set2 hb0 (by omega) _ _⟩
      · -- From True, To False, nobody False, late False
        obtain ⟨hm, hm2, hf0, hg⟩ := hway
        have hY : whyG k u us = 7 := by unfold whyG; rw [if_neg hg, hf, if_neg hf0, if_pos (.inr hm2)]
        have HM := Lib.hid (fun w1 => HMm.out _ hm w1)
        have HM2 := Lib.hid (fun w1 => HMn.out _ hm2 w1)
        have hfe : decide (f < 0) = false := decide_eq_false hf0
        have hgg : decide (31 < (k : Int)) = false := decide_eq_false (by omega)
        obtain ⟨hp, he⟩ := HK2.out.2 (by rw [hY]; decide)
        rw [hY] at he
        subst hp he
        clear hY HK2 hm hm2 hf0 hg HMm HMn hf
        go_wp2_with fail
        refine (HM.out _).mono ?_
        rintro e' w9 ⟨rfl, hb9⟩
        replace hb0 := on hb0 hb9
        replace hr := hr.on hb9
        replace c0 := kept hb9 c0
        replace c3 := kept hb9 c3
        replace c4 := kept hb9 c4
        replace HZ2k := Lib.hid (HZ2k.out.on hb9)
        clear hb9 c1 c2
        have lr := hr.1
        go_wp2_with fail
        refine (HM2.out _).mono ?_
        rintro e' w9 ⟨rfl, hb9⟩
        replace hb0 := on hb0 hb9
        replace hr := hr.on hb9
        replace c0 := kept hb9 c0
        replace HZ2k := Lib.hid (HZ2k.out.on hb9)
        clear hb9 c3 c4
        have lr := hr.1
        go_wp2_with fail
        refine (HF.out _ HZ2k.out).mono ?_
        rintro e' w9 ⟨rfl, hb9⟩
        replace hb0 := on hb0 hb9
        replace hr := hr.on hb9
        clear hb9 c0
        have lr := hr.1
        obtain ⟨r0, r1, f0, f1⟩ := hr.two
        obtain ⟨e0, e1, _⟩ := (hr.put2 (.int .i64 k) (.int .i64 7)).two
        go_wp2
        exact bodyPost_ret (v := .agg #[.int .i64 k, .int .i64 7]) (by simp [results, Try.results27, go_sem, e0, e1]) rfl ⟨rfl, set2 hb0 (by omega) _ _⟩
      · -- From True, To False, nobody False, late True
        obtain ⟨hm, hm2, hf0, hg⟩ := hway
        have hY : whyG k u us = 10 := by unfold whyG; rw [if_pos hg]
        have HM := Lib.hid (fun w1 => HMm.out _ hm w1)
        have HM2 := Lib.hid (fun w1 => HMn.out _ hm2 w1)
        have hfe : decide (f < 0) = false := decide_eq_false hf0
        have hgg : decide (31 < (k : Int)) = true := decide_eq_true (by omega)
        obtain ⟨hp, he⟩ := HK2.out.2 (by rw [hY]; decide)
        rw [hY] at he
        subst hp he
        clear hY HK2 hm hm2 hf0 hg HMm HMn hf
        go_wp2_with fail
        refine (HM.out _).mono ?_
        rintro e' w9 ⟨rfl, hb9⟩
        replace hb0 := on hb0 hb9
        replace hr := hr.on hb9
        replace c0 := kept hb9 c0
        replace c3 := kept hb9 c3
        replace c4 := kept hb9 c4
        replace HZ2k := Lib.hid (HZ2k.out.on hb9)
        clear hb9 c1 c2
        have lr := hr.1
        go_wp2_with fail
        refine (HM2.out _).mono ?_
        rintro e' w9 ⟨rfl, hb9⟩
        replace hb0 := on hb0 hb9
        replace hr := hr.on hb9
        replace c0 := kept hb9 c0
        replace HZ2k := Lib.hid (HZ2k.out.on hb9)
        clear hb9 c3 c4
        have lr := hr.1
        go_wp2_with fail
        refine (HF.out _ HZ2k.out).mono ?_
        rintro e' w9 ⟨rfl, hb9⟩
        replace hb0 := on hb0 hb9
        replace hr := hr.on hb9
        clear hb9 c0
        have lr := hr.1
        obtain ⟨r0, r1, f0, f1⟩ := hr.two
        obtain ⟨e0, e1, _⟩ := (hr.put2 (.int .i64 k) (.int .i64 10)).two
        go_wp2
        exact bodyPost_ret (v := .agg #[.int .i64 k, .int .i64 10]) (by simp [results, Try.results27, go_sem, e0, e1]) rfl ⟨rfl, set2 hb0 (by omega) _ _⟩
      · -- From True, To False, nobody True, late False
        obtain ⟨hm, hm2, hf0, hg⟩ := hway
        have hY : whyG k u us = 11 := by unfold whyG; rw [if_neg hg, hf, if_pos hf0]
        have HM := Lib.hid (fun w1 => HMm.out _ hm w1)
        have HM2 := Lib.hid (fun w1 => HMn.out _ hm2 w1)
        have hfe : decide (f < 0) = true := decide_eq_true hf0
        have hgg : decide (31 < (k : Int)) = false := decide_eq_false (by omega)
        obtain ⟨hp, he⟩ := HK2.out.2 (by rw [hY]; decide)
        rw [hY] at he
        subst hp he
        clear hY HK2 hm hm2 hf0 hg HMm HMn hf
        go_wp2_with fail
        refine (HM.out _).mono ?_
        rintro e' w9 ⟨rfl, hb9⟩
        replace hb0 := on hb0 hb9
        replace hr := hr.on hb9
        replace c0 := kept hb9 c0
        replace c3 := kept hb9 c3
        replace c4 := kept hb9 c4
        replace HZ2k := Lib.hid (HZ2k.out.on hb9)
        clear hb9 c1 c2
        have lr := hr.1
        go_wp2_with fail
        refine (HM2.out _).mono ?_
        rintro e' w9 ⟨rfl, hb9⟩
        replace hb0 := on hb0 hb9
        replace hr := hr.on hb9
        replace c0 := kept hb9 c0
        replace HZ2k := Lib.hid (HZ2k.out.on hb9)
        clear hb9 c3 c4
        have lr := hr.1
        go_wp2_with fail
        refine (HF.out _ HZ2k.out).mono ?_
        rintro e' w9 ⟨rfl, hb9⟩
        replace hb0 := on hb0 hb9
        replace hr := hr.on hb9
        clear hb9 c0
        have lr := hr.1
        obtain ⟨r0, r1, f0, f1⟩ := hr.two
        obtain ⟨e0, e1, _⟩ := (hr.put2 (.int .i64 k) (.int .i64 11)).two
        go_wp2
        exact bodyPost_ret (v := .agg #[.int .i64 k, .int .i64 11]) (by simp [results, Try.results27, go_sem, e0, e1]) rfl ⟨rfl, set2 hb0 (by omega) _ _⟩
      · -- From True, To False, nobody True, late True
        obtain ⟨hm, hm2, hf0, hg⟩ := hway
        have hY : whyG k u us = 10 := by unfold whyG; rw [if_pos hg]
        have HM := Lib.hid (fun w1 => HMm.out _ hm w1)
        have HM2 := Lib.hid (fun w1 => HMn.out _ hm2 w1)
        have hfe : decide (f < 0) = true := decide_eq_true hf0
        have hgg : decide (31 < (k : Int)) = true := decide_eq_true (by omega)
        obtain ⟨hp, he⟩ := HK2.out.2 (by rw [hY]; decide)
        rw [hY] at he
        subst hp he
        clear hY HK2 hm hm2 hf0 hg HMm HMn hf
        go_wp2_with fail
        refine (HM.out _).mono ?_
        rintro e' w9 ⟨rfl, hb9⟩
        replace hb0 := on hb0 hb9
        replace hr := hr.on hb9
        replace c0 := kept hb9 c0
        replace c3 := kept hb9 c3
        replace c4 := kept hb9 c4
        replace HZ2k := Lib.hid (HZ2k.out.on hb9)
        clear hb9 c1 c2
        have lr := hr.1
        go_wp2_with fail
        refine (HM2.out _).mono ?_
        rintro e' w9 ⟨rfl, hb9⟩
        replace hb0 := on hb0 hb9
        replace hr := hr.on hb9
        replace c0 := kept hb9 c0
        replace HZ2k := Lib.hid (HZ2k.out.on hb9)
        clear hb9 c3 c4
        have lr := hr.1
        go_wp2_with fail
        refine (HF.out _ HZ2k.out).mono ?_
        rintro e' w9 ⟨rfl, hb9⟩
        replace hb0 := on hb0 hb9
        replace hr := hr.on hb9
        clear hb9 c0
        have lr := hr.1
        obtain ⟨r0, r1, f0, f1⟩ := hr.two
        obtain ⟨e0, e1, _⟩ := (hr.put2 (.int .i64 k) (.int .i64 10)).two
        go_wp2
        exact bodyPost_ret (v := .agg #[.int .i64 k, .int .i64 10]) (by simp [results, Try.results27, go_sem, e0, e1]) rfl ⟨rfl, set2 hb0 (by omega) _ _⟩
      · -- From True, To True, nobody False, late False
        obtain ⟨hm, hm2, hf0, hg⟩ := hway
        have hY : whyG k u us = 0 := by unfold whyG; rw [if_neg hg, hf, if_neg hf0, if_neg (by rw [hm, hm2]; simp)]
        have HM := Lib.hid (fun w1 => HMm.out _ hm w1)
        have HM2 := Lib.hid (fun w1 => HMn.out _ hm2 w1)
        have hfe : decide (f < 0) = false := decide_eq_false hf0
        have hgg : decide (31 < (k : Int)) = false := decide_eq_false (by omega)
        have HN := Lib.hid (HK2.out.1 hY)
        clear hY HK2 hm hm2 hf0 hg HMm HMn hf
        go_wp2_with fail
        refine (HM.out _).mono ?_
        rintro e' w9 ⟨rfl, hb9⟩
        replace hb0 := on hb0 hb9
        replace hr := hr.on hb9
        replace c0 := kept hb9 c0
        replace c3 := kept hb9 c3
        replace c4 := kept hb9 c4
        replace HZ2k := Lib.hid (HZ2k.out.on hb9)
        clear hb9 c1 c2
        have lr := hr.1
        go_wp2_with fail
        refine (HM2.out _).mono ?_
        rintro e' w9 ⟨rfl, hb9⟩
        replace hb0 := on hb0 hb9
        replace hr := hr.on hb9
        replace c0 := kept hb9 c0
        replace HZ2k := Lib.hid (HZ2k.out.on hb9)
        clear hb9 c3 c4
        have lr := hr.1
        go_wp2_with fail
        refine (HF.out _ HZ2k.out).mono ?_
        rintro e' w9 ⟨rfl, hb9⟩
        replace hb0 := on hb0 hb9
        replace hr := hr.on hb9
        clear hb9 c0
        have lr := hr.1
        go_wp2
        go_roundw
        case rel => exact ⟨k + 1, by omega, by go_num, HN, hb0, hr⟩
        case measure => simp [intOf]; omega
      · -- From True, To True, nobody False, late True
        obtain ⟨hm, hm2, hf0, hg⟩ := hway
        have hY : whyG k u us = 10 := by unfold whyG; rw [if_pos hg]
        have HM := Lib.hid (fun w1 => HMm.out _ hm w1)
        have HM2 := Lib.hid (fun w1 => HMn.out _ hm2 w1)
        have hfe : decide (f < 0) = false := decide_eq_false hf0
        have hgg : decide (31 < (k : Int)) = true := decide_eq_true (by omega)
        obtain ⟨hp, he⟩ := HK2.out.2 (by rw [hY]; decide)
        rw [hY] at he
        subst hp he
        clear hY HK2 hm hm2 hf0 hg HMm HMn hf
        go_wp2_with fail
        refine (HM.out _).mono ?_
        rintro e' w9 ⟨rfl, hb9⟩
        replace hb0 := on hb0 hb9
        replace hr := hr.on hb9
        replace c0 := kept hb9 c0
        replace c3 := kept hb9 c3
        replace c4 := kept hb9 c4
        replace HZ2k := Lib.hid (HZ2k.out.on hb9)
        clear hb9 c1 c2
        have lr := hr.1
        go_wp2_with fail
        refine (HM2.out _).mono ?_
        rintro e' w9 ⟨rfl, hb9⟩
        replace hb0 := on hb0 hb9
        replace hr := hr.on hb9
        replace c0 := kept hb9 c0
        replace HZ2k := Lib.hid (HZ2k.out.on hb9)
        clear hb9 c3 c4
        have lr := hr.1
        go_wp2_with fail
        refine (HF.out _ HZ2k.out).mono ?_
        rintro e' w9 ⟨rfl, hb9⟩
        replace hb0 := on hb0 hb9
        replace hr := hr.on hb9
        clear hb9 c0
        have lr := hr.1
        obtain ⟨r0, r1, f0, f1⟩ := hr.two
        obtain ⟨e0, e1, _⟩ := (hr.put2 (.int .i64 k) (.int .i64 10)).two
        go_wp2
        exact bodyPost_ret (v := .agg #[.int .i64 k, .int .i64 10]) (by simp [results, Try.results27, go_sem, e0, e1]) rfl ⟨rfl, set2 hb0 (by omega) _ _⟩
      · -- From True, To True, nobody True, late False
        obtain ⟨hm, hm2, hf0, hg⟩ := hway
        have hY : whyG k u us = 11 := by unfold whyG; rw [if_neg hg, hf, if_pos hf0]
        have HM := Lib.hid (fun w1 => HMm.out _ hm w1)
        have HM2 := Lib.hid (fun w1 => HMn.out _ hm2 w1)
        have hfe : decide (f < 0) = true := decide_eq_true hf0
        have hgg : decide (31 < (k : Int)) = false := decide_eq_false (by omega)
        obtain ⟨hp, he⟩ := HK2.out.2 (by rw [hY]; decide)
        rw [hY] at he
        subst hp he
        clear hY HK2 hm hm2 hf0 hg HMm HMn hf
        go_wp2_with fail
        refine (HM.out _).mono ?_
        rintro e' w9 ⟨rfl, hb9⟩
        replace hb0 := on hb0 hb9
        replace hr := hr.on hb9
        replace c0 := kept hb9 c0
        replace c3 := kept hb9 c3
        replace c4 := kept hb9 c4
        replace HZ2k := Lib.hid (HZ2k.out.on hb9)
        clear hb9 c1 c2
        have lr := hr.1
        go_wp2_with fail
        refine (HM2.out _).mono ?_
        rintro e' w9 ⟨rfl, hb9⟩
        replace hb0 := on hb0 hb9
        replace hr := hr.on hb9
        replace c0 := kept hb9 c0
        replace HZ2k := Lib.hid (HZ2k.out.on hb9)
        clear hb9 c3 c4
        have lr := hr.1
        go_wp2_with fail
        refine (HF.out _ HZ2k.out).mono ?_
        rintro e' w9 ⟨rfl, hb9⟩
        replace hb0 := on hb0 hb9
        replace hr := hr.on hb9
        clear hb9 c0
        have lr := hr.1
        obtain ⟨r0, r1, f0, f1⟩ := hr.two
        obtain ⟨e0, e1, _⟩ := (hr.put2 (.int .i64 k) (.int .i64 11)).two
        go_wp2
        exact bodyPost_ret (v := .agg #[.int .i64 k, .int .i64 11]) (by simp [results, Try.results27, go_sem, e0, e1]) rfl ⟨rfl, set2 hb0 (by omega) _ _⟩
      · -- From True, To True, nobody True, late True
        obtain ⟨hm, hm2, hf0, hg⟩ := hway
        have hY : whyG k u us = 10 := by unfold whyG; rw [if_pos hg]
        have HM := Lib.hid (fun w1 => HMm.out _ hm w1)
        have HM2 := Lib.hid (fun w1 => HMn.out _ hm2 w1)
        have hfe : decide (f < 0) = true := decide_eq_true hf0
        have hgg : decide (31 < (k : Int)) = true := decide_eq_true (by omega)
        obtain ⟨hp, he⟩ := HK2.out.2 (by rw [hY]; decide)
        rw [hY] at he
        subst hp he
        clear hY HK2 hm hm2 hf0 hg HMm HMn hf
        go_wp2_with fail
        refine (HM.out _).mono ?_
        rintro e' w9 ⟨rfl, hb9⟩
        replace hb0 := on hb0 hb9
        replace hr := hr.on hb9
        replace c0 := kept hb9 c0
        replace c3 := kept hb9 c3
        replace c4 := kept hb9 c4
        replace HZ2k := Lib.hid (HZ2k.out.on hb9)
        clear hb9 c1 c2
        have lr := hr.1
        go_wp2_with fail
        refine (HM2.out _).mono ?_
        rintro e' w9 ⟨rfl, hb9⟩
        replace hb0 := on hb0 hb9
        replace hr := hr.on hb9
        replace c0 := kept hb9 c0
        replace HZ2k := Lib.hid (HZ2k.out.on hb9)
        clear hb9 c3 c4
        have lr := hr.1
        go_wp2_with fail
        refine (HF.out _ HZ2k.out).mono ?_
        rintro e' w9 ⟨rfl, hb9⟩
        replace hb0 := on hb0 hb9
        replace hr := hr.on hb9
        clear hb9 c0
        have lr := hr.1
        obtain ⟨r0, r1, f0, f1⟩ := hr.two
        obtain ⟨e0, e1, _⟩ := (hr.put2 (.int .i64 k) (.int .i64 10)).two
        go_wp2
        exact bodyPost_ret (v := .agg #[.int .i64 k, .int .i64 10]) (by simp [results, Try.results27, go_sem, e0, e1]) rfl ⟨rfl, set2 hb0 (by omega) _ _⟩
    · obtain rfl : k = n := by omega
      have HE := HK.out
      rw [← HL.out, wrongG_end] at HE
      simp only [Prod.mk.injEq] at HE
      obtain ⟨rfl, rfl⟩ := HE
      have lr := hr.1
      obtain ⟨r0, r1, f0, f1⟩ := hr.two
      obtain ⟨e0, e1, _⟩ := (hr.put2 (.int .i64 0) (.int .i64 0)).two
      go_wp2
      exact bodyPost_ret (v := .agg #[.int .i64 0, .int .i64 0]) (by simp [results, Try.results27, go_sem, e0, e1]) rfl ⟨rfl, set2 hb0 (by omega) _ _⟩
end Go.Proofs.Yteolenhgaekihaa.Right
