/- The check of life, FnameTells, FnameOwn. -/
import Derived.Test.YteojdidjeinlpaaFnmGo
import Derived.Test.YteojdidjeinlpaaFnmRef
namespace Go.Proofs.Yteojdidjeinlpaa.Fnm
open Go.RowKit Kit Reg

/-- what a law's call answers -/
def LawEnd (w : World) : Ending → World → Prop := fun e w' => e = .returned (.bool true) ∧ Below w.heap.size w w'
theorem life_find : findF (⟨#[86, 76, 79, 79, 75, 85, 80]⟩ : ByteArray).data.toList = 77 := by kernel_rfl
theorem life_none : findF (⟨#[115, 117, 109]⟩ : ByteArray).data.toList = 0 := by kernel_rfl
theorem life_kind1 : kindF 77 1 = 114 := by kernel_rfl
theorem life_kind2 : kindF 67 7 = 108 := by kernel_rfl
theorem life_kind3 : kindF 67 8 = 0 := by kernel_rfl
theorem life_lazy1 : (kindF 25 0 == 101) = true := by kernel_rfl
theorem life_lazy2 : (kindF 67 0 == 101) = false := by kernel_rfl
theorem life_name : nameF 78 = [88, 79, 82] := by kernel_rfl
set_option maxRecDepth 100000 in
set_option maxHeartbeats 4000000 in
theorem alive_c (w : World) : Calls Try.prog 14 #[] w (LawEnd w) := by
  have H1 := Lib.hid (fun w1 => number_c ⟨#[86, 76, 79, 79, 75, 85, 80]⟩ 77 life_find w1)
  have H2 := Lib.hid (fun w1 => kind_c 77 1 114 life_kind1 w1)
  have H3 := Lib.hid (fun w1 => kind_c 67 7 108 life_kind2 w1)
  have H4 := Lib.hid (fun w1 => kind_c 67 8 0 life_kind3 w1)
  have H5 := Lib.hid (fun w1 => lazy_c 25 true life_lazy1 w1)
  have H6 := Lib.hid (fun w1 => lazy_c 67 false life_lazy2 w1)
  have H7 := Lib.hid (fun w1 => name_c 78 w1)
  have H8 := Lib.hid (fun w1 => number_c ⟨#[115, 117, 109]⟩ 0 life_none w1)
  go_enter Try.func14, Try.ntmps14
  go_wp2_with fail
  refine (H1.out _).mono ?_
  rintro e w1 ⟨rfl, hb⟩
  go_wp2_with fail
  refine (H2.out _).mono ?_
  rintro e w2 ⟨rfl, hb2⟩
  replace hb := on hb hb2
  clear hb2
  go_wp2_with fail
  refine (H3.out _).mono ?_
  rintro e w2 ⟨rfl, hb2⟩
  replace hb := on hb hb2
  clear hb2
  go_wp2_with fail
  refine (H4.out _).mono ?_
  rintro e w2 ⟨rfl, hb2⟩
  replace hb := on hb hb2
  clear hb2
  go_wp2_with fail
  refine (H5.out _).mono ?_
  rintro e w2 ⟨rfl, hb2⟩
  replace hb := on hb hb2
  clear hb2
  go_wp2_with fail
  refine (H6.out _).mono ?_
  rintro e w2 ⟨rfl, hb2⟩
  replace hb := on hb hb2
  clear hb2
  go_wp2_with fail
  refine (H7.out _).mono ?_
  rintro e w2 ⟨s, rfl, hs, hb2⟩
  obtain rfl : s = ⟨#[88, 79, 82]⟩ := bytes_eq (by rw [hs, life_name])
  replace hb := on hb hb2
  clear hb2
  go_wp2_with fail
  refine (H8.out _).mono ?_
  rintro e w2 ⟨rfl, hb2⟩
  replace hb := on hb hb2
  clear hb2
  go_wp2
  go_ret
  exact ⟨rfl, hb⟩
set_option maxRecDepth 100000 in
set_option maxHeartbeats 4000000 in
theorem tells_law (s : ByteArray) (fn n : Int) (w : World) : Calls Try.prog 3 #[.string s, .int .i64 fn, .int .i64 n] w (LawEnd w) := by
  obtain ⟨a, ha⟩ : ∃ a, findF s.data.toList = a := ⟨_, rfl⟩
  obtain ⟨f, hf⟩ : ∃ f, fitsF fn n = f := ⟨_, rfl⟩
  obtain ⟨c, hc⟩ : ∃ c, kindF fn n = c := ⟨_, rfl⟩
  obtain ⟨d, hd⟩ : ∃ d, kindF fn 0 = d := ⟨_, rfl⟩
  obtain ⟨l, hl⟩ : ∃ l : Bool, (d == 101) = l := ⟨_, rfl⟩
  have e1 : ((d.toNat : Int) == 101) = l := by
    rw [← hl, Bool.eq_iff_iff, beq_iff_eq, beq_iff_eq, ← UInt8.toNat_inj]
    show _ ↔ d.toNat = 101
    omega
  have H1 := Lib.hid (fun w1 => number_c s a ha w1)
  have H2 := Lib.hid (fun w1 => rfind_c s a ha w1)
  have H3 := Lib.hid (fun w1 => name_c fn w1)
  have H4 := Lib.hid (fun w1 => rname_c fn w1)
  have H5 := Lib.hid (fun w1 => fits_c fn n f hf w1)
  have H6 := Lib.hid (fun w1 => rfits_c fn n f hf w1)
  have H7 := Lib.hid (fun w1 => kind_c fn n c hc w1)
  have H8 := Lib.hid (fun w1 => rkind_c fn n c hc w1)
  have H9 := Lib.hid (fun w1 => lazy_c fn l (hd ▸ hl) w1)
  have HA := Lib.hid (fun w1 => rkind_c fn 0 d hd w1)
  have HB := Lib.hid (fun w1 => alive_c w1)
  clear ha hf hc hd hl
  go_enter Try.func3, Try.ntmps3
  go_wp2_with fail
  refine (H1.out _).mono ?_
  rintro e w1 ⟨rfl, hb⟩
  go_wp2_with fail
  refine (H2.out _).mono ?_
  rintro e w2 ⟨rfl, hb2⟩
  replace hb := on hb hb2
  clear hb2
  go_wp2_with fail
  refine (H3.out _).mono ?_
  rintro e w2 ⟨t, rfl, ht, hb2⟩
  obtain rfl : t = ⟨(nameF fn).toArray⟩ := bytes_eq (by rw [ht])
  replace hb := on hb hb2
  clear hb2 ht
  go_wp2_with fail
  refine (H4.out _).mono ?_
  rintro e w2 ⟨rfl, hb2⟩
  replace hb := on hb hb2
  clear hb2
  go_wp2_with fail
  refine (H5.out _).mono ?_
  rintro e w2 ⟨rfl, hb2⟩
  replace hb := on hb hb2
  clear hb2
  go_wp2_with fail
  refine (H6.out _).mono ?_
  rintro e w2 ⟨rfl, hb2⟩
  replace hb := on hb hb2
  clear hb2
  go_wp2_with fail
  refine (H7.out _).mono ?_
  rintro e w2 ⟨rfl, hb2⟩
  replace hb := on hb hb2
  clear hb2
  go_wp2_with fail
  refine (H8.out _).mono ?_
  rintro e w2 ⟨rfl, hb2⟩
  replace hb := on hb hb2
  clear hb2
  go_wp2_with fail
  refine (H9.out _).mono ?_
  rintro e w2 ⟨rfl, hb2⟩
  replace hb := on hb hb2
  clear hb2
  go_wp2_with fail
  refine (HA.out _).mono ?_
  rintro e w2 ⟨rfl, hb2⟩
  replace hb := on hb hb2
  clear hb2
  go_wp2_with fail
  refine (HB.out _).mono ?_
  rintro e w2 ⟨rfl, hb2⟩
  replace hb := on hb hb2
  clear hb2
  go_wp2
  go_ret
  exact ⟨rfl, hb⟩
/-- a name as a text -/
def nt (k : Nat) : ByteArray := ⟨(nm k).toArray⟩
theorem nt_some {k : Nat} (hk : k < 78) : ((nt k).toList == []) = false := by
  rw [Lib.toList_data]
  cases e : nm k with
  | nil => exact absurd e (nm_facts hk).2.1
  | cons x r => rw [show (nt k).data.toList = nm k from rfl, e]; rfl
theorem nt_size {k : Nat} (hk : k < 78) : (nt k).size ≤ 1000 := by
  have := (nm_facts hk).2.2.1
  rw [← len]
  exact Nat.le_trans this (by decide)
theorem nt_same {a b : Nat} (ha : a < 78) (hb : b < 78) : ((nt a).toList == (nt b).toList) = decide (a = b) := by
  rw [Lib.toList_data, Lib.toList_data, Bool.eq_iff_iff, beq_iff_eq, decide_eq_true_eq]
  exact ⟨fun h => same_k ha hb h, fun h => by rw [h]⟩
set_option maxRecDepth 100000 in
set_option maxHeartbeats 4000000 in
theorem own_law (a b : Int) (w : World) : Calls Try.prog 4 #[.int .i64 a, .int .i64 b] w (LawEnd w) := by
  have H1 := Lib.hid (fun w1 => name_c a w1)
  have H2 := Lib.hid (fun w1 => name_c b w1)
  have HB := Lib.hid (fun w1 => alive_c w1)
  by_cases h : 1 ≤ a ∧ a ≤ 78
  · obtain ⟨k, hk, rfl⟩ := to_k h
    rw [name_k hk] at H1
    have H3 := Lib.hid (fun w1 => number_c (nt k) (k + 1) (nm_facts hk).1 w1)
    have ex := nt_some hk
    clear h
    by_cases h2 : 1 ≤ b ∧ b ≤ 78
    · obtain ⟨j, hj, rfl⟩ := to_k h2
      rw [name_k hj] at H2
      have ey := nt_some hj
      have exy := nt_same hk hj
      have eab : ((k : Int) + 1 == (j : Int) + 1) = decide (k = j) := by rw [Bool.eq_iff_iff, beq_iff_eq, decide_eq_true_eq]; omega
      have HL := Lib.hid (fun (h : k < j) w1 => rless_c (nt k) (nt j) (nt_size hk) (nt_size hj) true (ord_k hj h) w1)
      clear h2
      generalize hd : decide (k = j) = d at exy eab
      clear hd
      by_cases h3 : j ≤ k
      · have d3 : decide ((j : Int) + 1 ≤ (k : Int) + 1) = true := decide_eq_true (by omega)
        have d4 : decide (j ≤ k) = true := decide_eq_true h3
        clear HL
        cases d
        all_goals
          go_enter Try.func4, Try.ntmps4
          go_wp2_with fail
          refine (H1.out _).mono ?_
          rintro e w1 ⟨t, rfl, ht, hb⟩
          obtain rfl : t = nt k := bytes_eq (by rw [ht]; rfl)
          clear ht
          go_wp2_with fail
          refine (H2.out _).mono ?_
          rintro e w2 ⟨y, rfl, hy, hb2⟩
          replace hb := on hb hb2
          clear hb2
          obtain rfl : y = nt j := bytes_eq (by rw [hy]; rfl)
          clear hy
          go_wp2_with fail
          refine (H3.out _).mono ?_
          rintro e w2 ⟨rfl, hb2⟩
          replace hb := on hb hb2
          clear hb2
          go_wp2_with fail
          refine (HB.out _).mono ?_
          rintro e w2 ⟨rfl, hb2⟩
          replace hb := on hb hb2
          clear hb2
          go_wp2
          go_ret
          exact ⟨rfl, hb⟩
      · have d3 : decide ((j : Int) + 1 ≤ (k : Int) + 1) = false := decide_eq_false (by omega)
        have d4 : decide (j ≤ k) = false := decide_eq_false h3
        replace HL := Lib.hid (HL.out (by omega))
        cases d
        all_goals
          go_enter Try.func4, Try.ntmps4
          go_wp2_with fail
          refine (H1.out _).mono ?_
          rintro e w1 ⟨t, rfl, ht, hb⟩
          obtain rfl : t = nt k := bytes_eq (by rw [ht]; rfl)
          clear ht
          go_wp2_with fail
          refine (H2.out _).mono ?_
          rintro e w2 ⟨y, rfl, hy, hb2⟩
          replace hb := on hb hb2
          clear hb2
          obtain rfl : y = nt j := bytes_eq (by rw [hy]; rfl)
          clear hy
          go_wp2_with fail
          refine (H3.out _).mono ?_
          rintro e w2 ⟨rfl, hb2⟩
          replace hb := on hb hb2
          clear hb2
          go_wp2_with fail
          refine (HL.out _).mono ?_
          rintro e w2 ⟨rfl, hb2⟩
          replace hb := on hb hb2
          clear hb2
          go_wp2_with fail
          refine (HB.out _).mono ?_
          rintro e w2 ⟨rfl, hb2⟩
          replace hb := on hb hb2
          clear hb2
          go_wp2
          go_ret
          exact ⟨rfl, hb⟩
    · rw [(no_fn h2).1] at H2
      clear h2
      go_enter Try.func4, Try.ntmps4
      go_wp2_with fail
      refine (H1.out _).mono ?_
      rintro e w1 ⟨t, rfl, ht, hb⟩
      obtain rfl : t = nt k := bytes_eq (by rw [ht]; rfl)
      clear ht
      go_wp2_with fail
      refine (H2.out _).mono ?_
      rintro e w2 ⟨y, rfl, hy, hb2⟩
      replace hb := on hb hb2
      clear hb2
      obtain rfl : y = ⟨#[]⟩ := bytes_eq (by rw [hy])
      clear hy
      go_wp2_with fail
      refine (H3.out _).mono ?_
      rintro e w2 ⟨rfl, hb2⟩
      replace hb := on hb hb2
      clear hb2
      go_wp2_with fail
      refine (HB.out _).mono ?_
      rintro e w2 ⟨rfl, hb2⟩
      replace hb := on hb hb2
      clear hb2
      go_wp2
      go_ret
      exact ⟨rfl, hb⟩
  · rw [(no_fn h).1] at H1
    have H4 := Lib.hid (fun w1 => fits_c a b false ((no_fn h).2.1 b) w1)
    have H5 := Lib.hid (fun w1 => kind_c a b 0 ((no_fn h).2.2 b) w1)
    by_cases h1 : a < 1
    · have d1 : decide (a < 1) = true := decide_eq_true h1
      clear h
      go_enter Try.func4, Try.ntmps4
      go_wp2_with fail
      refine (H1.out _).mono ?_
      rintro e w1 ⟨t, rfl, ht, hb⟩
      obtain rfl : t = ⟨#[]⟩ := bytes_eq (by rw [ht])
      clear ht
      go_wp2_with fail
      refine (H2.out _).mono ?_
      rintro e w2 ⟨y, rfl, hy, hb2⟩
      replace hb := on hb hb2
      clear hb2
      clear hy
      go_wp2_with fail
      refine (H4.out _).mono ?_
      rintro e w2 ⟨rfl, hb2⟩
      replace hb := on hb hb2
      clear hb2
      go_wp2_with fail
      refine (H5.out _).mono ?_
      rintro e w2 ⟨rfl, hb2⟩
      replace hb := on hb hb2
      clear hb2
      go_wp2_with fail
      refine (HB.out _).mono ?_
      rintro e w2 ⟨rfl, hb2⟩
      replace hb := on hb hb2
      clear hb2
      go_wp2
      go_ret
      exact ⟨rfl, hb⟩
    · have d1 : decide (a < 1) = false := decide_eq_false h1
      have d2 : decide (78 < a) = true := decide_eq_true (by omega)
      clear h
      go_enter Try.func4, Try.ntmps4
      go_wp2_with fail
      refine (H1.out _).mono ?_
      rintro e w1 ⟨t, rfl, ht, hb⟩
      obtain rfl : t = ⟨#[]⟩ := bytes_eq (by rw [ht])
      clear ht
      go_wp2_with fail
      refine (H2.out _).mono ?_
      rintro e w2 ⟨y, rfl, hy, hb2⟩
      replace hb := on hb hb2
      clear hb2
      clear hy
      go_wp2_with fail
      refine (H4.out _).mono ?_
      rintro e w2 ⟨rfl, hb2⟩
      replace hb := on hb hb2
      clear hb2
      go_wp2_with fail
      refine (H5.out _).mono ?_
      rintro e w2 ⟨rfl, hb2⟩
      replace hb := on hb hb2
      clear hb2
      go_wp2_with fail
      refine (HB.out _).mono ?_
      rintro e w2 ⟨rfl, hb2⟩
      replace hb := on hb hb2
      clear hb2
      go_wp2
      go_ret
      exact ⟨rfl, hb⟩
end Go.Proofs.Yteojdidjeinlpaa.Fnm
