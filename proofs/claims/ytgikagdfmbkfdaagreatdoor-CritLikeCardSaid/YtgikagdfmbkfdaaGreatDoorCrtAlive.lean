/- What the program's and the reference's Hits answer, put together: one function of what is looked for and of the value; the laws' check of life. Written by wip/gen17e.py. -/
import Derived.Test.YtgikagdfmbkfdaaGreatDoorCrtHits
import Derived.Test.YtgikagdfmbkfdaaGreatDoorCrtRHits
namespace Go.Proofs.YtgikagdfmbkfdaaGreatDoor.Crt
open Go.RowKit Kit Reg Dec Dig Val

/-- what a law's call answers -/
def LawEnd (w : World) : Ending → World → Prop := fun e w' => e = .returned (.bool true) ∧ Below w.heap.size w w'
theorem none_of {t : ByteArray} (h : decide (t.size = 0) = true) : t = ⟨#[]⟩ := by
  rcases empty_or t with rfl | ⟨_, hz⟩
  · rfl
  · rw [hz] at h; cases h
theorem may_ways {k n : Int} {t : ByteArray} (h : mayV k n t = true) :
    (k = 0 ∧ n = 0 ∧ t = ⟨#[]⟩) ∨ (k = 1 ∧ t = ⟨#[]⟩ ∧ mayD n = true) ∨ (k = 2 ∧ n = 0 ∧ t.size ≤ 256) ∨ (k = 3 ∧ t = ⟨#[]⟩ ∧ (n = 0 ∨ n = 1)) ∨ (k = 4 ∧ t = ⟨#[]⟩) := by
  unfold mayV at h
  simp only [Bool.or_eq_true, Bool.and_eq_true] at h
  rcases h with (((⟨⟨h1, h2⟩, h3⟩ | ⟨⟨h1, h2⟩, h3⟩) | ⟨⟨h1, h2⟩, h3⟩) | ⟨⟨h1, h2⟩, h3⟩) | ⟨⟨⟨h1, h2⟩, h3⟩, h4⟩
  · exact .inl ⟨of_decide_eq_true h1, of_decide_eq_true h3, none_of h2⟩
  · exact .inr (.inl ⟨of_decide_eq_true h1, none_of h2, h3⟩)
  · exact .inr (.inr (.inl ⟨of_decide_eq_true h1, of_decide_eq_true h2, of_decide_eq_true h3⟩))
  · exact .inr (.inr (.inr (.inl ⟨of_decide_eq_true h1, none_of h2, h3.imp of_decide_eq_true of_decide_eq_true⟩)))
  · exact .inr (.inr (.inr (.inr ⟨of_decide_eq_true h1, none_of h2⟩)))
/-- the kind as which a value counts -/
def fullK (k : Int) : Int := if k = 0 then 2 else k
/-- what is looked for hits a value -/
def hitsV (op k2 n2 : Int) (t2 : ByteArray) (k n : Int) (t : ByteArray) : Bool :=
  if k = 4 then false else if fullK k = k2 then (if k2 = 2 then holdsD op (fitL t2.data.toList t.data.toList) (Lib.compareBytes t.data.toList t2.data.toList) else holdsD op (wayI n n2 == 0) (wayI n n2)) else op == 8
theorem holds_eq (like : Bool) (way : Int) : holdsD 7 like way = like := rfl
theorem holds_ne (like : Bool) (way : Int) : holdsD 8 like way = !like := rfl
theorem holds_other {op : Int} (h1 : ¬ op = 7) (h2 : ¬ op = 8) (a b : Bool) (way : Int) : holdsD op a way = holdsD op b way := by unfold holdsD; rw [if_neg h1, if_neg h2, if_neg h1, if_neg h2]
theorem beq_no {a b : Int} (h : ¬ a = b) : (a == b) = false := by rw [beq_eq_false_iff_ne]; exact h
/-- the program's -/
theorem hits_c (HTS : TrimsStars) (op k2 n2 k n : Int) (t2 t : ByteArray) (o1 : 7 ≤ op) (o2 : op ≤ 12) (h2 : mayV k2 n2 t2 = true) (hk2 : k2 = 1 ∨ k2 = 2 ∨ k2 = 3) (h : mayV k n t = true) (hs : t.size ≤ 1000) (b : Bool) (hb : hitsV op k2 n2 t2 k n t = b) (w : World) :
    Calls Tryz.prog 13 #[.agg #[.int .i64 op, .int .i64 k2, .int .i64 n2, .string t2], .agg #[.int .i64 k, .int .i64 n, .string t]] w (Bit b w) := by
  by_cases h4 : k = 4
  · subst h4
    obtain rfl : b = false := by rw [← hb]; rfl
    exact hits_fault op k2 n2 4 n n t2 t t (fun w1 => filled_k 4 n t rfl w1) w
  · obtain ⟨kf, nf, tf, HF, hkf, hnf, htf⟩ : ∃ kf nf tf, (∀ w1, Calls Tryz.prog 21 #[.agg #[.int .i64 k, .int .i64 n, .string t]] w1 (ValIs kf nf tf w1)) ∧ fullK k = kf ∧ nf = n ∧ tf = t := by
      by_cases h0 : k = 0
      · subst h0
        rcases may_ways h with ⟨_, rfl, rfl⟩ | ⟨h, _⟩ | ⟨h, _⟩ | ⟨h, _⟩ | ⟨h, _⟩
        · exact ⟨2, 0, ⟨#[]⟩, fun w1 => filled_e 0 _ w1, rfl, rfl, rfl⟩
        all_goals exact absurd h (by decide)
      · exact ⟨k, n, t, fun w1 => filled_k k n t (beq_no h0) w1, by rw [fullK, if_neg h0], rfl, rfl⟩
    subst hnf
    subst htf
    have hf4 : ¬ kf = 4 := by rw [← hkf, fullK]; split <;> omega
    rw [hitsV, if_neg h4, hkf] at hb
    by_cases hk : kf = k2
    · subst hk
      rw [if_pos rfl] at hb
      by_cases ht2 : kf = 2
      · have hn2 : n2 = 0 ∧ t2.size ≤ 256 := by
          rcases may_ways h2 with ⟨h, _⟩ | ⟨h, _⟩ | ⟨_, h, h'⟩ | ⟨h, _⟩ | ⟨h, _⟩
          · omega
          · omega
          · exact ⟨h, h'⟩
          · omega
          · omega
        have hn : nf = 0 := by
          rcases may_ways h with ⟨_, h, _⟩ | ⟨h, _⟩ | ⟨_, h, _⟩ | ⟨h, _⟩ | ⟨h, _⟩
          · exact h
          · rw [h] at hkf; unfold fullK at hkf; rw [if_neg (by omega)] at hkf; omega
          · exact h
          · rw [h] at hkf; unfold fullK at hkf; rw [if_neg (by omega)] at hkf; omega
          · omega
        obtain ⟨rfl, hs2⟩ := hn2
        subst hn
        rw [if_pos ht2] at hb
        subst ht2
        by_cases e7 : op = 7
        · subst e7
          exact hits_text_eq HTS 0 k 0 0 t2 tf tf (by omega) hs b hb HF w
        · by_cases e8 : op = 8
          · subst e8
            have := hits_text_ne HTS 0 k 0 0 t2 tf tf (by omega) hs _ rfl HF w
            rwa [← hb]
          · exact hits_alike op 0 k 0 2 0 (Lib.compareBytes tf.data.toList t2.data.toList) t2 tf tf HF rfl (.inr ⟨rfl, beq_no e7, beq_no e8⟩) o1 o2 b ((holds_other e7 e8 _ _ _).trans hb) (fun w1 => compare_texts tf t2 _ rfl w1) w
      · rw [if_neg ht2] at hb
        have h13 : kf = 1 ∨ kf = 3 := by omega
        have e1 : tf = ⟨#[]⟩ := by
          rcases may_ways h with ⟨h, _⟩ | ⟨_, h, _⟩ | ⟨h, _⟩ | ⟨_, h, _⟩ | ⟨h, _⟩
          · rw [h] at hkf; exact absurd hkf (by unfold fullK; rw [if_pos rfl]; omega)
          · exact h
          · rw [h] at hkf; unfold fullK at hkf; rw [if_neg (by omega)] at hkf; omega
          · exact h
          · omega
        have e2 : t2 = ⟨#[]⟩ := by
          rcases may_ways h2 with ⟨h, _⟩ | ⟨_, h, _⟩ | ⟨h, _⟩ | ⟨_, h, _⟩ | ⟨h, _⟩
          · omega
          · exact h
          · omega
          · exact h
          · omega
        subst e1
        subst e2
        exact hits_alike op n2 k nf kf nf (wayI nf n2) _ _ _ HF (beq_no hf4) (.inl (beq_no ht2)) o1 o2 b hb (fun w1 => compare_nums kf nf n2 _ (beq_no (by omega)) (beq_no hf4) rfl w1) w
    · rw [if_neg hk] at hb
      exact hits_unlike op k2 n2 k nf kf nf t2 tf tf HF (beq_no hf4) (beq_no hk) b hb w
/-- the reference's -/
theorem rhits_c (op k2 n2 k n : Int) (t2 t : ByteArray) (o1 : 7 ≤ op) (o2 : op ≤ 12) (h2 : mayV k2 n2 t2 = true) (hk2 : k2 = 1 ∨ k2 = 2 ∨ k2 = 3) (h : mayV k n t = true) (hs : t.size ≤ 1000) (b : Bool) (hb : hitsV op k2 n2 t2 k n t = b) (w : World) :
    Calls Tryz.prog 14 #[.agg #[.int .i64 op, .int .i64 k2, .int .i64 n2, .string t2], .agg #[.int .i64 k, .int .i64 n, .string t]] w (Bit b w) := by
  have text2 : k2 = 2 → n2 = 0 ∧ t2.size ≤ 1000 := fun h22 => by
    rcases may_ways h2 with ⟨h, _⟩ | ⟨h, _⟩ | ⟨_, h, h'⟩ | ⟨h, _⟩ | ⟨h, _⟩
    · omega
    · omega
    · exact ⟨h, by omega⟩
    · omega
    · omega
  have none2 : ¬ k2 = 2 → t2 = ⟨#[]⟩ := fun h22 => by
    rcases may_ways h2 with ⟨h, _⟩ | ⟨_, h, _⟩ | ⟨h, _⟩ | ⟨_, h, _⟩ | ⟨h, _⟩
    · omega
    · exact h
    · omega
    · exact h
    · omega
  rcases may_ways h with ⟨rfl, rfl, rfl⟩ | ⟨rfl, rfl, _⟩ | ⟨rfl, rfl, _⟩ | ⟨rfl, rfl, _⟩ | ⟨rfl, rfl⟩
  · rw [hitsV, if_neg (by omega), show fullK 0 = 2 from rfl] at hb
    by_cases h22 : 2 = k2
    · obtain ⟨rfl, hs2⟩ := text2 h22.symm
      subst h22
      rw [if_pos rfl, if_pos rfl] at hb
      exact rhits_text0 op 0 0 _ t2 ⟨#[]⟩ _ o1 o2 b hb (fun w1 => rcompare_texts ⟨#[]⟩ t2 (by decide) hs2 _ rfl w1) (fun w1 => rlike_c t2 ⟨#[]⟩ hs2 (by decide) _ rfl w1) w
    · rw [if_neg h22] at hb
      exact rhits_unlike_0 op k2 n2 0 t2 _ (beq_no h22) b hb w
  · rw [hitsV, if_neg (by omega), show fullK 1 = 1 from rfl] at hb
    by_cases h22 : 1 = k2
    · subst h22
      obtain rfl := none2 (by omega)
      rw [if_pos rfl, if_neg (by omega)] at hb
      exact rhits_nums op n2 1 n _ _ _ rfl rfl rfl o1 o2 b hb (fun w1 => rcompare_nums 1 n n2 _ rfl rfl rfl w1) w
    · rw [if_neg h22] at hb
      exact rhits_unlike_k op k2 n2 1 n t2 _ rfl rfl (beq_no h22) b hb w
  · rw [hitsV, if_neg (by omega), show fullK 2 = 2 from rfl] at hb
    by_cases h22 : 2 = k2
    · obtain ⟨rfl, hs2⟩ := text2 h22.symm
      subst h22
      rw [if_pos rfl, if_pos rfl] at hb
      exact rhits_text op 0 0 _ t2 t _ o1 o2 b hb (fun w1 => rcompare_texts t t2 hs hs2 _ rfl w1) (fun w1 => rlike_c t2 t hs2 hs _ rfl w1) w
    · rw [if_neg h22] at hb
      exact rhits_unlike_k op k2 n2 2 0 t2 t rfl rfl (beq_no h22) b hb w
  · rw [hitsV, if_neg (by omega), show fullK 3 = 3 from rfl] at hb
    by_cases h22 : 3 = k2
    · subst h22
      obtain rfl := none2 (by omega)
      rw [if_pos rfl, if_neg (by omega)] at hb
      exact rhits_nums op n2 3 n _ _ _ rfl rfl rfl o1 o2 b hb (fun w1 => rcompare_nums 3 n n2 _ rfl rfl rfl w1) w
    · rw [if_neg h22] at hb
      exact rhits_unlike_k op k2 n2 3 n t2 _ rfl rfl (beq_no h22) b hb w
  · obtain rfl : b = false := by rw [← hb]; rfl
    exact rhits_fault op k2 n2 n t2 _ w
set_option maxRecDepth 100000 in
set_option maxHeartbeats 8000000 in
theorem alive_c (HTS : TrimsStars) (w : World) (hL : CLibs w) : Calls Tryz.prog 7 #[] w (LawEnd w) := by
  have K0 : Hid (∀ w1, Calls Tryz.prog 16 #[.string ⟨#[62, 50]⟩] w1 (ValIs 2 0 ⟨#[62, 50]⟩ w1)) := Lib.hid (fun w1 => str_c _ 2 0 _ (str_in (by decide)) w1)
  have K1 : Hid (∀ w1, CLibs w1 → Calls Tryz.prog 8 #[.agg #[.int .i64 2, .int .i64 0, .string ⟨#[62, 50]⟩]] w1 (CritIs 11 1 20000 ⟨#[]⟩ true w1)) := Lib.hid (fun w1 h => of_words ⟨#[62, 50]⟩ (by decide) 11 1 (by decide +kernel) 1 20000 ⟨#[]⟩ (by decide +kernel) w1 h)
  have K2 : Hid (∀ w1, Calls Tryz.prog 17 #[.int .i64 1] w1 (ValIs 4 1 ⟨#[]⟩ w1)) := Lib.hid (fun w1 => bad_c 1 w1)
  have K3 : Hid (∀ w1, Calls Tryz.prog 8 #[.agg #[.int .i64 4, .int .i64 1, .string ⟨#[]⟩]] w1 (CritIs 0 0 0 ⟨#[]⟩ false w1)) := Lib.hid (fun w1 => of_fault 1 _ w1)
  have K4 : Hid (∀ w1, Calls Tryz.prog 18 #[.int .i64 20000] w1 (ValIs 1 20000 ⟨#[]⟩ w1)) := Lib.hid (fun w1 => num_c 20000 1 20000 (num_in (by decide)) w1)
  have K5 : Hid (∀ w1, Calls Tryz.prog 18 #[.int .i64 20001] w1 (ValIs 1 20001 ⟨#[]⟩ w1)) := Lib.hid (fun w1 => num_c 20001 1 20001 (num_in (by decide)) w1)
  have K6 : Hid (∀ w1, Calls Tryz.prog 13 #[.agg #[.int .i64 11, .int .i64 1, .int .i64 20000, .string ⟨#[]⟩], .agg #[.int .i64 1, .int .i64 20001, .string ⟨#[]⟩]] w1 (Bit true w1)) := Lib.hid (fun w1 => hits_c HTS 11 1 20000 1 20001 _ _ (by decide) (by decide) (by decide +kernel) (.inl rfl) (by decide +kernel) (by decide) true (by decide +kernel) w1)
  have K7 : Hid (∀ w1, Calls Tryz.prog 16 #[.string ⟨#[57]⟩] w1 (ValIs 2 0 ⟨#[57]⟩ w1)) := Lib.hid (fun w1 => str_c _ 2 0 _ (str_in (by decide)) w1)
  have K8 : Hid (∀ w1, Calls Tryz.prog 13 #[.agg #[.int .i64 11, .int .i64 1, .int .i64 20000, .string ⟨#[]⟩], .agg #[.int .i64 2, .int .i64 0, .string ⟨#[57]⟩]] w1 (Bit false w1)) := Lib.hid (fun w1 => hits_c HTS 11 1 20000 2 0 _ _ (by decide) (by decide) (by decide +kernel) (.inl rfl) (by decide +kernel) (by decide) false (by decide +kernel) w1)
  have K9 : Hid (∀ w1, Calls Tryz.prog 11 #[.string ⟨#[97, 42, 99, 63]⟩, .string ⟨#[97, 98, 99, 98, 99, 100]⟩] w1 (Bit true w1)) := Lib.hid (fun w1 => like_c HTS _ _ (by decide) (by decide) true (by decide +kernel) w1)
  have K10 : Hid (∀ w1, Calls Tryz.prog 11 #[.string ⟨#[97, 63]⟩, .string ⟨#[97]⟩] w1 (Bit false w1)) := Lib.hid (fun w1 => like_c HTS _ _ (by decide) (by decide) false (by decide +kernel) w1)
  have HL := Lib.hid hL
  clear hL HTS
  go_enter Tryz.func7, Tryz.ntmps7
  go_wp2_with fail
  refine (K0.out _).mono ?_
  rintro e w1 ⟨rfl, hb0⟩
  clear K0
  have HL1 := Lib.hid (HL.out.grown hb0)
  go_wp2_with fail
  refine (K1.out _ HL1.out).mono ?_
  rintro e w2 ⟨rfl, hb2⟩
  replace hb0 := on hb0 hb2
  clear K1 HL1 HL hb2
  have hc := CellsAt.new w2 [.int .i64 11, .int .i64 1, .int .i64 20000, .string ⟨#[]⟩] 27
  replace hb0 := on_alloc hb0 (.cells #[.int .i64 11, .int .i64 1, .int .i64 20000, .string ⟨#[]⟩] 27)
  go_wp2_with fail
  refine (K2.out _).mono ?_
  rintro e w3 ⟨rfl, hb3⟩
  replace hc := hc.on hb3
  replace hb0 := on hb0 hb3
  clear K2 hb3
  go_wp2_with fail
  refine (K3.out _).mono ?_
  rintro e w4 ⟨rfl, hb4⟩
  replace hc := (hc.on hb4).on_alloc (.cells #[.int .i64 0, .int .i64 0, .int .i64 0, .string ⟨#[]⟩] 27)
  replace hb0 := on_alloc (on hb0 hb4) (.cells #[.int .i64 0, .int .i64 0, .int .i64 0, .string ⟨#[]⟩] 27)
  clear K3 hb4
  go_wp2_with fail
  generalize w4.alloc (.cells #[.int .i64 0, .int .i64 0, .int .i64 0, .string ⟨#[]⟩] 27) = W at *
  obtain ⟨c0, c1, c2, c3, _⟩ := hc.four
  have C0 := fun d os => cell_regrown c0 d os
  have C1 := fun d os => cell_regrown c1 d os
  have C2 := fun d os => cell_regrown c2 d os
  have C3 := fun d os => cell_regrown c3 d os
  clear c0 c1 c2 c3 hc
  refine wp_region_mem 35 (fun d => match d with
    | 28 => some (Is (.agg #[.int .i64 1, .int .i64 20000, .string ⟨#[]⟩]))
    | 33 => some (Is (.agg #[.int .i64 1, .int .i64 20001, .string ⟨#[]⟩]))
    | 34 => some (Is (.bool true))
    | 38 => some (Is (.agg #[.int .i64 2, .int .i64 0, .string ⟨#[57]⟩]))
    | 39 => some (Is (.bool false))
    | 43 => some (Is (.bool true))
    | 46 => some (Is (.bool false))
    | _ => none) (by kernel_rfl) (by kernel_rfl) ?_
  simp only [List.take_succ_cons, List.take_zero, List.drop_succ_cons, List.drop_zero]
  repeat (first | ((with_reducible refine wpM_calm ?_ ?_ ?_ ?_); exact rfl; exact rfl; exact rfl; intro K hK; go_big_quiet_op; go_big_quiet_on) | ((with_reducible refine wpM_skip ?_ ?_); exact rfl; simp only [Act.put, List.setIfInBounds_toArray, List.set_cons_succ, List.set_cons_zero]))
  refine wpM_exact rfl rfl rfl Tryz.func18 (by kernel_rfl) (by kernel_rfl) (fun w1 _ _ => K4.out w1) rfl (by simp only [Act.put, List.setIfInBounds_toArray, List.set_cons_succ, List.set_cons_zero]; rfl) ?_
  repeat (first | ((with_reducible refine wpM_calm ?_ ?_ ?_ ?_); exact rfl; exact rfl; exact rfl; intro K hK; go_big_quiet_op; go_big_quiet_on) | ((with_reducible refine wpM_skip ?_ ?_); exact rfl; simp only [Act.put, List.setIfInBounds_toArray, List.set_cons_succ, List.set_cons_zero]))
  refine wpM_exact rfl rfl rfl Tryz.func18 (by kernel_rfl) (by kernel_rfl) (fun w1 _ _ => K5.out w1) rfl (by simp only [Act.put, List.setIfInBounds_toArray, List.set_cons_succ, List.set_cons_zero]; rfl) ?_
  repeat (first | ((with_reducible refine wpM_calm ?_ ?_ ?_ ?_); exact rfl; exact rfl; exact rfl; intro K hK; go_big_quiet_op; go_big_quiet_on) | ((with_reducible refine wpM_skip ?_ ?_); exact rfl; simp only [Act.put, List.setIfInBounds_toArray, List.set_cons_succ, List.set_cons_zero]))
  refine wpM_exact rfl rfl rfl Tryz.func13 (by kernel_rfl) (by kernel_rfl) (fun w1 _ _ => K6.out w1) rfl (by simp only [Act.put, List.setIfInBounds_toArray, List.set_cons_succ, List.set_cons_zero]; rfl) ?_
  repeat (first | ((with_reducible refine wpM_calm ?_ ?_ ?_ ?_); exact rfl; exact rfl; exact rfl; intro K hK; go_big_quiet_op; go_big_quiet_on) | ((with_reducible refine wpM_skip ?_ ?_); exact rfl; simp only [Act.put, List.setIfInBounds_toArray, List.set_cons_succ, List.set_cons_zero]))
  refine wpM_exact rfl rfl rfl Tryz.func16 (by kernel_rfl) (by kernel_rfl) (fun w1 _ _ => K7.out w1) rfl (by simp only [Act.put, List.setIfInBounds_toArray, List.set_cons_succ, List.set_cons_zero]; rfl) ?_
  repeat (first | ((with_reducible refine wpM_calm ?_ ?_ ?_ ?_); exact rfl; exact rfl; exact rfl; intro K hK; go_big_quiet_op; go_big_quiet_on) | ((with_reducible refine wpM_skip ?_ ?_); exact rfl; simp only [Act.put, List.setIfInBounds_toArray, List.set_cons_succ, List.set_cons_zero]))
  refine wpM_exact rfl rfl rfl Tryz.func13 (by kernel_rfl) (by kernel_rfl) (fun w1 _ _ => K8.out w1) rfl (by simp only [Act.put, List.setIfInBounds_toArray, List.set_cons_succ, List.set_cons_zero]; rfl) ?_
  repeat (first | ((with_reducible refine wpM_calm ?_ ?_ ?_ ?_); exact rfl; exact rfl; exact rfl; intro K hK; go_big_quiet_op; go_big_quiet_on) | ((with_reducible refine wpM_skip ?_ ?_); exact rfl; simp only [Act.put, List.setIfInBounds_toArray, List.set_cons_succ, List.set_cons_zero]))
  refine wpM_exact rfl rfl rfl Tryz.func11 (by kernel_rfl) (by kernel_rfl) (fun w1 _ _ => K9.out w1) rfl (by simp only [Act.put, List.setIfInBounds_toArray, List.set_cons_succ, List.set_cons_zero]; rfl) ?_
  repeat (first | ((with_reducible refine wpM_calm ?_ ?_ ?_ ?_); exact rfl; exact rfl; exact rfl; intro K hK; go_big_quiet_op; go_big_quiet_on) | ((with_reducible refine wpM_skip ?_ ?_); exact rfl; simp only [Act.put, List.setIfInBounds_toArray, List.set_cons_succ, List.set_cons_zero]))
  refine wpM_exact rfl rfl rfl Tryz.func11 (by kernel_rfl) (by kernel_rfl) (fun w1 _ _ => K10.out w1) rfl (by simp only [Act.put, List.setIfInBounds_toArray, List.set_cons_succ, List.set_cons_zero]; rfl) ?_
  repeat (first | ((with_reducible refine wpM_calm ?_ ?_ ?_ ?_); exact rfl; exact rfl; exact rfl; intro K hK; go_big_quiet_op; go_big_quiet_on) | ((with_reducible refine wpM_skip ?_ ?_); exact rfl; simp only [Act.put, List.setIfInBounds_toArray, List.set_cons_succ, List.set_cons_zero]))
  refine wpM_nil ?_
  intro w9 hw9 _
  clear C0 C1 C2 C3
  go_wp2
  go_ret
  exact ⟨rfl, on hb0 hw9⟩
end Go.Proofs.YtgikagdfmbkfdaaGreatDoor.Crt
