/- What the program's and the reference's Hits answer, put together: one function of what is looked for and of the value; the laws' check of life. Written by wip/gen17e.py. -/
import Derived.Test.YtbjomidkeignjaaGreatDoorCrtHits
import Derived.Test.YtbjomidkeignjaaGreatDoorCrtRHits
namespace Go.Proofs.YtbjomidkeignjaaGreatDoor.Crt
open Go.RowKit Kit Reg Dec Dig Val

/-- what a law's call answers -/
def LawEnd (w : World) : Ending → World → Prop := fun e w' => e = .returned (.bool true) ∧ Below w.heap.size w w'
theorem none_of {t : ByteArray} (h : decide (t.size = 0) = true) : t = ⟨#[]⟩ := by
  rcases empty_or t with rfl | ⟨_, hz⟩
  · rfl
  · rw [hz] at h; cases h
theorem may_ways {k n : Int} {t : ByteArray} (h : mayV k n t = true) :
    (k = 0 ∧ n = 0 ∧ t = ⟨#[]⟩) ∨ (k = 1 ∧ t = ⟨#[]⟩ ∧ mayD n = true) ∨ (k = 2 ∧ n = 0 ∧ t.size ≤ 256) ∨ (k = 3 ∧ t = ⟨#[]⟩ ∧ (n = 0 ∨ n = 1)) ∨ (k = 4 ∧ t = ⟨#[]⟩) := by
  unfold mayV at h
  simp only [Bool.or_eq_true, Bool.and_eq_true] at h
  rcases h with (((⟨⟨h1, h2⟩, h3⟩ | ⟨⟨h1, h2⟩, h3⟩) | ⟨⟨h1, h2⟩, h3⟩) | ⟨⟨h1, h2⟩, h3⟩) | ⟨⟨⟨h1, h2⟩, h3⟩, h4⟩
  · exact .inl ⟨of_decide_eq_true h1, of_decide_eq_true h3, none_of h2⟩
  · exact .inr (.inl ⟨of_decide_eq_true h1, none_of h2, h3⟩)
  · exact .inr (.inr (.inl ⟨of_decide_eq_true h1, of_decide_eq_true h2, of_decide_eq_true h3⟩))
  · exact .inr (.inr (.inr (.inl ⟨of_decide_eq_true h1, none_of h2, h3.imp of_decide_eq_true of_decide_eq_true⟩)))
  · exact .inr (.inr (.inr (.inr ⟨of_decide_eq_true h1, none_of h2⟩)))
/-- the kind as which a value counts -/
def fullK (k : Int) : Int := if k = 0 then 2 else k
/-- what is looked for hits a value -/
def hitsV (op k2 n2 : Int) (t2 : ByteArray) (k n : Int) (t : ByteArray) : Bool :=
  if k = 4 then false else if fullK k = k2 then (if k2 = 2 then holdsD op (fitL t2.data.toList t.data.toList) (Lib.compareBytes t.data.toList t2.data.toList) else holdsD op (wayI n n2 == 0) (wayI n n2)) else op == 8
theorem holds_eq (like : Bool) (way : Int) : holdsD 7 like way = like := rfl
theorem holds_ne (like : Bool) (way : Int) : holdsD 8 like way = !like := rfl
theorem holds_other {op : Int} (h1 : ¬ op = 7) (h2 : ¬ op = 8) (a b : Bool) (way : Int) : holdsD op a way = holdsD op b way := by unfold holdsD; rw [if_neg h1, if_neg h2, if_neg h1, if_neg h2]
theorem beq_no {a b : Int} (h : ¬ a = b) : (a == b) = false := by rw [beq_eq_false_iff_ne]; exact h
/-- the program's -/
theorem hits_c (HTS : TrimsStars) (op k2 n2 k n : Int) (t2 t : ByteArray) (o1 : 7 ≤ op) (o2 : op ≤ 12) (h2 : mayV k2 n2 t2 = true) (hk2 : k2 = 1 ∨ k2 = 2 ∨ k2 = 3) (h : mayV k n t = true) (hs : t.size ≤ 1000) (b : Bool) (hb : hitsV op k2 n2 t2 k n t = b) (w : World) :
    Calls Tryz.prog 65 #[.agg #[.int .i64 op, .int .i64 k2, .int .i64 n2, .string t2], .agg #[.int .i64 k, .int .i64 n, .string t]] w (Bit b w) := by
  by_cases h4 : k = 4
  · subst h4
    obtain rfl : b = false := by rw [← hb]; rfl
    exact hits_fault op k2 n2 4 n n t2 t t (fun w1 => filled_k 4 n t rfl w1) w
  · obtain ⟨kf, nf, tf, HF, hkf, hnf, htf⟩ : ∃ kf nf tf, (∀ w1, Calls Tryz.prog 84 #[.agg #[.int .i64 k, .int .i64 n, .string t]] w1 (ValIs kf nf tf w1)) ∧ fullK k = kf ∧ nf = n ∧ tf = t := by
      by_cases h0 : k = 0
      · subst h0
        rcases may_ways h with ⟨_, rfl, rfl⟩ | ⟨h, _⟩ | ⟨h, _⟩ | ⟨h, _⟩ | ⟨h, _⟩
        · exact ⟨2, 0, ⟨#[]⟩, fun w1 => filled_e 0 _ w1, rfl, rfl, rfl⟩
        all_goals exact absurd h (by decide)
      · exact ⟨k, n, t, fun w1 => filled_k k n t (beq_no h0) w1, by rw [fullK, if_neg h0], rfl, rfl⟩
    subst hnf
    subst htf
    have hf4 : ¬ kf = 4 := by rw [← hkf, fullK]; split <;> omega
    rw [hitsV, if_neg h4, hkf] at hb
    by_cases hk : kf = k2
    · subst hk
      rw [if_pos rfl] at hb
      by_cases ht2 : kf = 2
      · have hn2 : n2 = 0 ∧ t2.size ≤ 256 := by
          rcases may_ways h2 with ⟨h, _⟩ | ⟨h, _⟩ | ⟨_, h, h'⟩ | ⟨h, _⟩ | ⟨h, _⟩
          · omega
          · omega
          · exact ⟨h, h'⟩
          · omega
          · omega
        have hn : nf = 0 := by
          rcases may_ways h with ⟨_, h, _⟩ | ⟨h, _⟩ | ⟨_, h, _⟩ | ⟨h, _⟩ | ⟨h, _⟩
          · exact h
          · rw [h] at hkf; unfold fullK at hkf; rw [if_neg (by omega)] at hkf; omega
          · exact h
          · rw [h] at hkf; unfold fullK at hkf; rw [if_neg (by omega)] at hkf; omega
          · omega
        obtain ⟨rfl, hs2⟩ := hn2
        subst hn
        rw [if_pos ht2] at hb
        subst ht2
        by_cases e7 : op = 7
        · subst e7
          exact hits_text_eq HTS 0 k 0 0 t2 tf tf (by omega) hs b hb HF w
        · by_cases e8 : op = 8
          · subst e8
            have := hits_text_ne HTS 0 k 0 0 t2 tf tf (by omega) hs _ rfl HF w
            rwa [← hb]
          · exact hits_alike op 0 k 0 2 0 (Lib.compareBytes tf.data.toList t2.data.toList) t2 tf tf HF rfl (.inr ⟨rfl, beq_no e7, beq_no e8⟩) o1 o2 b ((holds_other e7 e8 _ _ _).trans hb) (fun w1 => compare_texts tf t2 _ rfl w1) w
      · rw [if_neg ht2] at hb
        have h13 : kf = 1 ∨ kf = 3 := by omega
        have e1 : tf = ⟨#[]⟩ := by
          rcases may_ways h with ⟨h, _⟩ | ⟨_, h, _⟩ | ⟨h, _⟩ | ⟨_, h, _⟩ | ⟨h, _⟩
          · rw [h] at hkf; exact absurd hkf (by unfold fullK; rw [if_pos rfl]; omega)
          · exact h
          · rw [h] at hkf; unfold fullK at hkf; rw [if_neg (by omega)] at hkf; omega
          · exact h
          · omega
        have e2 : t2 = ⟨#[]⟩ := by
          rcases may_ways h2 with ⟨h, _⟩ | ⟨_, h, _⟩ | ⟨h, _⟩ | ⟨_, h, _⟩ | ⟨h, _⟩
          · omega
          · exact h
          · omega
          · exact h
          · omega
        subst e1
        subst e2
        exact hits_alike op n2 k nf kf nf (wayI nf n2) _ _ _ HF (beq_no hf4) (.inl (beq_no ht2)) o1 o2 b hb (fun w1 => compare_nums kf nf n2 _ (beq_no (by omega)) (beq_no hf4) rfl w1) w
    · rw [if_neg hk] at hb
      exact hits_unlike op k2 n2 k nf kf nf t2 tf tf HF (beq_no hf4) (beq_no hk) b hb w
/-- the reference's -/
theorem rhits_c (op k2 n2 k n : Int) (t2 t : ByteArray) (o1 : 7 ≤ op) (o2 : op ≤ 12) (h2 : mayV k2 n2 t2 = true) (hk2 : k2 = 1 ∨ k2 = 2 ∨ k2 = 3) (h : mayV k n t = true) (hs : t.size ≤ 1000) (b : Bool) (hb : hitsV op k2 n2 t2 k n t = b) (w : World) :
    Calls Tryz.prog 68 #[.agg #[.int .i64 op, .int .i64 k2, .int .i64 n2, .string t2], .agg #[.int .i64 k, .int .i64 n, .string t]] w (Bit b w) := by
  have text2 : k2 = 2 → n2 = 0 ∧ t2.size ≤ 1000 := fun h22 => by
    rcases may_ways h2 with ⟨h, _⟩ | ⟨h, _⟩ | ⟨_, h, h'⟩ | ⟨h, _⟩ | ⟨h, _⟩
    · omega
    · omega
    · exact ⟨h, by omega⟩
    · omega
    · omega
  have none2 : ¬ k2 = 2 → t2 = ⟨#[]⟩ := fun h22 => by
    rcases may_ways h2 with ⟨h, _⟩ | ⟨_, h, _⟩ | ⟨h, _⟩ | ⟨_, h, _⟩ | ⟨h, _⟩
    · omega
    · exact h
    · omega
    · exact h
    · omega
  rcases may_ways h with ⟨rfl, rfl, rfl⟩ | ⟨rfl, rfl, _⟩ | ⟨rfl, rfl, _⟩ | ⟨rfl, rfl, _⟩ | ⟨rfl, rfl⟩
  · rw [hitsV, if_neg (by omega), show fullK 0 = 2 from rfl] at hb
    by_cases h22 : 2 = k2
    · obtain ⟨rfl, hs2⟩ := text2 h22.symm
      subst h22
      rw [if_pos rfl, if_pos rfl] at hb
      exact rhits_text0 op 0 0 _ t2 ⟨#[]⟩ _ o1 o2 b hb (fun w1 => rcompare_texts ⟨#[]⟩ t2 (by decide) hs2 _ rfl w1) (fun w1 => rlike_c t2 ⟨#[]⟩ hs2 (by decide) _ rfl w1) w
    · rw [if_neg h22] at hb
      exact rhits_unlike_0 op k2 n2 0 t2 _ (beq_no h22) b hb w
  · rw [hitsV, if_neg (by omega), show fullK 1 = 1 from rfl] at hb
    by_cases h22 : 1 = k2
    · subst h22
      obtain rfl := none2 (by omega)
      rw [if_pos rfl, if_neg (by omega)] at hb
      exact rhits_nums op n2 1 n _ _ _ rfl rfl rfl o1 o2 b hb (fun w1 => rcompare_nums 1 n n2 _ rfl rfl rfl w1) w
    · rw [if_neg h22] at hb
      exact rhits_unlike_k op k2 n2 1 n t2 _ rfl rfl (beq_no h22) b hb w
  · rw [hitsV, if_neg (by omega), show fullK 2 = 2 from rfl] at hb
    by_cases h22 : 2 = k2
    · obtain ⟨rfl, hs2⟩ := text2 h22.symm
      subst h22
      rw [if_pos rfl, if_pos rfl] at hb
      exact rhits_text op 0 0 _ t2 t _ o1 o2 b hb (fun w1 => rcompare_texts t t2 hs hs2 _ rfl w1) (fun w1 => rlike_c t2 t hs2 hs _ rfl w1) w
    · rw [if_neg h22] at hb
      exact rhits_unlike_k op k2 n2 2 0 t2 t rfl rfl (beq_no h22) b hb w
  · rw [hitsV, if_neg (by omega), show fullK 3 = 3 from rfl] at hb
    by_cases h22 : 3 = k2
    · subst h22
      obtain rfl := none2 (by omega)
      rw [if_pos rfl, if_neg (by omega)] at hb
      exact rhits_nums op n2 3 n _ _ _ rfl rfl rfl o1 o2 b hb (fun w1 => rcompare_nums 3 n n2 _ rfl rfl rfl w1) w
    · rw [if_neg h22] at hb
      exact rhits_unlike_k op k2 n2 3 n t2 _ rfl rfl (beq_no h22) b hb w
  · obtain rfl : b = false := by rw [← hb]; rfl
    exact rhits_fault op k2 n2 n t2 _ w
end Go.Proofs.YtbjomidkeignjaaGreatDoor.Crt
