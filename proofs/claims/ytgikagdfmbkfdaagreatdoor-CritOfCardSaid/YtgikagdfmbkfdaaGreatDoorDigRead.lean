/- What the program's Read and Lead answer (over the landed text of package digits): for every text below 2^47 bytes. -/
import Derived.Test.YtgikagdfmbkfdaaGreatDoorDigGo
import Derived.Lib.QuietBelow
namespace Go.Proofs.YtgikagdfmbkfdaaGreatDoor.Dig
open Go.RowKit Kit Dec

set_option maxRecDepth 100000 in
set_option maxHeartbeats 2000000 in
theorem read_long (t : ByteArray) (h : 40 < t.size) (hl : t.size ≤ 281474976710656) (w : World) : Calls Tryz.prog 32 #[.string t] w (TwoB 0 false w) := by
  have d0 : decide (40 < t.size) = true := decide_eq_true h
  go_enter Tryz.func32, Tryz.ntmps32
  go_wp2
  go_ret2
  exact ⟨rfl, Below.refl _ _⟩
set_option maxRecDepth 100000 in
set_option maxHeartbeats 2000000 in
theorem read_neg (t u : ByteArray) (hl : t.size ≤ 40) (hp : t.data.toList.head? = some 45) (hu : t.extract 1 t.size = u) (n : Int) (k : Bool) (hn : readB true u.data.toList = (n, k)) (w : World) (hL : Libs w) : Calls Tryz.prog 32 #[.string t] w (TwoB n k w) := by
  have d0 : decide (40 < t.size) = false := decide_eq_false (by omega)
  have HP := Lib.hid (fun w1 => pre_c t 45 true (decide_eq_true hp) w1)
  have ht1 : 1 ≤ t.size := by
    rw [← len]
    rcases hq : t.data.toList with _ | ⟨x, y⟩
    · rw [hq] at hp; cases hp
    · simp
  have hul : u.size ≤ 39 := by rw [← hu]; simp; omega
  have H1 : Hid (∀ w1, Calls Tryz.prog 53 #[.string u, .int .i64 40] w1 (Texts (wholeL 40 u.data.toList) (partR (restL 40 u.data.toList)) w1)) := Lib.hid (fun w1 => split_c u 40 (by omega) (by omega) w1)
  have HL := Lib.hid hL
  have HN := Lib.hid hn
  clear hL hn hp
  go_enter Tryz.func32, Tryz.ntmps32
  go_wp2_with (go_at_call 52; refine (HP.out _).mono ?_; rintro e w' ⟨rfl, rfl⟩)
  refine wp_region_quiet_below (by kernel_rfl) (by kernel_rfl) ?_
  repeat (go_big_quiet_step (fail))
  refine wpQuiet_nil ?_
  intro _ hw'
  obtain ⟨⟨dq, osq⟩, hw''⟩ := hw'
  subst hw''
  have hb0 := below_regrown w dq osq
  generalize Sort.grow (redrawn w dq) osq = w0 at hb0 ⊢
  try rw [hu]
  go_wp2_with fail
  refine (H1.out _).mono ?_
  rintro e w1 ⟨a, b, rfl, ha, hb, rfl⟩
  have hal : a.size ≤ 40 := by rw [← len, ha]; exact wholeL_len _ _
  have hbl : b.size ≤ 4 := by rw [← len, hb]; exact partR_len _
  obtain ⟨m, hm⟩ : ∃ m, sizeL a.data.toList b.data.toList = m := ⟨_, rfl⟩
  have H2 := Lib.hid (fun w1 => dsize_c a b (by omega) (by omega) m hm w1)
  have hr := HN.out
  unfold readB at hr
  rw [← ha, ← hb, hm, len] at hr
  have hml : m ≤ 45 := by rw [← hm]; unfold sizeL; rw [len, len]; split <;> omega
  by_cases hlt : m < u.size
  · rw [if_pos hlt] at hr
    obtain ⟨rfl, rfl⟩ := Prod.mk.inj hr
    have d1 : decide (m < u.size) = true := decide_eq_true hlt
    clear HN hr hm ha hb H1 HL hlt
    go_wp2_with (go_at_call 54; refine (H2.out _).mono ?_; rintro e w' ⟨rfl, rfl⟩)
    go_ret2
    exact ⟨rfl, hb0⟩
  · rw [if_neg hlt] at hr
    have d1 : decide (m < u.size) = false := decide_eq_false hlt
    have H3 := Lib.hid (fun w1 hL => meant_c true ⟨#[45]⟩ a b rfl (by rw [ha]; exact wholeL_all _ _) (by rw [hb]; exact partR_all _) (by omega) hbl n k hr w1 hL)
    have HL0 := Lib.hid (HL.out.grown hb0)
    clear HN hr hm ha hb H1 HL hlt
    go_wp2_with (go_at_call 54; refine (H2.out _).mono ?_; rintro e w' ⟨rfl, rfl⟩)
    refine (H3.out _ HL0.out).mono ?_
    rintro e w2 ⟨rfl, hb2⟩
    have hb3 := on hb0 hb2
    clear hb0 hb2
    go_wp2
    go_ret2
    exact ⟨rfl, hb3⟩
set_option maxRecDepth 100000 in
set_option maxHeartbeats 2000000 in
theorem read_plain (t : ByteArray) (hl : t.size ≤ 40) (hp : ¬ t.data.toList.head? = some 45) (n : Int) (k : Bool) (hn : readB false t.data.toList = (n, k)) (w : World) (hL : Libs w) : Calls Tryz.prog 32 #[.string t] w (TwoB n k w) := by
  have d0 : decide (40 < t.size) = false := decide_eq_false (by omega)
  have HP := Lib.hid (fun w1 => pre_c t 45 false (decide_eq_false hp) w1)
  have H1 : Hid (∀ w1, Calls Tryz.prog 53 #[.string t, .int .i64 40] w1 (Texts (wholeL 40 t.data.toList) (partR (restL 40 t.data.toList)) w1)) := Lib.hid (fun w1 => split_c t 40 (by omega) (by omega) w1)
  have HL := Lib.hid hL
  have HN := Lib.hid hn
  clear hL hn hp
  go_enter Tryz.func32, Tryz.ntmps32
  go_wp2_with (go_at_call 52; refine (HP.out _).mono ?_; rintro e w' ⟨rfl, rfl⟩)
  refine (H1.out _).mono ?_
  rintro e w1 ⟨a, b, rfl, ha, hb, rfl⟩
  have hal : a.size ≤ 40 := by rw [← len, ha]; exact wholeL_len _ _
  have hbl : b.size ≤ 4 := by rw [← len, hb]; exact partR_len _
  obtain ⟨m, hm⟩ : ∃ m, sizeL a.data.toList b.data.toList = m := ⟨_, rfl⟩
  have H2 := Lib.hid (fun w1 => dsize_c a b (by omega) (by omega) m hm w1)
  have hr := HN.out
  unfold readB at hr
  rw [← ha, ← hb, hm, len] at hr
  have hml : m ≤ 45 := by rw [← hm]; unfold sizeL; rw [len, len]; split <;> omega
  by_cases hlt : m < t.size
  · rw [if_pos hlt] at hr
    obtain ⟨rfl, rfl⟩ := Prod.mk.inj hr
    have d1 : decide (m < t.size) = true := decide_eq_true hlt
    clear HN hr hm ha hb H1 HL hlt
    go_wp2_with (go_at_call 54; refine (H2.out _).mono ?_; rintro e w' ⟨rfl, rfl⟩)
    go_ret2
    exact ⟨rfl, Below.refl _ _⟩
  · rw [if_neg hlt] at hr
    have d1 : decide (m < t.size) = false := decide_eq_false hlt
    have H3 := Lib.hid (fun w1 hL => meant_c false ⟨#[]⟩ a b rfl (by rw [ha]; exact wholeL_all _ _) (by rw [hb]; exact partR_all _) (by omega) hbl n k hr w1 hL)
    clear HN hr hm ha hb H1 hlt
    go_wp2_with (go_at_call 54; refine (H2.out _).mono ?_; rintro e w' ⟨rfl, rfl⟩)
    refine (H3.out _ HL.out).mono ?_
    rintro e w2 ⟨rfl, hb2⟩
    go_wp2
    go_ret2
    exact ⟨rfl, hb2⟩
theorem read_c (t : ByteArray) (hl : t.size ≤ 281474976710656) (n : Int) (k : Bool) (hn : readD t.data.toList = (n, k)) (w : World) (hL : Libs w) : Calls Tryz.prog 32 #[.string t] w (TwoB n k w) := by
  unfold readD at hn
  rw [len] at hn
  by_cases h1 : 40 < t.size
  · rw [if_pos h1] at hn
    obtain ⟨rfl, rfl⟩ := Prod.mk.inj hn
    exact read_long t h1 hl w
  · rw [if_neg h1] at hn
    by_cases h2 : t.data.toList.head? = some 45
    · rw [if_pos h2] at hn
      exact read_neg t _ (by omega) h2 rfl n k (by rw [ext_drop]; exact hn) w hL
    · rw [if_neg h2] at hn
      exact read_plain t (by omega) h2 n k hn w hL
/-- three results -/
def ThreeB (n : Int) (m : Nat) (b : Bool) (w : World) : Ending → World → Prop := fun e w' => e = .returned (.tuple #[.int .i64 n, .int .i64 m, .bool b]) ∧ Below w.heap.size w w'
end Go.Proofs.YtgikagdfmbkfdaaGreatDoor.Dig
