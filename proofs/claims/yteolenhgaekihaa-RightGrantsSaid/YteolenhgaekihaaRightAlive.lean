/- The check of life of the stage's laws: true. -/
import Derived.Test.YteolenhgaekihaaRightSays
namespace Go.Proofs.Yteolenhgaekihaa.Right
open Go.RowKit Kit Reg Go.Proofs.Yteolenhgaekihaa.Lab
open Go.Proofs.Yteolenhgaekihaa.Cats (U U_or U_zero)

def ann : ByteArray := ⟨#[97, 110, 110]⟩
def bob : ByteArray := ⟨#[98, 111, 98]⟩
def one : List Gr := [⟨ann, 3, 0, 1, 0⟩]
theorem one_U : ∀ z ∈ one, U z.s ∧ U z.r := by
  intro z hz
  simp only [one, List.mem_cons, List.not_mem_nil, or_false] at hz
  subst hz
  exact ⟨U_zero, U_zero⟩
theorem U2 : U 0 := U_zero
theorem one_any (f : Gr → Bool) : one.any f = f ⟨ann, 3, 0, 1, 0⟩ := by simp [one]
theorem ann_ann : (ann.toList == ann.toList) = true := name_refl _
theorem ann_bob : (ann.toList == bob.toList) = false := name_ne (by intro h; have := congrArg (fun b : ByteArray => b.data.toList) h; exact absurd this (by decide))
theorem one_low : lowersB one ann 2 0 2 0 = true := by rw [lowersB, one_any, Gr.lets, ann_ann]; decide +kernel
theorem one_bob : lowersB one bob 2 0 2 0 = false := by rw [lowersB, one_any, Gr.lets, ann_bob]; rfl
theorem one_down : lowersB one ann 2 0 0 0 = false := by rw [lowersB, one_any, Gr.lets, ann_ann]; decide +kernel
theorem one_leaks : leaksB one 2 0 = true := by decide +kernel
theorem one_not : leaksB one 3 0 = false := by decide +kernel
theorem one_acts : actsI [] ann 2 0 = 11 := by decide +kernel
theorem a1_name : nameB (⟨#[97, 49]⟩ : ByteArray).data.toList = true := by decide +kernel
theorem one_holds : (holdersF one 2 0).length = 1 := by
  rw [holdersF, show leakyF one 2 0 = one from by unfold leakyF; rw [one, List.filter_cons, if_pos (by decide +kernel)]; rfl]
  rfl
theorem GrantsR.lit (w : World) : GrantsR (w.alloc (.cells #[.string ⟨#[97, 110, 110]⟩, .int .i64 3, .int .u64 0, .int .i64 1, .int .u64 0] 59)) (some ⟨w.heap.size, 0, none⟩) 1 one := by
  refine ⟨rfl, by decide, one_U, fun _ => ⟨w.heap.size, 0, rfl, by simp, fun k z hk j v hj => ?_⟩⟩
  have hk0 : k = 0 := by have := (List.getElem?_eq_some_iff.1 hk).1; simp [one] at this; omega
  subst hk0
  obtain rfl : z = ⟨ann, 3, 0, 1, 0⟩ := by simpa [one] using hk.symm
  simp only [Nat.zero_mul, Nat.zero_add]
  exact ((CellsAt.new w [.string ⟨#[97, 110, 110]⟩, .int .i64 3, .int .u64 0, .int .i64 1, .int .u64 0] 59).2 j v hj).1
theorem nilU (w : World) : UsersR w none 0 [] := ⟨rfl, by decide, (fun z hz => by cases hz), fun h => absurd rfl h⟩
set_option maxRecDepth 100000 in
set_option maxHeartbeats 4000000 in
theorem alive_c (S : Says) (w : World) : Calls Try.prog 7 #[] w fun e w' => e = .returned (.bool true) ∧ Below w.heap.size w w' := by
  have H1 := Lib.hid (fun A w1 (h : GrantsR w1 A 1 one) => S.holders A 1 1 one 2 0 w1 U_zero (by decide) h)
  have H2 : Hid (∀ A w1, GrantsR w1 A 1 one → Calls Try.prog 16 #[.slice A 1 1, .string ⟨#[97, 110, 110]⟩, .agg #[.int .i64 2, .int .u64 0], .agg #[.int .i64 2, .int .u64 0]] w1 fun e w' => e = .returned (.bool true) ∧ Below w1.heap.size w1 w') := Lib.hid (fun A w1 h => by
    have := S.lowers A 1 1 one ann 2 0 2 0 w1 U_zero U_zero h
    rwa [one_low] at this)
  have H3 : Hid (∀ A w1, GrantsR w1 A 1 one → Calls Try.prog 16 #[.slice A 1 1, .string ⟨#[98, 111, 98]⟩, .agg #[.int .i64 2, .int .u64 0], .agg #[.int .i64 2, .int .u64 0]] w1 fun e w' => e = .returned (.bool false) ∧ Below w1.heap.size w1 w') := Lib.hid (fun A w1 h => by
    have := S.lowers A 1 1 one bob 2 0 2 0 w1 U_zero U_zero h
    rwa [one_bob] at this)
  have H4 : Hid (∀ A w1, GrantsR w1 A 1 one → Calls Try.prog 16 #[.slice A 1 1, .string ⟨#[97, 110, 110]⟩, .agg #[.int .i64 2, .int .u64 0], .agg #[.int .i64 0, .int .u64 0]] w1 fun e w' => e = .returned (.bool false) ∧ Below w1.heap.size w1 w') := Lib.hid (fun A w1 h => by
    have := S.lowers A 1 1 one ann 2 0 0 0 w1 U_zero U_zero h
    rwa [one_down] at this)
  have H5 : Hid (∀ A w1, GrantsR w1 A 1 one → Calls Try.prog 18 #[.slice A 1 1, .agg #[.int .i64 2, .int .u64 0]] w1 fun e w' => e = .returned (.bool true) ∧ Below w1.heap.size w1 w') := Lib.hid (fun A w1 h => by
    have := S.leaks A 1 1 one 2 0 w1 U_zero h
    rwa [one_leaks] at this)
  have H6 : Hid (∀ A w1, GrantsR w1 A 1 one → Calls Try.prog 18 #[.slice A 1 1, .agg #[.int .i64 3, .int .u64 0]] w1 fun e w' => e = .returned (.bool false) ∧ Below w1.heap.size w1 w') := Lib.hid (fun A w1 h => by
    have := S.leaks A 1 1 one 3 0 w1 U_zero h
    rwa [one_not] at this)
  have H7 : Hid (∀ w1, Calls Try.prog 10 #[.string ⟨#[97, 49]⟩] w1 fun e w' => e = .returned (.bool true) ∧ Below w1.heap.size w1 w') := Lib.hid (fun w1 => by
    have := S.name ⟨#[97, 49]⟩ w1
    rwa [a1_name] at this)
  have H8 : Hid (∀ w1, Calls Try.prog 14 #[.slice none 0 0, .string ⟨#[97, 110, 110]⟩, .agg #[.int .i64 2, .int .u64 0]] w1 fun e w' => e = .returned (.int .i64 11) ∧ Below w1.heap.size w1 w') := Lib.hid (fun w1 => by
    have := S.acts none 0 0 [] ann 2 0 w1 U_zero (nilU w1)
    rwa [one_acts] at this)
  have hb0 := below2 w (.cells #[.string ⟨#[97, 110, 110]⟩, .int .i64 3, .int .u64 0, .int .i64 1, .int .u64 0] 59) (.cells #[.int .i64 2, .int .u64 0] 25)
  have hz := (GrantsR.lit w).on (below1 _ (.cells #[.int .i64 2, .int .u64 0] 25))
  have k2 := CellsAt.new (w.alloc (.cells #[.string ⟨#[97, 110, 110]⟩, .int .i64 3, .int .u64 0, .int .i64 1, .int .u64 0] 59)) [.int .i64 2, .int .u64 0] 25
  rw [show (w.alloc (.cells #[.string ⟨#[97, 110, 110]⟩, .int .i64 3, .int .u64 0, .int .i64 1, .int .u64 0] 59)).heap.size = w.heap.size + 1 by simp] at k2
  clear S
  go_enter Try.func7, Try.ntmps7
  go_wp2_with fail
  generalize (w.alloc (.cells #[.string ⟨#[97, 110, 110]⟩, .int .i64 3, .int .u64 0, .int .i64 1, .int .u64 0] 59)).alloc (.cells #[.int .i64 2, .int .u64 0] 25) = W at *
  have HZ := Lib.hid hz
  clear hz
  refine (H1.out _ _ HZ.out).mono ?_
  rintro e w1 ⟨v, rfl, ⟨Ah, ch, rfl, hv⟩, hb1⟩
  rw [one_holds] at *
  replace hb0 := on hb0 hb1
  replace HZ := Lib.hid (HZ.out.on hb1)
  replace k2 := k2.on hb1
  clear hb1 hv
  obtain ⟨x0, x1, _⟩ := k2.two
  have lx := k2.1
  go_wp2_with fail
  refine (H2.out _ _ HZ.out).mono ?_
  rintro e w1 ⟨rfl, hb1⟩
  replace hb0 := on hb0 hb1
  replace HZ := Lib.hid (HZ.out.on hb1)
  replace k2 := k2.on hb1
  clear hb1 x0 x1 lx
  obtain ⟨x0, x1, _⟩ := k2.two
  have lx := k2.1
  go_wp2_with fail
  refine (H3.out _ _ HZ.out).mono ?_
  rintro e w1 ⟨rfl, hb1⟩
  replace hb0 := on hb0 hb1
  replace HZ := Lib.hid (HZ.out.on hb1)
  replace k2 := k2.on hb1
  clear hb1 x0 x1 lx
  obtain ⟨x0, x1, _⟩ := k2.two
  have lx := k2.1
  go_wp2_with fail
  refine (H4.out _ _ HZ.out).mono ?_
  rintro e w1 ⟨rfl, hb1⟩
  replace hb0 := on hb0 hb1
  replace HZ := Lib.hid (HZ.out.on hb1)
  replace k2 := k2.on hb1
  clear hb1 x0 x1 lx
  obtain ⟨x0, x1, _⟩ := k2.two
  have lx := k2.1
  go_wp2_with fail
  refine (H5.out _ _ HZ.out).mono ?_
  rintro e w1 ⟨rfl, hb1⟩
  replace hb0 := on hb0 hb1
  replace HZ := Lib.hid (HZ.out.on hb1)
  replace k2 := k2.on hb1
  clear hb1 x0 x1 lx
  obtain ⟨x0, x1, _⟩ := k2.two
  have lx := k2.1
  go_wp2_with fail
  refine (H6.out _ _ HZ.out).mono ?_
  rintro e w1 ⟨rfl, hb1⟩
  replace hb0 := on hb0 hb1
  replace HZ := Lib.hid (HZ.out.on hb1)
  replace k2 := k2.on hb1
  clear hb1 x0 x1 lx
  obtain ⟨x0, x1, _⟩ := k2.two
  have lx := k2.1
  go_wp2_with fail
  refine (H7.out _).mono ?_
  rintro e w1 ⟨rfl, hb1⟩
  replace hb0 := on hb0 hb1
  replace HZ := Lib.hid (HZ.out.on hb1)
  replace k2 := k2.on hb1
  clear hb1 x0 x1 lx
  obtain ⟨x0, x1, _⟩ := k2.two
  have lx := k2.1
  go_wp2_with fail
  refine (H8.out _).mono ?_
  rintro e w1 ⟨rfl, hb1⟩
  replace hb0 := on hb0 hb1
  replace HZ := Lib.hid (HZ.out.on hb1)
  replace k2 := k2.on hb1
  clear hb1 x0 x1 lx
  go_wp2
  go_ret
  exact ⟨rfl, hb0⟩
end Go.Proofs.Yteolenhgaekihaa.Right
