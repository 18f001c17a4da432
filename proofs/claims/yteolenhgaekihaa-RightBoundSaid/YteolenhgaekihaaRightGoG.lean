/- What the program's Grants and Users answer (over the landed text of package right, e6de85d). -/
import Derived.Test.YteolenhgaekihaaRightGo
import Derived.Test.YteolenhgaekihaaRightGoN
import Derived.Test.YteolenhgaekihaaRightRefUsers
import Derived.Test.YteolenhgaekihaaRightRefGrants
namespace Go.Proofs.Yteolenhgaekihaa.Right
open Go.RowKit Kit Reg Go.Proofs.Yteolenhgaekihaa.Lab
open Go.Proofs.Yteolenhgaekihaa.Cats (U U_or U_zero)

set_option maxRecDepth 100000 in
set_option maxHeartbeats 4000000 in
theorem whyG_c (k : Nat) (hk9 : k ≤ 140737488355328) (g : Gr) (A : Option Addr) (n cap : Nat) (us : List Us) (w : World) (hz : UsersR w A n us) :
    Calls Try.prog 38 #[.int .i64 k, .agg #[.string g.name, .int .i64 g.l, .int .u64 g.s, .int .i64 g.k, .int .u64 g.r], .slice A n cap] w fun e' w' => e' = .returned (.int .i64 (whyG k g us)) ∧ Below w.heap.size w w' := by
  have hb0 := below1 w (.cells #[.string g.name, .int .i64 g.l, .int .u64 g.s, .int .i64 g.k, .int .u64 g.r] 59)
  have kg := CellsAt.new w g.cells 59
  change CellsAt (w.alloc (.cells #[.string g.name, .int .i64 g.l, .int .u64 g.s, .int .i64 g.k, .int .u64 g.r] 59)) w.heap.size [.string g.name, .int .i64 g.l, .int .u64 g.s, .int .i64 g.k, .int .u64 g.r] at kg
  have HZ := Lib.hid (hz.on hb0)
  obtain ⟨l, s, fb, hc, hfb⟩ : ∃ l s fb, clearF us g.name = (l, s, fb) ∧ (findI us g.name 0 < 0 ↔ fb = false) := by
    rcases clear_find us g.name 0 with ⟨h1, hc⟩ | ⟨i, u, hu, h1, hc⟩
    · exact ⟨_, _, _, hc, by rw [h1]; simp⟩
    · exact ⟨_, _, _, hc, by rw [h1]; simp⟩
  have HF := Lib.hid (fun w1 h => find_in A n cap us g.name _ _ _ hc w1 h)
  by_cases hk : 31 < k
  · have hd : decide (32 ≤ (k : Int)) = true := decide_eq_true (by omega)
    rw [show whyG k g us = 10 by unfold whyG; rw [if_pos hk]]
    clear hfb hc hz
    go_enter Try.func38, Try.ntmps38
    go_wp2_with fail
    refine (HF.out _ HZ.out).mono ?_
    rintro e w1 ⟨rfl, hb1⟩
    replace hb0 := on_alloc (on hb0 hb1) (.cells #[.int .i64 l, .int .u64 s] 25)
    go_wp2
    go_ret
    exact ⟨rfl, hb0⟩
  have hd : decide (32 ≤ (k : Int)) = false := decide_eq_false (by omega)
  cases fb with
  | false =>
    rw [show whyG k g us = 11 by unfold whyG; rw [if_neg hk, if_pos (hfb.2 rfl)]]
    clear hfb hc hz
    go_enter Try.func38, Try.ntmps38
    go_wp2_with fail
    refine (HF.out _ HZ.out).mono ?_
    rintro e w1 ⟨rfl, hb1⟩
    replace hb0 := on_alloc (on hb0 hb1) (.cells #[.int .i64 l, .int .u64 s] 25)
    go_wp2
    go_ret
    exact ⟨rfl, hb0⟩
  | true =>
    obtain ⟨m, hm⟩ : ∃ m, mayL g.l = m := ⟨_, rfl⟩
    obtain ⟨m2, hm2⟩ : ∃ m2, mayL g.k = m2 := ⟨_, rfl⟩
    have HM := Lib.hid (fun w1 => Lab.may_c g.l g.s m hm w1)
    have HM2 := Lib.hid (fun w1 => Lab.may_c g.k g.r m2 hm2 w1)
    rw [show whyG k g us = bif m && m2 then 0 else 7 by
      unfold whyG
      rw [if_neg hk, if_neg (by rw [hfb]; simp), hm, hm2]
      cases m <;> cases m2 <;> simp]
    clear hfb hc hz hm hm2
    go_enter Try.func38, Try.ntmps38
    go_wp2_with fail
    refine (HF.out _ HZ.out).mono ?_
    rintro e w1 ⟨rfl, hb1⟩
    have hbx := below1 w1 (.cells #[.int .i64 l, .int .u64 s] 25)
    have lg0 := (kg.on hb1).1
    have g1' := ((kg.on hb1).2 1 _ rfl).1
    have g2' := ((kg.on hb1).2 2 _ rfl).1
    replace hb0 := on (on hb0 hb1) hbx
    replace kg := (kg.on hb1).on hbx
    clear hb1 hbx
    have g1 := (kg.2 1 _ rfl).1
    have g2 := (kg.2 2 _ rfl).1
    have lg := kg.1
    go_wp2_with fail
    generalize w1.alloc (.cells #[.int .i64 l, .int .u64 s] 25) = W1 at *
    refine (HM.out _).mono ?_
    rintro e w2 ⟨rfl, hb2⟩
    replace hb0 := on hb0 hb2
    replace kg := kg.on hb2
    clear hb2 g1 g2 lg g1' g2' lg0
    cases m with
    | false =>
      go_wp2
      go_ret
      exact ⟨rfl, hb0⟩
    | true =>
      have g3 := (kg.2 3 _ rfl).1
      have g4 := (kg.2 4 _ rfl).1
      have lg := kg.1
      go_wp2_with fail
      refine (HM2.out _).mono ?_
      rintro e w3 ⟨rfl, hb3⟩
      replace hb0 := on hb0 hb3
      cases m2 <;> (go_wp2; go_ret; exact ⟨rfl, hb0⟩)
set_option maxRecDepth 100000 in
set_option maxHeartbeats 4000000 in
theorem grants_says : GrantsSays := by
  intro A n cap gs A2 n2 cap2 us w hz hz2
  obtain ⟨p, e, hpe⟩ : ∃ p e, wrongG us 0 gs = (p, e) := ⟨_, _, rfl⟩
  rw [hpe]
  obtain ⟨hlen, hmax, _, _⟩ := id hz
  have HZ := Lib.hid hz
  have HZ2 := Lib.hid hz2
  have HL := Lib.hid hlen
  have HC := Lib.hid hpe
  clear hz hlen hpe hz2
  go_enter Try.func26, Try.ntmps26
  go_wp2
  go_loopw [11] (fun i wr => ∃ k : Nat, k ≤ n ∧ i = .int .i64 k ∧ Hid (wrongG us k (gs.drop k) = (p, e)) ∧ Below w.heap.size w wr) (fun i _ => n - (intOf i).toNat)
  case atStart => exact ⟨0, Nat.zero_le _, rfl, HC, Below.refl _ _⟩
  case round =>
    obtain ⟨k, hk, rfl, HK, hb0⟩ := hrel
    by_cases hlt : k < n
    · obtain ⟨g, hgk⟩ : ∃ g, gs[k]? = some g := ⟨_, List.getElem?_eq_getElem (by rw [HL.out]; exact hlt)⟩
      obtain ⟨_, _, _, h4⟩ := HZ.out.on hb0
      obtain ⟨b, o, rfl, hblt, hcell⟩ := h4 (by omega)
      obtain ⟨c0, c1, c2, c3, c4⟩ := grant_cells (hcell k g hgk)
      have HZk := Lib.hid hgk
      clear h4 hcell hgk
      replace hb0 := on_alloc hb0 (.cells #[.string g.name, .int .i64 g.l, .int .u64 g.s, .int .i64 g.k, .int .u64 g.r] 59)
      have HZ2k := Lib.hid (HZ2.out.on hb0)
      have HW := Lib.hid (fun w1 h => whyG_c k (by omega) g A2 n2 cap2 us w1 h)
      obtain ⟨y, hy⟩ : ∃ y, whyG k g us = y := ⟨_, rfl⟩
      rw [hy] at HW
      by_cases hh : y = 0
      · have HN : Hid (wrongG us (k + 1) (gs.drop (k + 1)) = (p, e)) := by rw [← wrongG_miss HZk.out (hy.trans hh)]; exact HK
        subst hh
        clear hy
        go_wp2_with fail
        refine (HW.out _ HZ2k.out).mono ?_
        rintro e' w1 ⟨rfl, hb1⟩
        replace hb0 := on hb0 hb1
        clear hb1 c0 c1 c2 c3 c4
        go_wp2
        go_roundw
        case rel => exact ⟨k + 1, by omega, by go_num, HN, hb0⟩
        case measure => simp [intOf]; omega
      · have HN : ((k : Int), y) = (p, e) := by rw [← hy, ← wrongG_hit HZk.out (by rw [hy]; exact hh)]; exact HK.out
        simp only [Prod.mk.injEq] at HN
        obtain ⟨rfl, rfl⟩ := HN
        have hne : (y == 0) = false := by simpa using hh
        clear hh hy
        go_wp2_with fail
        refine (HW.out _ HZ2k.out).mono ?_
        rintro e' w1 ⟨rfl, hb1⟩
        replace hb0 := on hb0 hb1
        clear hb1 c0 c1 c2 c3 c4
        go_wp2
        exact bodyPost_ret (v := .tuple #[.int .i64 k, .int .i64 y]) (by simp [results, Try.results26, go_sem]) rfl ⟨rfl, hb0⟩
    · obtain rfl : k = n := by omega
      have HE := HK.out
      rw [← HL.out, wrongG_end] at HE
      simp only [Prod.mk.injEq] at HE
      obtain ⟨rfl, rfl⟩ := HE
      go_wp2
      exact bodyPost_ret (v := .tuple #[.int .i64 0, .int .i64 0]) (by simp [results, Try.results26, go_sem]) rfl ⟨rfl, hb0⟩
theorem UsersR.take {w : World} {A : Option Addr} {n k : Nat} {us : List Us} (h : UsersR w A n us) (hk : k ≤ n) : UsersR w A k (us.take k) := by
  obtain ⟨h1, h2, h3, h4⟩ := h
  refine ⟨by rw [List.length_take]; omega, by omega, fun z hz => h3 z (List.mem_of_mem_take hz), fun hk0 => ?_⟩
  obtain ⟨b, o, rfl, hlt, hc⟩ := h4 (by omega)
  refine ⟨b, o, rfl, hlt, fun j z hj => hc j z ?_⟩
  rw [List.getElem?_take] at hj
  split at hj
  · exact hj
  · cases hj
/-- is somebody of that name ahead? -/
theorem ahead_find : ∀ (us : List Us) (u : Us) (k j : Nat), us[k]? = some u → (clearF (us.take k) u.name = (0, 0, false) ∧ findI us u.name j = ((j + k : Nat) : Int)) ∨ ∃ l s, clearF (us.take k) u.name = (l, s, true) ∧ findI us u.name j ≠ ((j + k : Nat) : Int)
  | [], _, _, _, h => by simp at h
  | v :: r, u, 0, j, h => by
    simp only [List.getElem?_cons_zero, Option.some.injEq] at h
    subst h
    exact .inl ⟨rfl, by unfold findI; rw [if_pos (name_refl _)]; simp⟩
  | v :: r, u, k + 1, j, h => by
    rw [List.take_succ_cons]
    unfold clearF findI
    by_cases hh : (v.name.toList == u.name.toList) = true
    · rw [if_pos hh, if_pos hh]
      exact .inr ⟨v.l, v.s, rfl, by omega⟩
    · rw [if_neg hh, if_neg hh]
      rcases ahead_find r u k (j + 1) (by simpa using h) with ⟨h1, h2⟩ | ⟨l, s, h1, h2⟩
      · exact .inl ⟨h1, by rw [h2]; congr 1; omega⟩
      · exact .inr ⟨l, s, h1, by intro e; apply h2; rw [e]; congr 1; omega⟩
set_option maxRecDepth 100000 in
set_option maxHeartbeats 4000000 in
theorem whyU_c (k cap : Nat) (hk9 : k ≤ 140737488355328) (us : List Us) (u : Us) (huk : us[k]? = some u) (A : Option Addr) (w : World) (hz : UsersR w A k (us.take k)) :
    Calls Try.prog 31 #[.slice A k cap, .agg #[.string u.name, .int .i64 u.l, .int .u64 u.s]] w fun e' w' => e' = .returned (.int .i64 (whyU k u (findI us u.name 0))) ∧ Below w.heap.size w w' := by
  have hb0 := below1 w (.cells #[.string u.name, .int .i64 u.l, .int .u64 u.s] 31)
  have ku := CellsAt.new w u.cells 31
  change CellsAt (w.alloc (.cells #[.string u.name, .int .i64 u.l, .int .u64 u.s] 31)) w.heap.size [.string u.name, .int .i64 u.l, .int .u64 u.s] at ku
  obtain ⟨f, hf⟩ : ∃ f, findI us u.name 0 = f := ⟨_, rfl⟩
  obtain ⟨l, s, fb, hc, hfb⟩ : ∃ l s fb, clearF (us.take k) u.name = (l, s, fb) ∧ (f ≠ (k : Int) ↔ fb = true) := by
    rcases ahead_find us u k 0 huk with ⟨hc, h1⟩ | ⟨l, s, hc, h1⟩
    · rw [Nat.zero_add, hf] at h1
      exact ⟨_, _, _, hc, by rw [h1]; simp⟩
    · rw [Nat.zero_add, hf] at h1
      exact ⟨_, _, _, hc, by simp [h1]⟩
  rw [hf]
  have HZ := Lib.hid (hz.on hb0)
  have HF := Lib.hid (fun w1 h => find_in A k cap (us.take k) u.name _ _ _ hc w1 h)
  obtain ⟨nb, hnb⟩ : ∃ nb, nameB u.name.data.toList = nb := ⟨_, rfl⟩
  have HNm : Hid (∀ w1, Calls Try.prog 10 #[.string u.name] w1 fun e w' => e = .returned (.bool nb) ∧ Below w1.heap.size w1 w') := Lib.hid (fun w1 => hnb ▸ name_says u.name w1)
  obtain ⟨m, hm⟩ : ∃ m, mayL u.l = m := ⟨_, rfl⟩
  have HM := Lib.hid (fun w1 => Lab.may_c u.l u.s m hm w1)
  by_cases hk : 15 < k
  · have hd : decide (16 ≤ (k : Int)) = true := decide_eq_true (by omega)
    rw [show whyU k u f = 10 by unfold whyU; rw [if_pos hk]]
    clear hz hnb hm hc hfb hf
    go_enter Try.func31, Try.ntmps31
    go_wp2_with fail
    refine (HF.out _ HZ.out).mono ?_
    rintro e w1 ⟨rfl, hb1⟩
    replace hb0 := on_alloc (on hb0 hb1) (.cells #[.int .i64 l, .int .u64 s] 25)
    go_wp2
    go_ret
    exact ⟨rfl, hb0⟩
  have hd : decide (16 ≤ (k : Int)) = false := decide_eq_false (by omega)
  rw [show whyU k u f = bif nb then (bif fb then 8 else bif m then 0 else 7) else 1 by
    unfold whyU
    rw [if_neg hk, hnb, hm]
    cases nb with
    | false => rfl
    | true =>
      cases fb with
      | false => rw [if_neg (by simp), if_neg (by rw [hfb]; simp)]; cases m <;> simp
      | true => rw [if_neg (by simp), if_pos (hfb.2 rfl)]; rfl]
  clear hz hnb hm hc hfb hf
  go_enter Try.func31, Try.ntmps31
  go_wp2_with fail
  refine (HF.out _ HZ.out).mono ?_
  rintro e w1 ⟨rfl, hb1⟩
  have hbx := below1 w1 (.cells #[.int .i64 l, .int .u64 s] 25)
  have ku1 := ku.on hb1
  replace hb0 := on (on hb0 hb1) hbx
  replace ku := ku1.on hbx
  obtain ⟨v0, v1, v2, _⟩ := ku1.three
  obtain ⟨u0, u1, u2, _⟩ := ku.three
  have lv := ku1.1
  have lu := ku.1
  clear hb1 hbx HF HZ
  go_wp2_with fail
  generalize w1.alloc (.cells #[.int .i64 l, .int .u64 s] 25) = W1 at *
  refine (HNm.out _).mono ?_
  rintro e w2 ⟨rfl, hb2⟩
  replace hb0 := on hb0 hb2
  replace ku := ku.on hb2
  clear hb2 v0 v1 v2 u0 u1 u2 lv lu ku1 HNm
  cases nb with
  | false =>
    go_wp2
    go_ret
    exact ⟨rfl, hb0⟩
  | true =>
    cases fb with
    | true =>
      go_wp2
      go_ret
      exact ⟨rfl, hb0⟩
    | false =>
      obtain ⟨u0, u1, u2, _⟩ := ku.three
      have lu := ku.1
      go_wp2_with fail
      refine (HM.out _).mono ?_
      rintro e w3 ⟨rfl, hb3⟩
      replace hb0 := on hb0 hb3
      cases m <;> (go_wp2; go_ret; exact ⟨rfl, hb0⟩)
end Go.Proofs.Yteolenhgaekihaa.Right
