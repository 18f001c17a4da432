/- RightBound: the law returns true for every list of grants, every text and any three labels, and makes new memory alone. -/
import Derived.Test.YteolenhgaekihaaRightAlive
import Derived.Test.YteolenhgaekihaaRightRefHold
import Derived.Test.YteolenhgaekihaaLabMeet
namespace Go.Proofs.Yteolenhgaekihaa.Right
open Go.RowKit Kit Reg Go.Proofs.Yteolenhgaekihaa.Lab
open Go.Proofs.Yteolenhgaekihaa.Cats (U U_or U_zero)

theorem lets_wider {g : Gr} {t : ByteArray} {l j a : Int} {s r b : Nat} (h1 : U g.s) (h2 : U g.r) (hs : U s) (hr : U r) (hb : U b) (h : g.lets t l s j r = true) : g.lets t (meetI l a) (s &&& b) (joinI j a) (r ||| b) = true := by
  simp only [Gr.lets, Bool.and_eq_true] at h ⊢
  obtain ⟨⟨hn, h3⟩, h4⟩ := h
  exact ⟨⟨hn, below_trans (Cats.U_and b hs) hs h1 (meet_below_l hs) h3⟩, below_trans h2 hr (U_or hr hb) h4 (below_join_l hr hb)⟩
theorem lowers_wider {gs : List Gr} {t : ByteArray} {l j a : Int} {s r b : Nat} (hu : ∀ z ∈ gs, U z.s ∧ U z.r) (hs : U s) (hr : U r) (hb : U b) (h : lowersB gs t l s j r = true) : lowersB gs t (meetI l a) (s &&& b) (joinI j a) (r ||| b) = true := by
  rw [lowersB, List.any_eq_true] at h ⊢
  obtain ⟨g, hg, h⟩ := h
  exact ⟨g, hg, lets_wider (hu g hg).1 (hu g hg).2 hs hr hb h⟩
theorem lowers_leaks {gs : List Gr} {t : ByteArray} {l j a : Int} {s r b : Nat} (hu : ∀ z ∈ gs, U z.s ∧ U z.r) (hs : U s) (hr : U r) (hb : U b) (h : lowersB gs t l s j r = true) (ht : belowL j r a b = true) (hf : belowL l s a b = false) :
    hasN (holdersF gs a b) t = true ∧ leaksB gs a b = true := by
  rw [lowersB, List.any_eq_true] at h
  obtain ⟨g, hg, h⟩ := h
  obtain ⟨h1, h2⟩ := hu g hg
  simp only [Gr.lets, Bool.and_eq_true] at h
  obtain ⟨⟨hn, h3⟩, h4⟩ := h
  have hlk : g.leaks a b = true := by
    unfold Gr.leaks
    rw [Bool.and_eq_true, Bool.not_eq_true']
    refine ⟨below_trans h2 hr hb h4 ht, ?_⟩
    rw [Bool.eq_false_iff]
    intro e
    have := below_trans hs h1 hb h3 e
    rw [hf] at this
    cases this
  refine ⟨?_, by rw [leaksB, List.any_eq_true]; exact ⟨g, hg, hlk⟩⟩
  unfold holdersF
  rw [onceF_mem, hasN, List.any_eq_true]
  exact ⟨g.name, List.mem_map.2 ⟨g, List.mem_filter.2 ⟨hg, hlk⟩, rfl⟩, hn⟩
theorem hasN_take {H : List ByteArray} {k : Nat} {m : ByteArray} (h : H[k]? = some m) (t : ByteArray) : hasN (H.take (k + 1)) t = (hasN (H.take k) t || (m.toList == t.toList)) := by
  rw [List.take_add_one, h]
  exact hasN_snoc _ _ _
/-- three new blocks, and a draw -/
theorem three_new (W : World) (n : Nat) (hn : W.heap.size = n) (x y z : List Value) (ty : TypeId) : CellsAt (((W.alloc (.cells x.toArray ty)).alloc (.cells y.toArray ty)).alloc (.cells z.toArray ty)).drew n x ∧ CellsAt (((W.alloc (.cells x.toArray ty)).alloc (.cells y.toArray ty)).alloc (.cells z.toArray ty)).drew (n + 1) y ∧
    CellsAt (((W.alloc (.cells x.toArray ty)).alloc (.cells y.toArray ty)).alloc (.cells z.toArray ty)).drew (n + 1 + 1) z ∧ Below W.heap.size W (((W.alloc (.cells x.toArray ty)).alloc (.cells y.toArray ty)).alloc (.cells z.toArray ty)).drew := by
  subst hn
  have h1 := CellsAt.new W x ty
  have h2 := CellsAt.new (W.alloc (.cells x.toArray ty)) y ty
  have h3 := CellsAt.new ((W.alloc (.cells x.toArray ty)).alloc (.cells y.toArray ty)) z ty
  rw [show (W.alloc (.cells x.toArray ty)).heap.size = W.heap.size + 1 by simp] at h2
  rw [show ((W.alloc (.cells x.toArray ty)).alloc (.cells y.toArray ty)).heap.size = W.heap.size + 1 + 1 by simp] at h3
  have d : Below (((W.alloc (.cells x.toArray ty)).alloc (.cells y.toArray ty)).alloc (.cells z.toArray ty)).heap.size (((W.alloc (.cells x.toArray ty)).alloc (.cells y.toArray ty)).alloc (.cells z.toArray ty)) (((W.alloc (.cells x.toArray ty)).alloc (.cells y.toArray ty)).alloc (.cells z.toArray ty)).drew := (Below.refl _ _).drew
  exact ⟨((h1.on_alloc _).on_alloc _).on d, (h2.on_alloc _).on d, h3.on d, on (below3 W _ _ _) d⟩
set_option maxRecDepth 100000 in
set_option maxHeartbeats 16000000 in
theorem bound_law (S : Says) (A : Option Addr) (n cap : Nat) (gs : List Gr) (t : ByteArray) (l : Int) (s : Nat) (j : Int) (r : Nat) (a : Int) (b : Nat) (hs : U s) (hr : U r) (hb : U b) (w : World) (hz : n ≤ 60 → GrantsR w A n gs) :
    Calls Try.prog 5 #[.slice A n cap, .string t, .agg #[.int .i64 l, .int .u64 s, .int .i64 j, .int .u64 r, .int .i64 a, .int .u64 b]] w fun e w' => e = .returned (.bool true) ∧ Below w.heap.size w w' := by
  have HA := Lib.hid (fun w1 => alive_c S w1)
  have hb0 := below1 w (.cells #[.int .i64 l, .int .u64 s, .int .i64 j, .int .u64 r, .int .i64 a, .int .u64 b] 51)
  have kq := CellsAt.new w [.int .i64 l, .int .u64 s, .int .i64 j, .int .u64 r, .int .i64 a, .int .u64 b] 51
  by_cases hn : 60 < n
  · have hd : decide (60 < (n : Int)) = true := decide_eq_true (by omega)
    clear hz S
    go_enter Try.func5, Try.ntmps5
    go_wp2_with fail
    refine (HA.out _).mono ?_
    rintro e w1 ⟨rfl, hb1⟩
    go_wp2
    go_ret
    exact ⟨rfl, on hb0 hb1⟩
  have hd : decide (60 < (n : Int)) = false := decide_eq_false (by omega)
  replace hz := hz (by omega)
  have HZ := Lib.hid (hz.on hb0)
  have hu := hz.2.2.1
  obtain ⟨lb, hlb⟩ : ∃ lb, lowersB gs t l s j r = lb := ⟨_, rfl⟩
  obtain ⟨bt, hbt⟩ : ∃ bt, belowL j r a b = bt := ⟨_, rfl⟩
  obtain ⟨bf, hbf⟩ : ∃ bf, belowL l s a b = bf := ⟨_, rfl⟩
  have H1 : Hid (∀ w1, GrantsR w1 A n gs → Calls Try.prog 16 #[.slice A n cap, .string t, .agg #[.int .i64 l, .int .u64 s], .agg #[.int .i64 j, .int .u64 r]] w1 fun e w' => e = .returned (.bool lb) ∧ Below w1.heap.size w1 w') := Lib.hid (fun w1 h => by
    have := S.lowers A n cap gs t l s j r w1 hs hr h
    rwa [hlb] at this)
  have H2 := Lib.hid (fun w1 => meet_c l a s b hs hb w1)
  have H3 := Lib.hid (fun w1 => join_c j a r b hr hb w1)
  have H4 : Hid (lb = true → ∀ w1, GrantsR w1 A n gs → Calls Try.prog 16 #[.slice A n cap, .string t, .agg #[.int .i64 (meetI l a), .int .u64 (s &&& b : Nat)], .agg #[.int .i64 (joinI j a), .int .u64 (r ||| b : Nat)]] w1 fun e w' => e = .returned (.bool true) ∧ Below w1.heap.size w1 w') := Lib.hid (fun hl w1 h => by
    have := S.lowers A n cap gs t (meetI l a) (s &&& b) (joinI j a) (r ||| b) w1 (Cats.U_and b hs) (U_or hr hb) h
    rwa [lowers_wider hu hs hr hb (hlb.trans hl)] at this)
  have H5 := Lib.hid (fun w1 => below_c j a r b bt hr hb hbt w1)
  have H6 := Lib.hid (fun w1 => below_c l a s b bf hs hb hbf w1)
  obtain ⟨H, hH⟩ : ∃ H, holdersF gs a b = H := ⟨_, rfl⟩
  have H7 : Hid (∀ w1, GrantsR w1 A n gs → Calls Try.prog 21 #[.slice A n cap, .agg #[.int .i64 a, .int .u64 b]] w1 fun e w' => ∃ v, e = .returned v ∧ StrsR w' v H ∧ Below w1.heap.size w1 w') := Lib.hid (fun w1 h => by
    rw [← hH]
    exact S.holders A n cap gs a b w1 hb (by omega) h)
  have HL : Hid (lb = true → bt = true → bf = false → hasN H t = true ∧ leaksB gs a b = true) := Lib.hid (fun h1 h2 h3 => by rw [← hH]; exact lowers_leaks hu hs hr hb (hlb.trans h1) (hbt.trans h2) (hbf.trans h3))
  have H8 := Lib.hid (fun w1 h => S.leaks A n cap gs a b w1 hb h)
  have hHl : H.length ≤ 140737488355328 := by
    rw [← hH]
    have h1 := onceF_len ((leakyF gs a b).map Gr.name)
    have h2 : (leakyF gs a b).length ≤ gs.length := List.length_filter_le _ _
    have h3 := hz.1
    rw [List.length_map] at h1
    unfold holdersF
    omega
  clear hz hu hs hr hb hlb hbt hbf hH S
  go_enter Try.func5, Try.ntmps5
  go_upto_region 3 with fail
  have hWs : (w.alloc (.cells #[.int .i64 l, .int .u64 s, .int .i64 j, .int .u64 r, .int .i64 a, .int .u64 b] 51)).heap.size = w.heap.size + 1 := by simp
  generalize w.alloc (.cells #[.int .i64 l, .int .u64 s, .int .i64 j, .int .u64 r, .int .i64 a, .int .u64 b] 51) = W at *
  go_cut [7, 8, 9] (fun p7 p8 p9 wx => ∃ b7 b8 b9 : Nat, p7 = .pointer (some ⟨b7, 0, none⟩) ∧ p8 = .pointer (some ⟨b8, 0, none⟩) ∧ p9 = .pointer (some ⟨b9, 0, none⟩) ∧ CellsAt wx b7 [.int .i64 l, .int .u64 s] ∧ CellsAt wx b8 [.int .i64 j, .int .u64 r] ∧ CellsAt wx b9 [.int .i64 a, .int .u64 b] ∧ Below W.heap.size W wx)
  case first =>
    have q0 := (kq.2 0 _ rfl).1
    have q1 := (kq.2 1 _ rfl).1
    have q2 := (kq.2 2 _ rfl).1
    have q3 := (kq.2 3 _ rfl).1
    have q4 := (kq.2 4 _ rfl).1
    have q5 := (kq.2 5 _ rfl).1
    have lq := kq.1
    clear kq HZ HL H1 H2 H3 H4 H5 H6 H7 H8 HA hb0 hHl
    go_region
    all_goals go_wp2_with fail
    all_goals go_meet
    all_goals first
      | (have T := three_new W _ hWs [.int .i64 l, .int .u64 s] [.int .i64 j, .int .u64 r] [.int .i64 a, .int .u64 b] 25; exact ⟨_, _, _, rfl, rfl, rfl, T.1, T.2.1, T.2.2.1, T.2.2.2⟩)
      | (have T := three_new W _ hWs [.int .i64 l, .int .u64 s] [.int .i64 a, .int .u64 b] [.int .i64 j, .int .u64 r] 25; exact ⟨_, _, _, rfl, rfl, rfl, T.1, T.2.2.1, T.2.1, T.2.2.2⟩)
      | (have T := three_new W _ hWs [.int .i64 j, .int .u64 r] [.int .i64 l, .int .u64 s] [.int .i64 a, .int .u64 b] 25; exact ⟨_, _, _, rfl, rfl, rfl, T.2.1, T.1, T.2.2.1, T.2.2.2⟩)
      | (have T := three_new W _ hWs [.int .i64 j, .int .u64 r] [.int .i64 a, .int .u64 b] [.int .i64 l, .int .u64 s] 25; exact ⟨_, _, _, rfl, rfl, rfl, T.2.2.1, T.1, T.2.1, T.2.2.2⟩)
      | (have T := three_new W _ hWs [.int .i64 a, .int .u64 b] [.int .i64 l, .int .u64 s] [.int .i64 j, .int .u64 r] 25; exact ⟨_, _, _, rfl, rfl, rfl, T.2.1, T.2.2.1, T.1, T.2.2.2⟩)
      | (have T := three_new W _ hWs [.int .i64 a, .int .u64 b] [.int .i64 j, .int .u64 r] [.int .i64 l, .int .u64 s] 25; exact ⟨_, _, _, rfl, rfl, rfl, T.2.2.1, T.2.1, T.1, T.2.2.2⟩)
  case rest =>
  obtain ⟨b7, b8, b9, rfl, rfl, rfl, x7, x8, x9, hbV⟩ := hcut
  replace HZ := Lib.hid (HZ.out.on hbV)
  replace hb0 := on hb0 hbV
  obtain ⟨y70, y71, _, _⟩ := x7.two
  obtain ⟨y80, y81, _, _⟩ := x8.two
  have l7 := x7.1
  have l8 := x8.1
  clear hbV kq
  go_wp2_with fail
  clear y70 y71 y80 y81 l7 l8
  refine (H1.out _ HZ.out).mono ?_
  rintro e w5 ⟨rfl, hb5⟩
  replace hb0 := on hb0 hb5
  replace x7 := x7.on hb5
  replace x8 := x8.on hb5
  replace x9 := x9.on hb5
  replace HZ := Lib.hid (HZ.out.on hb5)
  clear hb5 H1
  cases lb with
  | false =>
    go_wp2_with fail
    refine (HA.out _).mono ?_
    rintro e w6 ⟨rfl, hb6⟩
    go_wp2
    go_ret
    exact ⟨rfl, on hb0 hb6⟩
  | true =>
    have H4b := Lib.hid (H4.out rfl)
    clear H4
    obtain ⟨y70, y71, _, _⟩ := x7.two
    obtain ⟨y80, y81, _, _⟩ := x8.two
    obtain ⟨y90, y91, _, _⟩ := x9.two
    have Y70 := fun d os => cell_regrown y70 d os
    have Y71 := fun d os => cell_regrown y71 d os
    have Y80 := fun d os => cell_regrown y80 d os
    have Y81 := fun d os => cell_regrown y81 d os
    have Y90 := fun d os => cell_regrown y90 d os
    have Y91 := fun d os => cell_regrown y91 d os
    clear y70 y71 y80 y81 y90 y91
    go_wp2_with fail
    refine wp_region_mem 10 (fun d => match d with
      | 34 => some (Is (.agg #[.int .i64 (meetI l a), .int .u64 ((s &&& b : Nat) : Int)]))
      | 37 => some (Is (.agg #[.int .i64 (joinI j a), .int .u64 ((r ||| b : Nat) : Int)]))
      | 38 => some (Is (.bool true))
      | _ => none) (by kernel_rfl) (by kernel_rfl) ?_
    simp only [List.take_succ_cons, List.take_zero, List.drop_succ_cons, List.drop_zero]
    repeat (first | ((with_reducible refine wpM_calm ?_ ?_ ?_ ?_); exact rfl; exact rfl; exact rfl; intro K hK; go_big_quiet_op; go_big_quiet_on) | ((with_reducible refine wpM_skip ?_ ?_); exact rfl; simp only [Act.put, List.setIfInBounds_toArray, List.set_cons_succ, List.set_cons_zero]))
    refine wpM_exact rfl rfl rfl Try.func23 (by kernel_rfl) (by kernel_rfl) (fun w1 _ _ => H2.out w1) rfl (by simp only [Act.put, List.setIfInBounds_toArray, List.set_cons_succ, List.set_cons_zero]; rfl) ?_
    repeat (first | ((with_reducible refine wpM_calm ?_ ?_ ?_ ?_); exact rfl; exact rfl; exact rfl; intro K hK; go_big_quiet_op; go_big_quiet_on) | ((with_reducible refine wpM_skip ?_ ?_); exact rfl; simp only [Act.put, List.setIfInBounds_toArray, List.set_cons_succ, List.set_cons_zero]))
    refine wpM_exact rfl rfl rfl Try.func24 (by kernel_rfl) (by kernel_rfl) (fun w1 _ _ => H3.out w1) rfl (by simp only [Act.put, List.setIfInBounds_toArray, List.set_cons_succ, List.set_cons_zero]; rfl) ?_
    repeat (first | ((with_reducible refine wpM_calm ?_ ?_ ?_ ?_); exact rfl; exact rfl; exact rfl; intro K hK; go_big_quiet_op; go_big_quiet_on) | ((with_reducible refine wpM_skip ?_ ?_); exact rfl; simp only [Act.put, List.setIfInBounds_toArray, List.set_cons_succ, List.set_cons_zero]))
    refine wpM_exact rfl rfl rfl Try.func16 (by kernel_rfl) (by kernel_rfl) (fun w1 hw1 _ => H4b.out w1 (HZ.out.on hw1)) rfl (by simp only [Act.put, List.setIfInBounds_toArray, List.set_cons_succ, List.set_cons_zero]; rfl) ?_
    repeat (first | ((with_reducible refine wpM_calm ?_ ?_ ?_ ?_); exact rfl; exact rfl; exact rfl; intro K hK; go_big_quiet_op; go_big_quiet_on) | ((with_reducible refine wpM_skip ?_ ?_); exact rfl; simp only [Act.put, List.setIfInBounds_toArray, List.set_cons_succ, List.set_cons_zero]))
    refine wpM_nil ?_
    intro w6 hb6 _
    replace hb0 := on hb0 hb6
    replace x7 := x7.on hb6
    replace x8 := x8.on hb6
    replace x9 := x9.on hb6
    replace HZ := Lib.hid (HZ.out.on hb6)
    clear hb6
    clear Y70 Y71 Y80 Y81 Y90 Y91 H2 H3 H4b
    obtain ⟨y70, y71, _, _⟩ := x7.two
    obtain ⟨y80, y81, _, _⟩ := x8.two
    obtain ⟨y90, y91, _, _⟩ := x9.two
    have l7 := x7.1
    have l8 := x8.1
    have l9 := x9.1
    go_wp2_with fail
    refine (H5.out _).mono ?_
    rintro e w7 ⟨rfl, hb7⟩
    replace hb0 := on hb0 hb7
    replace x7 := x7.on hb7
    replace x8 := x8.on hb7
    replace x9 := x9.on hb7
    replace HZ := Lib.hid (HZ.out.on hb7)
    clear hb7
    clear y70 y71 y80 y81 y90 y91 l7 l8 l9
    clear H5
    cases bt with
    | false =>
      go_wp2_with fail
      refine (HA.out _).mono ?_
      rintro e w9 ⟨rfl, hb9⟩
      go_wp2
      go_ret
      exact ⟨rfl, on hb0 hb9⟩
    | true =>
      obtain ⟨y70, y71, _, _⟩ := x7.two
      obtain ⟨y80, y81, _, _⟩ := x8.two
      obtain ⟨y90, y91, _, _⟩ := x9.two
      have l7 := x7.1
      have l8 := x8.1
      have l9 := x9.1
      go_wp2_with fail
      refine (H6.out _).mono ?_
      rintro e w8 ⟨rfl, hb8⟩
      replace hb0 := on hb0 hb8
      replace x7 := x7.on hb8
      replace x8 := x8.on hb8
      replace x9 := x9.on hb8
      replace HZ := Lib.hid (HZ.out.on hb8)
      clear hb8
      clear y70 y71 y80 y81 y90 y91 l7 l8 l9
      clear H6
      cases bf with
      | true =>
        go_wp2_with fail
        refine (HA.out _).mono ?_
        rintro e w9 ⟨rfl, hb9⟩
        go_wp2
        go_ret
        exact ⟨rfl, on hb0 hb9⟩
      | false =>
        obtain ⟨hHas, hLk⟩ := HL.out (by first | rfl | trivial) (by first | rfl | trivial) (by first | rfl | trivial)
        rw [hLk] at H8
        clear HL hLk
        obtain ⟨y70, y71, _, _⟩ := x7.two
        obtain ⟨y80, y81, _, _⟩ := x8.two
        obtain ⟨y90, y91, _, _⟩ := x9.two
        have l7 := x7.1
        have l8 := x8.1
        have l9 := x9.1
        go_wp2_with fail
        refine (H7.out _ HZ.out).mono ?_
        rintro e w9 ⟨v, rfl, ⟨Ah, ch, rfl, hv⟩, hb9⟩
        replace hb0 := on hb0 hb9
        replace x7 := x7.on hb9
        replace x8 := x8.on hb9
        replace x9 := x9.on hb9
        replace HZ := Lib.hid (HZ.out.on hb9)
        clear hb9
        clear y70 y71 y80 y81 y90 y91 l7 l8 l9
        clear H7
        have HV := Lib.hid hv
        clear hv
        obtain ⟨m, hm⟩ : ∃ m, H.length = m := ⟨_, rfl⟩
        rw [hm] at hHl ⊢
        go_wp2
        go_loopw [10, 54] (fun c i wr => ∃ k : Nat, k ≤ m ∧ i = .int .i64 k ∧ c = .bool (hasN (H.take k) t) ∧ wr = w9) (fun _ i _ => m - (intOf i).toNat)
        case atStart => exact ⟨0, Nat.zero_le _, rfl, rfl, rfl⟩
        case round =>
          obtain ⟨k, hk, rfl, rfl, rfl⟩ := hrel
          by_cases hlt : k < m
          · obtain ⟨nm, hnm⟩ : ∃ nm, H[k]? = some nm := ⟨_, List.getElem?_eq_getElem (by rw [hm]; exact hlt)⟩
            obtain ⟨g, rfl, hg, hcell⟩ := HV.out.resolve_left (by intro e; rw [e] at hm; simp at hm; omega)
            have g0 := hcell k nm hnm
            have HN := Lib.hid (hasN_take hnm t)
            clear hcell hnm
            cases hcv : hasN (H.take k) t with
            | true =>
              rw [hcv, Bool.true_or] at HN
              clear hcv
              go_wp2
              go_roundw
              case rel => exact ⟨k + 1, by omega, by go_num, by rw [HN.out], by first | rfl | trivial⟩
              case measure => simp [intOf]; omega
            | false =>
              obtain ⟨q, hq⟩ : ∃ q, (nm.toList == t.toList) = q := ⟨_, rfl⟩
              rw [hcv, Bool.false_or, hq] at HN
              clear hcv
              go_wp2
              go_roundw
              case rel => exact ⟨k + 1, by omega, by go_num, by rw [HN.out], by first | rfl | trivial⟩
              case measure => simp [intOf]; omega
          · obtain rfl : k = m := by omega
            rw [List.take_of_length_le (by omega), hHas]
            obtain ⟨y90, y91, _, _⟩ := x9.two
            have l9 := x9.1
            go_wp2_with fail
            refine (H8.out _ HZ.out).mono ?_
            rintro e w10 ⟨rfl, hb10⟩
            replace hb0 := on hb0 hb10
            clear hb10 y90 y91 l9
            go_wp2_with fail
            refine (HA.out _).mono ?_
            rintro e w11 ⟨rfl, hb11⟩
            go_wp2
            go_ret
            exact ⟨rfl, on hb0 hb11⟩
end Go.Proofs.Yteolenhgaekihaa.Right
