/- What the reference's Cells of a span answers: a slice of its own that holds the span's cells row by row, if these are at most 1000; else none. -/
import Derived.Maps.AppendAt
import Derived.Deep.Onto
import Derived.Test.YtedpgcmmnmlpeaaSpanRow
import Derived.Test.YtedpgcmmnmlpeaaSpanRef
namespace Go.Proofs.Ytedpgcmmnmlpeaa.Span
open Go.RowKit Kit Reg Go.Proofs.Ytedpgcmmnmlpeaa.Addr

theorem grown_none {A B : World} (hb : Below A.heap.size A B) : A.grownBy B none := ⟨hb.os, hb.tape, hb.output, hb.size, fun k hk _ => hb.block k hk⟩
theorem OwnRow.on {B : Nat} {v : Value} {cs : List (Int × Int)} {w w' : World} (h : OwnRow B v cs w) (hb : Below w.heap.size w w') : OwnRow B v cs w' := World.ownsRow.kept h (grown_none hb) (by
  rcases h.2 with ⟨rfl, _⟩ | ⟨g, cap, cur, rfl, _⟩
  · exact .inl rfl
  · exact .inr (by simp [Value.ownBlock]))
set_option maxRecDepth 100000 in
set_option maxHeartbeats 2000000 in
theorem rcells_none (a b c d : Int) (hm : mayS a b c d = false) (w : World) :
    Calls Try.prog 8 #[.agg #[.int .i64 a, .int .i64 b, .int .i64 c, .int .i64 d]] w (CellsEnd [] w) := by
  have H1 := Lib.hid (fun w1 => rstraight_out a b c d hm w1)
  have H2 := Lib.hid (fun w1 => rmay_c a b c d false hm w1)
  clear hm
  have hb0 := below1 w (.cells #[.int .i64 a, .int .i64 b, .int .i64 c, .int .i64 d] 26)
  have ha := CellsAt.new w [.int .i64 a, .int .i64 b, .int .i64 c, .int .i64 d] 26
  go_enter Try.func8, Try.ntmps8
  go_wp2_with fail
  refine (H1.out _).mono ?_
  rintro e w1 ⟨rfl, hb1⟩
  replace hb0 := on_alloc (on hb0 hb1) (.cells #[.int .i64 0, .int .i64 0, .int .i64 0, .int .i64 0] 26)
  replace ha := (ha.on hb1).on_alloc (.cells #[.int .i64 0, .int .i64 0, .int .i64 0, .int .i64 0] 26)
  clear hb1
  go_wp2_with fail
  generalize w1.alloc (.cells #[.int .i64 0, .int .i64 0, .int .i64 0, .int .i64 0] 26) = W at *
  obtain ⟨c0, c1, c2, c3, _⟩ := ha.four
  have C0 := fun d os => cell_regrown c0 d os
  have C1 := fun d os => cell_regrown c1 d os
  have C2 := fun d os => cell_regrown c2 d os
  have C3 := fun d os => cell_regrown c3 d os
  clear c0 c1 c2 c3
  refine wp_region_quiet_below (by kernel_rfl) (by kernel_rfl) ?_
  repeat (go_big_quiet_step (first | (go_at_call 20; with_reducible exact Calls.regrown_of (H2.out _))))
  refine wpQuiet_nil ?_
  intro _ hw'
  obtain ⟨⟨dq, osq⟩, hw''⟩ := hw'
  subst hw''
  go_wp2
  go_ret
  exact ⟨_, rfl, World.ownsRow_nil _ _ _ _, on hb0 (below_regrown W dq osq)⟩
set_option maxRecDepth 100000 in
set_option maxHeartbeats 4000000 in
theorem rcells_true (a b c d : Int) (R C S : Nat) (p q : Int) (hm : mayS a b c d = true) (hR : ext true a c = R) (hC : ext true b d = C) (hp : lo true a c = p) (hq : lo true b d = q) (hRC : R * C = S) (hbig : decide (1000 < S) = true) (w : World) :
    Calls Try.prog 8 #[.agg #[.int .i64 a, .int .i64 b, .int .i64 c, .int .i64 d]] w (CellsEnd [] w) := by
  obtain ⟨r1, r2, r3, r4, r5, r6⟩ := lo_range hm
  rw [hp] at r1
  rw [hq] at r2
  have hR9 : R ≤ 999 := by have := (ext_rows hm).2; omega
  have hC7 : C ≤ 702 := by have := (ext_cols hm).2; omega
  obtain ⟨i0, hin, hz0, hz1, hz2⟩ := info_parts infoC
  have H1 := Lib.hid (fun w1 => rstraight_in a b c d p q _ _ hm hp hq rfl rfl w1)
  have H2 := Lib.hid (fun w1 => rmay_c a b c d true hm w1)
  have H3 := Lib.hid (fun w1 => rrows_c a b c d true R hm hR w1)
  have H4 := Lib.hid (fun w1 => rcols_c a b c d true C hm hC w1)
  have hmul : ((R : Int) * (C : Int)) = (S : Int) := by rw [← hRC]; simp
  have hS7 : S ≤ 701298 := by rw [← hRC]; exact Nat.mul_le_mul hR9 hC7
  have hd : decide (1000 < (S : Int)) = true := by rw [← hbig]; exact decide_eq_decide.2 (by omega)
  have HRC := Lib.hid hRC
  clear hm hR hC hp hq r3 r4 r5 r6 hRC hbig
  generalize hi true a c = rr at *
  generalize hi true b d = ss at *
  have hb0 := below1 w (.cells #[.int .i64 a, .int .i64 b, .int .i64 c, .int .i64 d] 26)
  have ha := CellsAt.new w [.int .i64 a, .int .i64 b, .int .i64 c, .int .i64 d] 26
  go_enter Try.func8, Try.ntmps8
  go_wp2_with fail
  refine (H1.out _).mono ?_
  rintro e w1 ⟨rfl, hb1⟩
  have hlt := (ha.on hb1).1
  replace hb0 := on_alloc (on hb0 hb1) (.cells #[.int .i64 p, .int .i64 q, .int .i64 rr, .int .i64 ss] 26)
  replace ha := (ha.on hb1).on_alloc (.cells #[.int .i64 p, .int .i64 q, .int .i64 rr, .int .i64 ss] 26)
  have hx := CellsAt.new w1 [.int .i64 p, .int .i64 q, .int .i64 rr, .int .i64 ss] 26
  clear hb1
  go_wp2_with fail
  generalize w1.alloc (.cells #[.int .i64 p, .int .i64 q, .int .i64 rr, .int .i64 ss] 26) = W at *
  obtain ⟨c0, c1, c2, c3, _⟩ := ha.four
  have C0 := fun d os => cell_regrown c0 d os
  have C1 := fun d os => cell_regrown c1 d os
  have C2 := fun d os => cell_regrown c2 d os
  have C3 := fun d os => cell_regrown c3 d os
  clear c0 c1 c2 c3
  refine wp_region_quiet_below (by kernel_rfl) (by kernel_rfl) ?_
  repeat (go_big_quiet_step (first | (go_at_call 20; with_reducible exact Calls.regrown_of (H2.out _)) | (go_at_call 21; with_reducible exact Calls.regrown_of (H3.out _)) | (go_at_call 22; with_reducible exact Calls.regrown_of (H4.out _))))
  refine wpQuiet_nil ?_
  intro _ hw'
  obtain ⟨⟨dq, osq⟩, hw''⟩ := hw'
  subst hw''
  have hbr := below_regrown W dq osq
  replace hb0 := on hb0 hbr
  replace ha := ha.on hbr
  replace hx := hx.on hbr
  generalize Sort.grow (redrawn W dq) osq = V at *
  clear hbr C0 C1 C2 C3 H1 H2
  go_wp2
  go_ret
  exact ⟨_, rfl, World.ownsRow_nil _ _ _ _, hb0⟩
set_option maxRecDepth 100000 in
set_option maxHeartbeats 4000000 in
theorem rcells_false (a b c d : Int) (R C S : Nat) (p q : Int) (hm : mayS a b c d = true) (hR : ext true a c = R) (hC : ext true b d = C) (hp : lo true a c = p) (hq : lo true b d = q) (hRC : R * C = S) (hbig : decide (1000 < S) = false) (w : World) :
    Calls Try.prog 8 #[.agg #[.int .i64 a, .int .i64 b, .int .i64 c, .int .i64 d]] w (CellsEnd (upto (cellAt p q C) S) w) := by
  obtain ⟨r1, r2, r3, r4, r5, r6⟩ := lo_range hm
  rw [hp] at r1
  rw [hq] at r2
  have hR9 : R ≤ 999 := by have := (ext_rows hm).2; omega
  have hC7 : C ≤ 702 := by have := (ext_cols hm).2; omega
  obtain ⟨i0, hin, hz0, hz1, hz2⟩ := info_parts infoC
  have H1 := Lib.hid (fun w1 => rstraight_in a b c d p q _ _ hm hp hq rfl rfl w1)
  have H2 := Lib.hid (fun w1 => rmay_c a b c d true hm w1)
  have H3 := Lib.hid (fun w1 => rrows_c a b c d true R hm hR w1)
  have H4 := Lib.hid (fun w1 => rcols_c a b c d true C hm hC w1)
  have hmul : ((R : Int) * (C : Int)) = (S : Int) := by rw [← hRC]; simp
  have hS7 : S ≤ 701298 := by rw [← hRC]; exact Nat.mul_le_mul hR9 hC7
  have hd : decide (1000 < (S : Int)) = false := by rw [← hbig]; exact decide_eq_decide.2 (by omega)
  have HRC := Lib.hid hRC
  clear hm hR hC hp hq r3 r4 r5 r6 hRC hbig
  generalize hi true a c = rr at *
  generalize hi true b d = ss at *
  have hb0 := below1 w (.cells #[.int .i64 a, .int .i64 b, .int .i64 c, .int .i64 d] 26)
  have ha := CellsAt.new w [.int .i64 a, .int .i64 b, .int .i64 c, .int .i64 d] 26
  go_enter Try.func8, Try.ntmps8
  go_wp2_with fail
  refine (H1.out _).mono ?_
  rintro e w1 ⟨rfl, hb1⟩
  have hlt := (ha.on hb1).1
  replace hb0 := on_alloc (on hb0 hb1) (.cells #[.int .i64 p, .int .i64 q, .int .i64 rr, .int .i64 ss] 26)
  replace ha := (ha.on hb1).on_alloc (.cells #[.int .i64 p, .int .i64 q, .int .i64 rr, .int .i64 ss] 26)
  have hx := CellsAt.new w1 [.int .i64 p, .int .i64 q, .int .i64 rr, .int .i64 ss] 26
  clear hb1
  go_wp2_with fail
  generalize w1.alloc (.cells #[.int .i64 p, .int .i64 q, .int .i64 rr, .int .i64 ss] 26) = W at *
  obtain ⟨c0, c1, c2, c3, _⟩ := ha.four
  have C0 := fun d os => cell_regrown c0 d os
  have C1 := fun d os => cell_regrown c1 d os
  have C2 := fun d os => cell_regrown c2 d os
  have C3 := fun d os => cell_regrown c3 d os
  clear c0 c1 c2 c3
  refine wp_region_quiet_below (by kernel_rfl) (by kernel_rfl) ?_
  repeat (go_big_quiet_step (first | (go_at_call 20; with_reducible exact Calls.regrown_of (H2.out _)) | (go_at_call 21; with_reducible exact Calls.regrown_of (H3.out _)) | (go_at_call 22; with_reducible exact Calls.regrown_of (H4.out _))))
  refine wpQuiet_nil ?_
  intro _ hw'
  obtain ⟨⟨dq, osq⟩, hw''⟩ := hw'
  subst hw''
  have hbr := below_regrown W dq osq
  replace hb0 := on hb0 hbr
  replace ha := ha.on hbr
  replace hx := hx.on hbr
  generalize Sort.grow (redrawn W dq) osq = V at *
  clear hbr C0 C1 C2 C3 H1 H2
  have hlx := hx.1
  go_wp2
  go_loopw [3, 5] (fun o i wr => ∃ k : Nat, k ≤ R ∧ i = .int .i64 k ∧ OwnRow (w1.heap.size + 1) o (upto (cellAt p q C) (k * C)) wr ∧ Below w.heap.size w wr ∧ CellsAt wr w.heap.size [.int .i64 a, .int .i64 b, .int .i64 c, .int .i64 d] ∧ CellsAt wr w1.heap.size [.int .i64 p, .int .i64 q, .int .i64 rr, .int .i64 ss]) (fun _ i _ => R - (intOf i).toNat)
  case atStart => exact ⟨0, Nat.zero_le _, rfl, by rw [Nat.zero_mul]; exact World.ownsRow_nil _ _ _ _, hb0, ha, hx⟩
  case round =>
    clear hb0 ha hx
    obtain ⟨k, hk, rfl, hrow, hb0, ha, hx⟩ := hrel
    have l1 := ha.1
    have l2 := hx.1
    obtain ⟨c0, c1, c2, c3, _⟩ := ha.four
    go_wp2_with fail
    refine (H3.out _).mono ?_
    rintro e w3 ⟨rfl, hb3⟩
    replace hrow := hrow.on hb3
    replace hb0 := on hb0 hb3
    replace ha := ha.on hb3
    replace hx := hx.on hb3
    clear hb3 c0 c1 c2 c3 l1 l2
    by_cases hlk : k < R
    · go_wp2
      go_loopw [3, 6] (fun o i wr => ∃ j : Nat, j ≤ C ∧ i = .int .i64 j ∧ OwnRow (w1.heap.size + 1) o (upto (cellAt p q C) (k * C + j)) wr ∧ Below w.heap.size w wr ∧ CellsAt wr w.heap.size [.int .i64 a, .int .i64 b, .int .i64 c, .int .i64 d] ∧ CellsAt wr w1.heap.size [.int .i64 p, .int .i64 q, .int .i64 rr, .int .i64 ss]) (fun _ i _ => C - (intOf i).toNat)
      case atStart => exact ⟨0, Nat.zero_le _, rfl, hrow, hb0, ha, hx⟩
      case round =>
        clear hrow hb0 ha hx
        obtain ⟨j, hj, rfl, hrow, hb0, ha, hx⟩ := hrel
        have l1 := ha.1
        have l2 := hx.1
        obtain ⟨c0, c1, c2, c3, _⟩ := ha.four
        go_wp2_with fail
        refine (H4.out _).mono ?_
        rintro e w4 ⟨rfl, hb4⟩
        replace hrow := hrow.on hb4
        replace hb0 := on hb0 hb4
        replace ha := ha.on hb4
        replace hx := hx.on hb4
        clear hb4 c0 c1 c2 c3 l1 l2
        have l2 := hx.1
        by_cases hjl : j < C
        · obtain ⟨x0, x1, x2, x3, _⟩ := hx.four
          have hlen : k * C + j + 1 ≤ S := by
            rw [← HRC.out]
            have h1 : (k + 1) * C ≤ R * C := Nat.mul_le_mul_right C hlk
            rw [Nat.succ_mul] at h1
            omega
          have hul : (upto (cellAt p q C) (k * C + j)).length = k * C + j := upto_length _ _
          have hnew := two_new w4 (p + k, q + j)
          have hsn : upto (cellAt p q C) (k * C + (j + 1)) = upto (cellAt p q C) (k * C + j) ++ [(p + (k : Int), q + (j : Int))] := by rw [← Nat.add_assoc, upto_succ, cellAt_at p q hjl]
          have HSn := Lib.hid hsn
          have HUl := Lib.hid hul
          clear hsn
          unfold OwnRow at hrow
          rw [hul] at hrow
          clear hul
          generalize upto (cellAt p q C) (k * C + j) = U at *
          generalize k * C + j = n at *
          go_wp2_with (at_builtin; refine wpList_append_own_at _ rfl _ _ 32 rfl (w1.heap.size + 1) 24 i0 _ 2 16 Try.underlying32 hin hz0 hz1 hz2 rfl (by decide) _ n (flat U) rfl (hrow.alloc _) ⟨w4.heap.size, 0, none⟩ 1 1 [.int .i64 (p + (k : Int)), .int .i64 (q + (j : Int))] rfl rfl hnew (by simp [Value.oneCell']) (by unfold maxLen; omega) (by omega) (by simp; omega) ?_; intro v' w5 hown' hgrow hnil hloc)
          have hne : ∀ b, b ≤ w1.heap.size → some b ≠ Value.ownBlock _ := fun b hb e => by
            have := (World.ownsRow.lt hrow _ e.symm).1
            omega
          go_roundw
          case rel =>
            refine ⟨j + 1, by omega, by go_num, ?_, ?_, ?_, ?_⟩
            · rw [HSn.out]
              unfold OwnRow
              rw [flat_snoc, List.length_append, HUl.out]
              exact hown'
            · exact (on_alloc hb0 _).grown hgrow (by have := hb0.size; simp; omega) (fun b e => by have := (World.ownsRow.lt hrow b e).1; omega)
            · exact CellsAt.grownBy (ha.on_alloc _) hgrow (hne _ (by omega))
            · exact CellsAt.grownBy (hx.on_alloc _) hgrow (hne _ (Nat.le_refl _))
          case measure => simp [intOf]; omega
        · obtain rfl : j = C := by omega
          go_wp2
          go_roundw
          case rel => exact ⟨k + 1, by omega, by go_num, by rw [Nat.succ_mul]; exact hrow, hb0, ha, hx⟩
          case measure => simp [intOf]; omega
    · obtain rfl : k = R := by omega
      rw [HRC.out] at hrow
      go_wp2
      go_ret
      exact ⟨_, rfl, World.ownsRow.mono hrow (by omega), hb0⟩
theorem rcells_c (a b c d : Int) (m : Bool) (R C S : Nat) (p q : Int) (hm : mayS a b c d = m) (hR : ext m a c = R) (hC : ext m b d = C) (hp : lo m a c = p) (hq : lo m b d = q) (hRC : R * C = S) (w : World) :
    Calls Try.prog 8 #[.agg #[.int .i64 a, .int .i64 b, .int .i64 c, .int .i64 d]] w (CellsEnd (if 1000 < S then [] else upto (cellAt p q C) S) w) := by
  cases m with
  | false =>
    have h0 : R = 0 := by rw [ext_false] at hR; omega
    subst h0
    rw [Nat.zero_mul] at hRC
    subst hRC
    exact rcells_none a b c d hm w
  | true =>
    cases hb : decide (1000 < S) with
    | true =>
      rw [if_pos (by simpa using hb)]
      exact rcells_true a b c d R C S p q hm hR hC hp hq hRC hb w
    | false =>
      rw [if_neg (by simpa using hb)]
      exact rcells_false a b c d R C S p q hm hR hC hp hq hRC hb w
theorem cells_c (a b c d : Int) (m : Bool) (R C S : Nat) (p q : Int) (hm : mayS a b c d = m) (hR : ext m a c = R) (hC : ext m b d = C) (hp : lo m a c = p) (hq : lo m b d = q) (hRC : R * C = S) (w : World) :
    Calls Try.prog 17 #[.agg #[.int .i64 a, .int .i64 b, .int .i64 c, .int .i64 d]] w (CellsEnd (if 1000 < S then [] else upto (cellAt p q C) S) w) := by
  by_cases h : 1000 < S
  · rw [if_pos h]
    exact cells_big a b c d m S hm (by rw [hR, hC, ← hRC]; simp) (by omega) w
  · rw [if_neg h]
    exact cells_few a b c d m R C S p q hm hR hC hp hq hRC (by omega) w
end Go.Proofs.Ytedpgcmmnmlpeaa.Span
