/- What the reference's Parse of a span answers: every text. -/
import Derived.Test.YtkebapdbibdheaaDoorSpanRefText
namespace Go.Proofs.YtkebapdbibdheaaDoor.Span
open Go.RowKit Kit Reg Go.Proofs.YtkebapdbibdheaaDoor.Addr

set_option maxRecDepth 100000 in
set_option maxHeartbeats 4000000 in
theorem rparse_span (t : ByteArray) (w : World) : Calls Tryd.prog 29 #[.string t] w (ToldEnd t.data.toList w) := by
  have H1 := Lib.hid (fun w1 => rparse_c t w1)
  have HTs := Lib.hid (Lib.size_eq t)
  have hb0 := below1 w (.cells #[.int .i64 0, .int .i64 0, .int .i64 0, .int .i64 0, .bool false] 41)
  have hv := CellsAt.new w [.int .i64 0, .int .i64 0, .int .i64 0, .int .i64 0, .bool false] 41
  go_enter Tryd.func29, Tryd.ntmps29
  go_wp2_with fail
  refine (H1.out _).mono ?_
  rintro e w1 ⟨r, c, ok, rfl, hc1, hb1⟩
  replace hv := hv.on hb1
  have lv := hv.1
  obtain ⟨v0, v1, v2, v3, v4, f0, f1, f2, f3, f4⟩ := hv.five
  replace hb0 := on hb0 hb1
  clear hb1
  cases ok with
  | true =>
    have HR := Lib.hid (SpanIs.one hc1)
    clear hc1
    go_wp2
    exact bodyPost_ret (by simp [results, Tryd.results29, go_sem, lv, v0, v1, v2, v3, v4]) rfl ⟨_, _, _, _, _, rfl, HR.out, on_alloc (put5_below hb0 (Nat.le_refl _) _ _ _ _ _) _⟩
  | false =>
    have hN := NoSpan.zero hc1
    clear hc1
    replace hb0 := on_alloc hb0 (.cells #[.int .i64 r, .int .i64 c, .bool false] 59)
    replace hv := hv.on_alloc (.cells #[.int .i64 r, .int .i64 c, .bool false] 59)
    clear v0 v1 v2 v3 v4 f0 f1 f2 f3 f4
    go_wp2
    go_loopw [4] (fun i wr => ∃ k : Nat, k ≤ t.size ∧ k ≤ 10 ∧ i = .int .i64 k ∧ NoSpan t.data.toList k ∧ Below w.heap.size w wr ∧ CellsAt wr w.heap.size [.int .i64 0, .int .i64 0, .int .i64 0, .int .i64 0, .bool false]) (fun i _ => 10 - (intOf i).toNat)
    case atStart => exact ⟨0, Nat.zero_le _, by omega, rfl, hN, hb0, hv⟩
    case round =>
      clear hN hb0 hv lv
      obtain ⟨k, hk, hk10, rfl, hN, hb0, hv⟩ := hrel
      have lv := hv.1
      by_cases hlt : k < t.size
      · by_cases h10 : k < 10
        · obtain ⟨x, hx⟩ : ∃ x : UInt8, t[k]'hlt = x := ⟨_, rfl⟩
          have hxl : t.data.toList[k]? = some x := by rw [← hx]; exact Lib.data_getElem? t k hlt
          by_cases h58 : x = 58
          · subst h58
            obtain ⟨r1, c1, b1, e1⟩ := cellIs_ex (t.data.toList.take k)
            obtain ⟨r2, c2, b2, e2⟩ := cellIs_ex (t.data.toList.drop (k + 1))
            have HA := Lib.hid (fun w1 => rparse_at (t.extract 0 k) r1 c1 b1 (by rw [ext_take]; exact e1) w1)
            have HB := Lib.hid (fun w1 => rparse_at (t.extract (k + 1) t.size) r2 c2 b2 (by rw [ext_drop]; exact e2) w1)
            have HF := Lib.hid (fun (hne : ¬ (r1 = r2 ∧ c1 = c2)) (h1 : b1 = true) (h2 : b2 = true) => NoSpan.found hxl (h1 ▸ e1) (h2 ▸ e2) hne)
            have HNx := Lib.hid (fun hno => hN.next e1 e2 hno)
            clear hN hxl e1 e2
            go_wp2_with fail
            refine wp_region_new 11 (fun d => match d with
              | 35 => some (Is (.agg #[.int .i64 r1, .int .i64 c1, .bool b1]))
              | 40 => some (Is (.agg #[.int .i64 r2, .int .i64 c2, .bool b2]))
              | 5 => some (NewCells wr.heap.size [.int .i64 0, .int .i64 0, .bool false])
              | 6 => some (NewCells wr.heap.size [.int .i64 0, .int .i64 0, .bool false])
              | _ => none) (fun d => d == 5 || d == 6) (by kernel_rfl) (by kernel_rfl) ?_
            simp only [List.take_succ_cons, List.take_zero, List.drop_succ_cons, List.drop_zero]
            repeat (first | (refine wpM_calm rfl rfl rfl ?_; intro K hK; go_big_quiet_op; go_big_quiet_on) | (refine wpM_skip rfl ?_; simp only [Act.put, List.setIfInBounds_toArray, List.set_cons_succ, List.set_cons_zero]))
            refine wpM_exact rfl rfl rfl Tryd.func41 (by kernel_rfl) (by kernel_rfl) (fun w1 _ _ => HA.out w1) rfl (by simp only [Act.put, List.setIfInBounds_toArray, List.set_cons_succ, List.set_cons_zero]; rfl) ?_
            repeat (first | (refine wpM_calm rfl rfl rfl ?_; intro K hK; go_big_quiet_op; go_big_quiet_on) | (refine wpM_skip rfl ?_; simp only [Act.put, List.setIfInBounds_toArray, List.set_cons_succ, List.set_cons_zero]))
            refine wpM_exact rfl rfl rfl Tryd.func41 (by kernel_rfl) (by kernel_rfl) (fun w1 _ _ => HB.out w1) rfl (by simp only [Act.put, List.setIfInBounds_toArray, List.set_cons_succ, List.set_cons_zero]; rfl) ?_
            refine wpM_alloc _ (.cells #[.int .i64 0, .int .i64 0, .bool false] 59) rfl rfl rfl (fun w1 => by simp [go_sem]) (fun w1 h1 => (NewCells.mk w1 _ _ h1.size).2) ?_ (by rintro v ⟨_, b, rfl, _⟩; exact ⟨b, rfl⟩)
            intro b6 a' ha'
            simp only [Act.put, List.setIfInBounds_toArray, List.set_cons_succ, List.set_cons_zero] at ha'
            subst ha'
            refine wpM_alloc _ (.cells #[.int .i64 0, .int .i64 0, .bool false] 59) rfl rfl rfl (fun w1 => by simp [go_sem]) (fun w1 h1 => (NewCells.mk w1 _ _ h1.size).2) ?_ (by rintro v ⟨_, b, rfl, _⟩; exact ⟨b, rfl⟩)
            intro b7 a' ha'
            simp only [Act.put, List.setIfInBounds_toArray, List.set_cons_succ, List.set_cons_zero] at ha'
            subst ha'
            refine wpM_nil ?_
            intro w4 hb4 hG
            have hne67 : b6 ≠ b7 := hG.2.1 9 b6 10 b7 (.inl (.inr ⟨rfl, rfl⟩)) (.inr ⟨rfl, rfl⟩) (by decide)
            obtain ⟨hB7, k7⟩ := NewCells.at (Fct.put_at (hG.2.2.1 10))
            obtain ⟨hB6, k6⟩ := NewCells.at (Fct.put_at (Fct.put_old (hG.2.2.1 9)))
            have hsw := hb0.size
            replace hb0 := on hb0 hb4
            replace hv := ((hv.on hb4).put3_far (c := b6) (by omega) (.int .i64 r1) (.int .i64 c1) (.bool b1)).put3_far (c := b7) (by omega) (.int .i64 r2) (.int .i64 c2) (.bool b2)
            obtain ⟨c60, c61, c62, f60, f61, f62⟩ := k6.three
            obtain ⟨c70, c71, c72, f70, f71, f72⟩ := (k7.put3_far hne67 (.int .i64 r1) (.int .i64 c1) (.bool b1)).three
            have q6 := (k6.put3 (.int .i64 r1) (.int .i64 c1) (.bool b1)).put3_far hne67.symm (.int .i64 r2) (.int .i64 c2) (.bool b2)
            have q7 := (k7.put3_far hne67 (.int .i64 r1) (.int .i64 c1) (.bool b1)).put3 (.int .i64 r2) (.int .i64 c2) (.bool b2)
            replace hb0 : Below w.heap.size w (put3 (put3 w4 b6 (.int .i64 r1) (.int .i64 c1) (.bool b1)) b7 (.int .i64 r2) (.int .i64 c2) (.bool b2)) := set3 (set3 hb0 (by omega) _ _ _) (by omega) _ _ _
            clear hG hb4 k6 k7
            go_upto_region 9 with fail
            simp only [put3] at hb0 hv q6 q7
            generalize (((((w4.setCell ⟨b6, 0, none⟩ (.int .i64 r1)).setCell ⟨b6, 1, none⟩ (.int .i64 c1)).setCell ⟨b6, 2, none⟩ (.bool b1)).setCell ⟨b7, 0, none⟩ (.int .i64 r2)).setCell ⟨b7, 1, none⟩ (.int .i64 c2)).setCell ⟨b7, 2, none⟩ (.bool b2) = W at *
            clear c60 c61 c62 f60 f61 f62 c70 c71 c72 f70 f71 f72
            have l6 := q6.1
            have l7 := q7.1
            have lv2 := hv.1
            obtain ⟨s0, s1, s2, _⟩ := q6.three
            obtain ⟨t0, t1, t2, _⟩ := q7.three
            obtain ⟨v0, v1, v2, v3, v4, o0, o1, o2, o3, o4⟩ := hv.five
            clear q6 q7 hB6 hB7 H1
            cases b1 with
            | false =>
              have HR := Lib.hid (HNx.out (fun h _ => by cases h))
              clear HNx HF
              go_wp2
              go_roundw
              case rel => exact ⟨k + 1, by omega, by omega, by go_num, HR.out, on_alloc hb0 _, hv.on_alloc _⟩
              case measure => simp [intOf]; omega
            | true =>
              cases b2 with
              | false =>
                have HR := Lib.hid (HNx.out (fun _ h => by cases h))
                clear HNx HF
                go_wp2
                go_roundw
                case rel => exact ⟨k + 1, by omega, by omega, by go_num, HR.out, on_alloc hb0 _, hv.on_alloc _⟩
                case measure => simp [intOf]; omega
              | true =>
                rcases rtwo_ways r1 c1 r2 c2 with ⟨rfl, rfl⟩ | ⟨hne, hw⟩
                · have HR := Lib.hid (HNx.out (fun _ _ => ⟨rfl, rfl⟩))
                  clear HNx HF
                  go_wp2
                  go_roundw
                  case rel => exact ⟨k + 1, by omega, by omega, by go_num, HR.out, on_alloc hb0 _, hv.on_alloc _⟩
                  case measure => simp [intOf]; omega
                · have HR := Lib.hid (HF.out hne rfl rfl)
                  clear HNx HF hne
                  rcases hw with h1 | ⟨h1, h2⟩
                  all_goals
                    go_wp2
                    exact bodyPost_ret (by simp [results, Tryd.results29, go_sem, lv2, v0, v1, v2, v3, v4]) rfl ⟨_, _, _, _, _, rfl, HR.out, on_alloc (put5_below hb0 (Nat.le_refl _) _ _ _ _ _) _⟩
          · have HR := Lib.hid (hN.other hxl h58)
            have hd : ((x.toNat : Int) != 58) = true := by
              have : x.toNat ≠ 58 := fun e => h58 (by rw [← UInt8.toNat_inj]; simpa using e)
              simp; omega
            clear hN hxl h58
            go_wp2
            go_roundw
            case rel => exact ⟨k + 1, by omega, by omega, by go_num, HR.out, hb0, hv⟩
            case measure => simp [intOf]; omega
        · have HR := Lib.hid (hN.done (.inr (by omega)))
          have hd : decide ((k : Int) < 10) = false := by simp; omega
          obtain ⟨v0, v1, v2, v3, v4, o0, o1, o2, o3, o4⟩ := hv.five
          have lv2 := lv
          clear hN
          go_wp2
          exact bodyPost_ret (by simp [results, Tryd.results29, go_sem, v0, v1, v2, v3, v4]) rfl ⟨_, _, _, _, _, rfl, HR.out, put5_below hb0 (Nat.le_refl _) _ _ _ _ _⟩
      · have HR := Lib.hid (hN.done (.inl (by rw [← HTs.out]; omega)))
        obtain ⟨v0, v1, v2, v3, v4, o0, o1, o2, o3, o4⟩ := hv.five
        have hd : decide ((k : Int) < (t.size : Int)) = false := by simp; omega
        clear hN
        go_wp2
        exact bodyPost_ret (by simp [results, Tryd.results29, go_sem, v0, v1, v2, v3, v4]) rfl ⟨_, _, _, _, _, rfl, HR.out, put5_below hb0 (Nat.le_refl _) _ _ _ _ _⟩
end Go.Proofs.YtkebapdbibdheaaDoor.Span
