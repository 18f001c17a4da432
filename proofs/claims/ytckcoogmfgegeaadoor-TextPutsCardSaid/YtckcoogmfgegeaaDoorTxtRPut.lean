/- What the reference's Rept and Put answer: for texts of at most 400 bytes. -/
import Derived.Test.YtckcoogmfgegeaaDoorTxtJoin
import Derived.Lib.AppendStr
namespace Go.Proofs.YtckcoogmfgegeaaDoor.Txt
open Go.RowKit Kit Reg

theorem rep_succ (l : List UInt8) (k : Nat) : Lib.repeatL l (k + 1) = Lib.repeatL l k ++ l := by rw [Lib.repeatL_add, Lib.repeatL_one]
theorem rept_none {l : List UInt8} {n : Int} (h : n < 0) : reptD l n = ([], false) := if_pos (.inl h)
set_option maxRecDepth 100000 in
set_option maxHeartbeats 2000000 in
theorem rrept_none (t : ByteArray) (n : Int) (h : n < 0) (w : World) : Calls Tryd.prog 17 #[.string t, .int .i64 n] w (GotS [] false w) := by
  go_enter Tryd.func17, Tryd.ntmps17
  go_wp2
  exact bodyPost_ret (v := .agg #[.string ⟨#[]⟩, .bool false]) (by simp [results, Tryd.results17, go_sem]) rfl ⟨rfl, below1 _ _⟩
set_option maxRecDepth 100000 in
set_option maxHeartbeats 4000000 in
theorem rrept_some (t : ByteArray) (l : List UInt8) (hs : t.data.toList = l) (h9 : t.size ≤ 400) (N : Nat) (hN : N ≤ 9223372036854775807) (m : List UInt8) (b : Bool) (hr : roomD (Lib.repeatL l N) = (m, b)) (w : World) :
    Calls Tryd.prog 17 #[.string t, .int .i64 (N : Int)] w (GotS m b w) := by
  have hl : l.length = t.size := by rw [← hs, len]
  have HNo : Hid (∀ k, k ≤ N → 256 < (Lib.repeatL l k).length → roomD (Lib.repeatL l k) = (m, b)) := Lib.hid fun k hk hn => by
    have h1 := Lib.repeatL_length l k
    have h2 := Lib.repeatL_length l N
    have h3 := Nat.mul_le_mul_right l.length hk
    rw [room_out (by omega)] at hr ⊢
    exact hr
  have HYes : Hid (roomD (Lib.repeatL l N) = (m, b)) := Lib.hid hr
  have HZ : Hid (∀ k, t.size = 0 → roomD (Lib.repeatL l k) = (m, b)) := Lib.hid fun k hz => by
    have : l = [] := List.length_eq_zero_iff.1 (by omega)
    subst this
    rw [Lib.repeatL_nil] at hr ⊢
    exact hr
  have HR := Lib.hid (fun s h9 hr w => room_c s h9 m b hr w)
  have HEnd := Lib.hid (fun w1 hb1 => got_ends (w := w) (w1 := w1) (m := m) (b := b) hb1)
  have HS := Lib.hid hs
  clear hr hs
  go_enter Tryd.func17, Tryd.ntmps17
  go_wp2
  generalize hgw : w.alloc (.cells #[.string ⟨#[]⟩, .bool false] 30) = w0 at *
  clear hgw
  go_loopw [5, 6] (fun o i wr => ∃ (k : Nat) (x : ByteArray), k ≤ N ∧ i = .int .i64 k ∧ o = .string x ∧ Hid (x.data.toList = Lib.repeatL l k) ∧ x.size ≤ 1256 ∧ w0 = wr) (fun _ i _ => N - (intOf i).toNat)
  case atStart => exact ⟨0, ⟨#[]⟩, Nat.zero_le _, rfl, rfl, Lib.hid rfl, Nat.zero_le _, rfl⟩
  case round =>
    obtain ⟨k, x, hk, rfl, rfl, hx, hx9, rfl⟩ := hrel
    have fin : ∀ h : roomD x.data.toList = (m, b), True := fun _ => trivial
    by_cases hlt : k < N
    · by_cases hz : 0 < t.size
      · by_cases hx2 : x.size ≤ 256
        · have HN : Hid ((x ++ t).data.toList = Lib.repeatL l (k + 1)) := Lib.hid (by rw [rep_succ, ← hx.out, ← HS.out]; simp)
          have hsz : (x ++ t).size = x.size + t.size := by simp
          have d0 : decide ((0 : Int) < (t.size : Int)) = true := decide_eq_true (by omega)
          have d3 : decide (0 < t.size) = true := decide_eq_true hz
          clear hx fin
          go_wp2
          go_roundw
          case rel => exact ⟨k + 1, x ++ t, by omega, by go_num, rfl, HN, by omega, by first | rfl | trivial⟩
          case measure => simp [intOf]; omega
        · have d0 : decide ((0 : Int) < (t.size : Int)) = true := decide_eq_true (by omega)
          have d3 : decide (0 < t.size) = true := decide_eq_true hz
          have d1 : decide ((x.size : Int) ≤ 256) = false := decide_eq_false (by omega)
          have d2 : decide (x.size ≤ 256) = false := decide_eq_false hx2
          have HR2 := Lib.hid (HR.out x (by omega) (by rw [hx.out]; exact HNo.out k (by omega) (by rw [← hx.out, len]; omega)))
          clear HR hx HYes HNo HZ fin
          go_wp2_with fail
          refine (HR2.out _).mono ?_
          rintro e w1 ⟨rfl, hb1⟩
          obtain ⟨⟨hlt9, p0, p1, f0, f1⟩, ⟨e0, e1⟩, hw3⟩ := HEnd.out w1 hb1
          replace e0 := Lib.hid e0
          replace e1 := Lib.hid e1
          replace hw3 := Lib.hid hw3
          clear hb1
          go_wp2_with fail
          exact bodyPost_ret (v := .agg #[.string ⟨m.toArray⟩, .bool b]) (by simp [results, Tryd.results17, go_sem, e0.out, e1.out]) rfl ⟨rfl, hw3.out⟩
      · have d0 : decide ((0 : Int) < (t.size : Int)) = false := decide_eq_false (by omega)
        have d3 : decide (0 < t.size) = false := decide_eq_false hz
        have HR2 := Lib.hid (HR.out x (by omega) (by rw [hx.out]; exact HZ.out k (by omega)))
        clear HR hx HYes HNo HZ fin
        go_wp2_with fail
        refine (HR2.out _).mono ?_
        rintro e w1 ⟨rfl, hb1⟩
        obtain ⟨⟨hlt9, p0, p1, f0, f1⟩, ⟨e0, e1⟩, hw3⟩ := HEnd.out w1 hb1
        replace e0 := Lib.hid e0
        replace e1 := Lib.hid e1
        replace hw3 := Lib.hid hw3
        clear hb1
        go_wp2_with fail
        exact bodyPost_ret (v := .agg #[.string ⟨m.toArray⟩, .bool b]) (by simp [results, Tryd.results17, go_sem, e0.out, e1.out]) rfl ⟨rfl, hw3.out⟩
    · obtain rfl : k = N := by omega
      have HR2 := Lib.hid (HR.out x (by omega) (by rw [hx.out]; exact HYes.out))
      clear HR hx HYes HNo HZ fin
      go_wp2_with fail
      refine (HR2.out _).mono ?_
      rintro e w1 ⟨rfl, hb1⟩
      obtain ⟨⟨hlt9, p0, p1, f0, f1⟩, ⟨e0, e1⟩, hw3⟩ := HEnd.out w1 hb1
      replace e0 := Lib.hid e0
      replace e1 := Lib.hid e1
      replace hw3 := Lib.hid hw3
      clear hb1
      go_wp2_with fail
      exact bodyPost_ret (v := .agg #[.string ⟨m.toArray⟩, .bool b]) (by simp [results, Tryd.results17, go_sem, e0.out, e1.out]) rfl ⟨rfl, hw3.out⟩
theorem rrept_c (t : ByteArray) (h9 : t.size ≤ 400) (n : Int) (hn : n ≤ 9223372036854775807) (m : List UInt8) (b : Bool) (hr : reptD t.data.toList n = (m, b)) (w : World) :
    Calls Tryd.prog 17 #[.string t, .int .i64 n] w (GotS m b w) := by
  by_cases h : n < 0
  · rw [rept_none h] at hr
    obtain ⟨rfl, rfl⟩ := Prod.mk.inj hr
    exact rrept_none t n h w
  · obtain ⟨N, rfl⟩ := Int.eq_ofNat_of_zero_le (show 0 ≤ n by omega)
    rw [rept_room] at hr
    exact rrept_some t _ rfl h9 N (by omega) m b hr w

theorem pre_at {t old : ByteArray} {l : List UInt8} (hs : t.data.toList = l) {k : Nat} (_hk : k + old.size ≤ t.size) : ((t.extract k (k + old.size)).toList == old.toList) = old.data.toList.isPrefixOf (l.drop k) := by
  rw [Lib.toList_data, Lib.toList_data, Lib.extract_data, hs, Nat.add_sub_cancel_left, Bool.eq_iff_iff, beq_iff_eq, List.isPrefixOf_iff_prefix, List.prefix_iff_eq_take, len]
  exact eq_comm
theorem pre_short {t old : ByteArray} {l : List UInt8} (hs : t.data.toList = l) {k : Nat} (hk : ¬ k + old.size ≤ t.size) (h0 : 0 < old.size) : old.data.toList.isPrefixOf (l.drop k) = false := by
  rw [Bool.eq_false_iff]
  intro e
  have h := List.IsPrefix.length_le (List.isPrefixOf_iff_prefix.1 e)
  rw [List.length_drop, ← hs, len, len] at h
  omega
/-- texts' bytes behind a row -/
theorem OwnB.text {B : Nat} {w : World} {v : Value} {l : List UInt8} (y : ByteArray) (h : w.ownsRow B 5 1 v (l.length + y.size) (Lib.byteCells l ++ Lib.strCells y)) : OwnB B v (l ++ y.data.toList) w := by
  unfold OwnB
  rw [Lib.byteCells_append, List.length_append, len]
  rw [Lib.strCells_eq] at h
  exact h
theorem own_below {B : Nat} {w0 w w' : World} {v : Value} {n : Nat} {xs : List Value} (h : w.ownsRow B 5 1 v n xs) (hb : Below w0.heap.size w0 w) (hB : w0.heap.size ≤ B) (hg : w.grownBy w' v.ownBlock) : Below w0.heap.size w0 w' :=
  hb.grown hg (by have := hb.size; omega) (fun b e => Nat.le_trans hB (World.ownsRow.lt h b e).1)
set_option maxRecDepth 100000 in
set_option maxHeartbeats 4000000 in
theorem rput_c (t old new : ByteArray) (l : List UInt8) (hs : t.data.toList = l) (h9 : t.size ≤ 400) (h8 : old.size ≤ 400) (h7 : new.size ≤ 400) (m : List UInt8) (b : Bool) (hr : roomD (putL old.data.toList new.data.toList l) = (m, b)) (w : World) :
    Calls Tryd.prog 15 #[.string t, .string old, .string new] w (GotS m b w) := by
  obtain ⟨i0, hi, hz0, hz1, hz2⟩ := info_parts infoB
  have hl : l.length = t.size := by rw [← hs, len]
  have HLen : Hid ((putL old.data.toList new.data.toList l).length ≤ 161000) := Lib.hid (by
    by_cases h0 : old.data.toList = []
    · rw [h0, put_none]; omega
    · have h1 := put_len new.data.toList l h0
      have h2 := count_le old.data.toList l h0
      have h3 := List.length_pos_iff.2 h0
      have h4 : Lib.count l old.data.toList ≤ 400 := Nat.le_trans (Nat.le_mul_of_pos_right _ h3) (by omega)
      have h5 := Nat.mul_le_mul h4 h7
      rw [len] at h1
      rw [len new] at h1
      omega)
  have HP : Hid (∀ k, k + old.size ≤ t.size → ((t.extract k (k + old.size)).toList == old.toList) = old.data.toList.isPrefixOf (l.drop k)) := Lib.hid fun k hk => pre_at hs hk
  have HPN : Hid (∀ k, ¬ k + old.size ≤ t.size → 0 < old.size → old.data.toList.isPrefixOf (l.drop k) = false) := Lib.hid fun k hk h0 => pre_short hs hk h0
  have HG : Hid (∀ (k : Nat) (c : UInt8), l[k]? = some c → ∃ hk : k < t.size, t[k] = c) := Lib.hid fun k c h => get_byte hs h
  have HO : Hid (old.data.toList.length = old.size) := Lib.hid (len old)
  have HON : Hid (old.data.toList.length = old.size) := Lib.hid (len old)
  have HR := Lib.hid (fun s h9 hr w => room_c s h9 m b hr w)
  have HEnd := Lib.hid (fun w1 hb1 => got_ends (w := w) (w1 := w1) (m := m) (b := b) hb1)
  have HRr := Lib.hid hr
  have hlit := Lib.hid (fun w1 o => own_lit w1 o w1.heap.size (Nat.le_refl _))
  have hbl := Lib.hid (fun w1 : World => below1 w1 (.cells #[] 5))
  clear hs hr
  go_enter Tryd.func15, Tryd.ntmps15
  go_wp2
  generalize hgw : w.alloc (.cells #[.string ⟨#[]⟩, .bool false] 30) = w0 at *
  have hb0 := hbl.out w0
  have h1 := hlit.out w0
  have hs0 : w0.heap.size = w.heap.size + 1 := by rw [← hgw]; simp
  clear hgw hlit hbl
  go_loopw [7, 8] (fun v i wr => ∃ (k : Nat) (acc : List UInt8), k ≤ t.size ∧ i = .int .i64 k ∧ OwnB w0.heap.size v acc wr ∧ Hid (acc ++ putL old.data.toList new.data.toList (l.drop k) = putL old.data.toList new.data.toList l) ∧ Below w0.heap.size w0 wr) (fun _ i _ => t.size - (intOf i).toNat)
  case atStart => exact ⟨0, [], Nat.zero_le _, rfl, by rw [← hs0]; exact h1 _ rfl, Lib.hid rfl, hb0⟩
  case round =>
    clear h1 hb0
    obtain ⟨k, acc, hk, rfl, hrow, hw, hb⟩ := hrel
    have hbs := hb.size
    have hal : acc.length ≤ 161000 := by
      have h1 := HLen.out
      rw [← hw.out, List.length_append] at h1
      omega
    by_cases hlt : k < t.size
    · obtain ⟨c, hc1, hc2⟩ := drop_at (l := l) (k := k) (by omega)
      obtain ⟨hk2, hkc⟩ := HG.out k c hc1
      by_cases h0 : old.size = 0
      · have ho : old.data.toList = [] := List.length_eq_zero_iff.1 (by rw [HO.out]; exact h0)
        have d0 : decide ((0 : Int) < (old.size : Int)) = false := decide_eq_false (by omega)
        have d1 : decide (0 < old.size) = false := decide_eq_false (by omega)
        have HN : Hid ((acc ++ [c]) ++ putL old.data.toList new.data.toList (l.drop (k + 1)) = putL old.data.toList new.data.toList l) := Lib.hid (by
          rw [← hw.out, ho, put_none, put_none, hc2]; simp)
        clear hc1 hc2 ho hw HP HPN
        go_wp2_with (at_builtin; refine wpList_append_own _ rfl _ _ 47 rfl w0.heap.size 5 i0 (.int .u8 0) 1 1 Tryd.underlying47 hi hz0 hz1 hz2 rfl (by decide) _ _ _ rfl (hrow.alloc _) ⟨_, 0, none⟩ 1 1 [.int .u8 (c.toNat : Int)] rfl rfl (cell_one_new _ _ _) (one_cell _ rfl) (by unfold maxLen; omega) (by omega) (by simp; omega) ?_)
        intro v1 w2 hown1 hg1 _
        have hb3 := OwnB.below hrow hb (Nat.le_refl _) hg1
        have hrow1 := OwnB.snoc c _ rfl hown1
        clear hown1 hg1 hrow hb
        go_wp2
        go_roundw
        case rel => exact ⟨k + 1, acc ++ [c], by omega, by go_num, by rw [hs0]; exact hrow1, HN, hb3⟩
        case measure => first | (simp [intOf]; done) | (simp [intOf]; omega)
      · have ho : old.data.toList ≠ [] := fun e => by have h := HO.out; rw [e] at h; simp at h; omega
        have d0 : decide ((0 : Int) < (old.size : Int)) = true := decide_eq_true (by omega)
        have d1 : decide (0 < old.size) = true := decide_eq_true (by omega)
        by_cases hfit : k + old.size ≤ t.size
        · have d2 : decide ((old.size : Int) ≤ (t.size : Int) - (k : Int)) = true := decide_eq_true (by omega)
          have hp := HP.out k hfit
          have c1 : (0 : Int) ≤ (k : Int) := by omega
          have c2 : (k : Int) ≤ (k : Int) + (old.size : Int) := by omega
          have c3 : (k : Int) + (old.size : Int) ≤ (t.size : Int) := by omega
          rw [hc2] at hp hw
          cases hpb : old.data.toList.isPrefixOf (c :: l.drop (k + 1))
          · rw [hpb] at hp
            have HN : Hid ((acc ++ [c]) ++ putL old.data.toList new.data.toList (l.drop (k + 1)) = putL old.data.toList new.data.toList l) := Lib.hid (by
              rw [← hw.out, (put_miss _ ho hpb).1]; simp)
            clear hc1 hc2 ho hw HP HPN hpb
            go_wp2_with (at_builtin; refine wpList_append_own _ rfl _ _ 47 rfl w0.heap.size 5 i0 (.int .u8 0) 1 1 Tryd.underlying47 hi hz0 hz1 hz2 rfl (by decide) _ _ _ rfl (hrow.alloc _) ⟨_, 0, none⟩ 1 1 [.int .u8 (c.toNat : Int)] rfl rfl (cell_one_new _ _ _) (one_cell _ rfl) (by unfold maxLen; omega) (by omega) (by simp; omega) ?_)
            intro v1 w2 hown1 hg1 _
            have hb3 := OwnB.below hrow hb (Nat.le_refl _) hg1
            have hrow1 := OwnB.snoc c _ rfl hown1
            clear hown1 hg1 hrow hb
            go_wp2
            go_roundw
            case rel => exact ⟨k + 1, acc ++ [c], by omega, by go_num, by rw [hs0]; exact hrow1, HN, hb3⟩
            case measure => first | (simp [intOf]; done) | (simp [intOf]; omega)
          · rw [hpb] at hp
            have HN : Hid ((acc ++ new.data.toList) ++ putL old.data.toList new.data.toList (l.drop (k + old.size)) = putL old.data.toList new.data.toList l) := Lib.hid (by
              rw [← hw.out, (put_hit _ ho hpb).1, ← hc2, List.drop_drop, HO.out]; simp)
            clear hc1 hc2 ho hw HP HPN hpb
            go_wp2_with (at_builtin; refine Lib.wpList_append_own_string _ rfl _ _ 47 9 rfl w0.heap.size 5 i0 Tryd.underlying47 Tryd.underlying9 hi hz0 hz1 hz2 _ _ _ rfl hrow new rfl (by unfold maxLen; omega) (by omega) (by omega) ?_)
            intro v1 w2 hown1 hg1 _
            have hb3 := own_below hrow hb (Nat.le_refl _) hg1
            have hrow1 := OwnB.text new hown1
            clear hown1 hg1 hrow hb
            go_wp2
            go_roundw
            case rel => exact ⟨k + old.size, acc ++ new.data.toList, hfit, by go_num, by rw [hs0]; exact hrow1, HN, hb3⟩
            case measure => first | (simp [intOf]; done) | (simp [intOf]; omega)
        · have d2 : decide ((old.size : Int) ≤ (t.size : Int) - (k : Int)) = false := decide_eq_false (by omega)
          have hpb := HPN.out k hfit (by omega)
          rw [hc2] at hpb hw
          have HN : Hid ((acc ++ [c]) ++ putL old.data.toList new.data.toList (l.drop (k + 1)) = putL old.data.toList new.data.toList l) := Lib.hid (by
            rw [← hw.out, (put_miss _ ho hpb).1]; simp)
          clear hc1 hc2 ho hw HP HPN hpb
          go_wp2_with (at_builtin; refine wpList_append_own _ rfl _ _ 47 rfl w0.heap.size 5 i0 (.int .u8 0) 1 1 Tryd.underlying47 hi hz0 hz1 hz2 rfl (by decide) _ _ _ rfl (hrow.alloc _) ⟨_, 0, none⟩ 1 1 [.int .u8 (c.toNat : Int)] rfl rfl (cell_one_new _ _ _) (one_cell _ rfl) (by unfold maxLen; omega) (by omega) (by simp; omega) ?_)
          intro v1 w2 hown1 hg1 _
          have hb3 := OwnB.below hrow hb (Nat.le_refl _) hg1
          have hrow1 := OwnB.snoc c _ rfl hown1
          clear hown1 hg1 hrow hb
          go_wp2
          go_roundw
          case rel => exact ⟨k + 1, acc ++ [c], by omega, by go_num, by rw [hs0]; exact hrow1, HN, hb3⟩
          case measure => first | (simp [intOf]; done) | (simp [intOf]; omega)
    · obtain rfl : k = t.size := by omega
      rw [← hl, List.drop_length, (put_nil _ _).1, List.append_nil] at hw
      have hconv := hrow.conv
      have HR2 := Lib.hid (HR.out ⟨acc.toArray⟩ (by rw [arr_size]; omega) (by show roomD acc = _; rw [hw.out]; exact HRr.out))
      clear hw hrow HR HRr HP HPN
      generalize (⟨acc.toArray⟩ : ByteArray) = z at *
      go_wp2_with fail
      refine (HR2.out _).mono ?_
      rintro e w1 ⟨rfl, hb1⟩
      obtain ⟨⟨hlt9, p0, p1, f0, f1⟩, ⟨e0, e1⟩, hw3⟩ := HEnd.out w1 (on hb hb1)
      replace e0 := Lib.hid e0
      replace e1 := Lib.hid e1
      replace hw3 := Lib.hid hw3
      clear hb1 hb
      go_wp2_with fail
      exact bodyPost_ret (v := .agg #[.string ⟨m.toArray⟩, .bool b]) (by simp [results, Tryd.results15, go_sem, e0.out, e1.out]) rfl ⟨rfl, hw3.out⟩
end Go.Proofs.YtckcoogmfgegeaaDoor.Txt
