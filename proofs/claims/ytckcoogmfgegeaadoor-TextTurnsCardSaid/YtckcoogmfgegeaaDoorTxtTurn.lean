/- What the reference's Turn answers: for every text of at most a million bytes. -/
import Derived.Test.YtckcoogmfgegeaaDoorTxtTrim
namespace Go.Proofs.YtckcoogmfgegeaaDoor.Txt
open Go.RowKit Kit Reg

theorem get_byte {t : ByteArray} {l : List UInt8} (hs : t.data.toList = l) {k : Nat} {c : UInt8} (h : l[k]? = some c) : ∃ hk : k < t.size, t[k] = c := by
  have hk : k < t.size := by
    have := (List.getElem?_eq_some_iff.1 h).1
    rw [← hs, len] at this
    exact this
  refine ⟨hk, ?_⟩
  have h2 := Lib.data_getElem? t k hk
  rw [hs, h] at h2
  exact (Option.some.inj h2).symm
set_option maxRecDepth 100000 in
set_option maxHeartbeats 4000000 in
theorem rturn_c (t : ByteArray) (l : List UInt8) (hs : t.data.toList = l) (h9 : t.size ≤ 1000000) (way : Int) (f o : Nat) (hway : (way = 0 ∧ f = 0 ∧ o = 0) ∨ (way = 1 ∧ f = 1 ∧ o = 1) ∨ (way = 2 ∧ f = 0 ∧ o = 1)) (w : World) :
    Calls Tryd.prog 12 #[.string t, .int .i64 way] w fun e w' => e = .returned (.string ⟨(wrL f o f l).toArray⟩) ∧ Below w.heap.size w w' := by
  obtain ⟨i0, hi, hz0, hz1, hz2⟩ := info_parts infoB
  have h1 := Lib.hid (fun o => own_lit w o w.heap.size (Nat.le_refl _))
  have hb0 := below1 w (.cells #[] 5)
  have hl : l.length = t.size := by rw [← hs, len]
  have HG : Hid (∀ (k : Nat) (c : UInt8), l[k]? = some c → ∃ hk : k < t.size, t[k] = c) := Lib.hid fun k c h => get_byte hs h
  have HL := Lib.hid (fun c b hb w => rletter_c c b hb w)
  have HU := Lib.hid (fun c w => rup_c c w)
  have HD := Lib.hid (fun c w => rdown_c c w)
  have HWL := Lib.hid (wr_len f o l f)
  clear hs
  rcases hway with ⟨rfl, rfl, rfl⟩ | ⟨rfl, rfl, rfl⟩ | ⟨rfl, rfl, rfl⟩
  · go_enter Tryd.func12, Tryd.ntmps12
    go_wp2
    go_loopw [5, 6] (fun v i wr => ∃ (k x : Nat) (b : Bool) (acc : List UInt8), k ≤ t.size ∧ i = .int .i64 k ∧ Hid (k = 0 → b = false) ∧ Hid (∀ j, k = j + 1 → ∃ c, l[j]? = some c ∧ isL c = b) ∧ Hid (x = if b then 0 else 0) ∧
      OwnB w.heap.size v acc wr ∧ Hid (acc ++ wrL 0 0 x (l.drop k) = wrL 0 0 0 l) ∧ Below w.heap.size w wr) (fun _ i _ => t.size - (intOf i).toNat)
    case atStart => exact ⟨0, 0, false, [], Nat.zero_le _, rfl, Lib.hid fun _ => rfl, Lib.hid fun j hj => by omega, Lib.hid rfl, h1.out _ rfl, Lib.hid rfl, hb0⟩
    case round =>
      clear h1 hb0
      obtain ⟨k, x, b, acc, hk, rfl, hk0, hk1, hx, hrow, hw, hb⟩ := hrel
      have hbs := hb.size
      have hal : acc.length ≤ 1000000 := by
        have h1 := HWL.out
        rw [← hw.out, List.length_append] at h1
        omega
      by_cases hlt : k < t.size
      · obtain ⟨c, hc1, hc2⟩ := drop_at (l := l) (k := k) (by omega)
        obtain ⟨hk2, hkc⟩ := HG.out k c hc1
        have HK0 : Hid (k + 1 = 0 → isL c = false) := Lib.hid fun e => by omega
        have HK1 : Hid (∀ j, k + 1 = j + 1 → ∃ d, l[j]? = some d ∧ isL d = isL c) := Lib.hid fun j e => ⟨c, by rw [← Nat.succ.inj e]; exact hc1, rfl⟩
        rw [hc2] at hw
        cases k with
        | zero =>
          obtain rfl := hk0.out rfl
          obtain rfl : x = 0 := hx.out
          have HN : Hid ((acc ++ [wayB 0 c]) ++ wrL 0 0 (nextW 0 0 c) (l.drop (0 + 1)) = wrL 0 0 0 l) := Lib.hid (by rw [← hw.out, wr_cons]; simp)
          have hU := Lib.hid (HU.out c)
          clear hc1 hc2 hk0 hk1 hw hx
          go_wp2_with fail
          refine (hU.out _).mono ?_
          rintro e w1 ⟨rfl, rfl⟩
          go_wp2_with (at_builtin; refine wpList_append_own _ rfl _ _ 47 rfl w.heap.size 5 i0 (.int .u8 0) 1 1 Tryd.underlying47 hi hz0 hz1 hz2 rfl (by decide) _ _ _ rfl (hrow.alloc _) ⟨_, 0, none⟩ 1 1 [.int .u8 ((wayB 0 c).toNat : Int)] rfl rfl (cell_one_new _ _ _) (one_cell _ rfl) (by unfold maxLen; omega) (by omega) (by simp; omega) ?_)
          intro v1 w2 hown1 hg1 _
          have hb3 := OwnB.below hrow hb (Nat.le_refl _) hg1
          have hrow1 := OwnB.snoc (wayB 0 c) _ rfl hown1
          clear hown1 hg1 hrow hb
          go_wp2
          go_roundw
          case rel => exact ⟨0 + 1, nextW 0 0 c, isL c, acc ++ [wayB 0 c], by omega, by go_num, HK0, HK1, Lib.hid rfl, hrow1, HN, hb3⟩
          case measure => first | (simp [intOf]; done) | (simp [intOf]; omega)
        | succ j =>
          obtain ⟨d, hd1, hd2⟩ := hk1.out j rfl
          obtain ⟨hj, hdj⟩ := HG.out j d hd1
          have hN := Lib.hid (HL.out d b hd2)
          clear hc1 hc2 hd1 hk0 hk1 hd2
          cases b
          · obtain rfl : x = 0 := hx.out
            have HN : Hid ((acc ++ [wayB 0 c]) ++ wrL 0 0 (nextW 0 0 c) (l.drop (j + 1 + 1)) = wrL 0 0 0 l) := Lib.hid (by rw [← hw.out, wr_cons]; simp)
            have hU := Lib.hid (HU.out c)
            clear hw hx
            go_wp2_with fail
            refine (hN.out _).mono ?_
            rintro e w1 ⟨rfl, rfl⟩
            go_wp2_with fail
            refine (hU.out _).mono ?_
            rintro e w1 ⟨rfl, rfl⟩
            go_wp2_with (at_builtin; refine wpList_append_own _ rfl _ _ 47 rfl w.heap.size 5 i0 (.int .u8 0) 1 1 Tryd.underlying47 hi hz0 hz1 hz2 rfl (by decide) _ _ _ rfl (hrow.alloc _) ⟨_, 0, none⟩ 1 1 [.int .u8 ((wayB 0 c).toNat : Int)] rfl rfl (cell_one_new _ _ _) (one_cell _ rfl) (by unfold maxLen; omega) (by omega) (by simp; omega) ?_)
            intro v1 w2 hown1 hg1 _
            have hb3 := OwnB.below hrow hb (Nat.le_refl _) hg1
            have hrow1 := OwnB.snoc (wayB 0 c) _ rfl hown1
            clear hown1 hg1 hrow hb
            go_wp2
            go_roundw
            case rel => exact ⟨(j + 1) + 1, nextW 0 0 c, isL c, acc ++ [wayB 0 c], by omega, by go_num, HK0, HK1, Lib.hid rfl, hrow1, HN, hb3⟩
            case measure => first | (simp [intOf]; done) | (simp [intOf]; omega)
          · obtain rfl : x = 0 := hx.out
            have HN : Hid ((acc ++ [wayB 0 c]) ++ wrL 0 0 (nextW 0 0 c) (l.drop (j + 1 + 1)) = wrL 0 0 0 l) := Lib.hid (by rw [← hw.out, wr_cons]; simp)
            have hU := Lib.hid (HU.out c)
            clear hw hx
            go_wp2_with fail
            refine (hN.out _).mono ?_
            rintro e w1 ⟨rfl, rfl⟩
            go_wp2_with fail
            refine (hU.out _).mono ?_
            rintro e w1 ⟨rfl, rfl⟩
            go_wp2_with (at_builtin; refine wpList_append_own _ rfl _ _ 47 rfl w.heap.size 5 i0 (.int .u8 0) 1 1 Tryd.underlying47 hi hz0 hz1 hz2 rfl (by decide) _ _ _ rfl (hrow.alloc _) ⟨_, 0, none⟩ 1 1 [.int .u8 ((wayB 0 c).toNat : Int)] rfl rfl (cell_one_new _ _ _) (one_cell _ rfl) (by unfold maxLen; omega) (by omega) (by simp; omega) ?_)
            intro v1 w2 hown1 hg1 _
            have hb3 := OwnB.below hrow hb (Nat.le_refl _) hg1
            have hrow1 := OwnB.snoc (wayB 0 c) _ rfl hown1
            clear hown1 hg1 hrow hb
            go_wp2
            go_roundw
            case rel => exact ⟨(j + 1) + 1, nextW 0 0 c, isL c, acc ++ [wayB 0 c], by omega, by go_num, HK0, HK1, Lib.hid rfl, hrow1, HN, hb3⟩
            case measure => first | (simp [intOf]; done) | (simp [intOf]; omega)
      · obtain rfl : k = t.size := by omega
        rw [← hl, List.drop_length] at hw
        have hx2 : acc = wrL 0 0 0 l := by rw [← hw.out]; exact (List.append_nil _).symm
        subst hx2
        have hconv := hrow.conv
        clear hw hx hk0 hk1 hrow
        go_wp2
        go_ret
        exact ⟨rfl, hb⟩
  · go_enter Tryd.func12, Tryd.ntmps12
    go_wp2
    go_loopw [5, 6] (fun v i wr => ∃ (k x : Nat) (b : Bool) (acc : List UInt8), k ≤ t.size ∧ i = .int .i64 k ∧ Hid (k = 0 → b = false) ∧ Hid (∀ j, k = j + 1 → ∃ c, l[j]? = some c ∧ isL c = b) ∧ Hid (x = if b then 1 else 1) ∧
      OwnB w.heap.size v acc wr ∧ Hid (acc ++ wrL 1 1 x (l.drop k) = wrL 1 1 1 l) ∧ Below w.heap.size w wr) (fun _ i _ => t.size - (intOf i).toNat)
    case atStart => exact ⟨0, 1, false, [], Nat.zero_le _, rfl, Lib.hid fun _ => rfl, Lib.hid fun j hj => by omega, Lib.hid rfl, h1.out _ rfl, Lib.hid rfl, hb0⟩
    case round =>
      clear h1 hb0
      obtain ⟨k, x, b, acc, hk, rfl, hk0, hk1, hx, hrow, hw, hb⟩ := hrel
      have hbs := hb.size
      have hal : acc.length ≤ 1000000 := by
        have h1 := HWL.out
        rw [← hw.out, List.length_append] at h1
        omega
      by_cases hlt : k < t.size
      · obtain ⟨c, hc1, hc2⟩ := drop_at (l := l) (k := k) (by omega)
        obtain ⟨hk2, hkc⟩ := HG.out k c hc1
        have HK0 : Hid (k + 1 = 0 → isL c = false) := Lib.hid fun e => by omega
        have HK1 : Hid (∀ j, k + 1 = j + 1 → ∃ d, l[j]? = some d ∧ isL d = isL c) := Lib.hid fun j e => ⟨c, by rw [← Nat.succ.inj e]; exact hc1, rfl⟩
        rw [hc2] at hw
        cases k with
        | zero =>
          obtain rfl := hk0.out rfl
          obtain rfl : x = 1 := hx.out
          have HN : Hid ((acc ++ [wayB 1 c]) ++ wrL 1 1 (nextW 1 1 c) (l.drop (0 + 1)) = wrL 1 1 1 l) := Lib.hid (by rw [← hw.out, wr_cons]; simp)
          have hU := Lib.hid (HD.out c)
          clear hc1 hc2 hk0 hk1 hw hx
          go_wp2_with fail
          refine (hU.out _).mono ?_
          rintro e w1 ⟨rfl, rfl⟩
          go_wp2_with (at_builtin; refine wpList_append_own _ rfl _ _ 47 rfl w.heap.size 5 i0 (.int .u8 0) 1 1 Tryd.underlying47 hi hz0 hz1 hz2 rfl (by decide) _ _ _ rfl (hrow.alloc _) ⟨_, 0, none⟩ 1 1 [.int .u8 ((wayB 1 c).toNat : Int)] rfl rfl (cell_one_new _ _ _) (one_cell _ rfl) (by unfold maxLen; omega) (by omega) (by simp; omega) ?_)
          intro v1 w2 hown1 hg1 _
          have hb3 := OwnB.below hrow hb (Nat.le_refl _) hg1
          have hrow1 := OwnB.snoc (wayB 1 c) _ rfl hown1
          clear hown1 hg1 hrow hb
          go_wp2
          go_roundw
          case rel => exact ⟨0 + 1, nextW 1 1 c, isL c, acc ++ [wayB 1 c], by omega, by go_num, HK0, HK1, Lib.hid rfl, hrow1, HN, hb3⟩
          case measure => first | (simp [intOf]; done) | (simp [intOf]; omega)
        | succ j =>
          obtain ⟨d, hd1, hd2⟩ := hk1.out j rfl
          obtain ⟨hj, hdj⟩ := HG.out j d hd1
          have hN := Lib.hid (HL.out d b hd2)
          clear hc1 hc2 hd1 hk0 hk1 hd2
          cases b
          · obtain rfl : x = 1 := hx.out
            have HN : Hid ((acc ++ [wayB 1 c]) ++ wrL 1 1 (nextW 1 1 c) (l.drop (j + 1 + 1)) = wrL 1 1 1 l) := Lib.hid (by rw [← hw.out, wr_cons]; simp)
            have hU := Lib.hid (HD.out c)
            clear hw hx
            go_wp2_with fail
            refine (hN.out _).mono ?_
            rintro e w1 ⟨rfl, rfl⟩
            go_wp2_with fail
            refine (hU.out _).mono ?_
            rintro e w1 ⟨rfl, rfl⟩
            go_wp2_with (at_builtin; refine wpList_append_own _ rfl _ _ 47 rfl w.heap.size 5 i0 (.int .u8 0) 1 1 Tryd.underlying47 hi hz0 hz1 hz2 rfl (by decide) _ _ _ rfl (hrow.alloc _) ⟨_, 0, none⟩ 1 1 [.int .u8 ((wayB 1 c).toNat : Int)] rfl rfl (cell_one_new _ _ _) (one_cell _ rfl) (by unfold maxLen; omega) (by omega) (by simp; omega) ?_)
            intro v1 w2 hown1 hg1 _
            have hb3 := OwnB.below hrow hb (Nat.le_refl _) hg1
            have hrow1 := OwnB.snoc (wayB 1 c) _ rfl hown1
            clear hown1 hg1 hrow hb
            go_wp2
            go_roundw
            case rel => exact ⟨(j + 1) + 1, nextW 1 1 c, isL c, acc ++ [wayB 1 c], by omega, by go_num, HK0, HK1, Lib.hid rfl, hrow1, HN, hb3⟩
            case measure => first | (simp [intOf]; done) | (simp [intOf]; omega)
          · obtain rfl : x = 1 := hx.out
            have HN : Hid ((acc ++ [wayB 1 c]) ++ wrL 1 1 (nextW 1 1 c) (l.drop (j + 1 + 1)) = wrL 1 1 1 l) := Lib.hid (by rw [← hw.out, wr_cons]; simp)
            have hU := Lib.hid (HD.out c)
            clear hw hx
            go_wp2_with fail
            refine (hN.out _).mono ?_
            rintro e w1 ⟨rfl, rfl⟩
            go_wp2_with fail
            refine (hU.out _).mono ?_
            rintro e w1 ⟨rfl, rfl⟩
            go_wp2_with (at_builtin; refine wpList_append_own _ rfl _ _ 47 rfl w.heap.size 5 i0 (.int .u8 0) 1 1 Tryd.underlying47 hi hz0 hz1 hz2 rfl (by decide) _ _ _ rfl (hrow.alloc _) ⟨_, 0, none⟩ 1 1 [.int .u8 ((wayB 1 c).toNat : Int)] rfl rfl (cell_one_new _ _ _) (one_cell _ rfl) (by unfold maxLen; omega) (by omega) (by simp; omega) ?_)
            intro v1 w2 hown1 hg1 _
            have hb3 := OwnB.below hrow hb (Nat.le_refl _) hg1
            have hrow1 := OwnB.snoc (wayB 1 c) _ rfl hown1
            clear hown1 hg1 hrow hb
            go_wp2
            go_roundw
            case rel => exact ⟨(j + 1) + 1, nextW 1 1 c, isL c, acc ++ [wayB 1 c], by omega, by go_num, HK0, HK1, Lib.hid rfl, hrow1, HN, hb3⟩
            case measure => first | (simp [intOf]; done) | (simp [intOf]; omega)
      · obtain rfl : k = t.size := by omega
        rw [← hl, List.drop_length] at hw
        have hx2 : acc = wrL 1 1 1 l := by rw [← hw.out]; exact (List.append_nil _).symm
        subst hx2
        have hconv := hrow.conv
        clear hw hx hk0 hk1 hrow
        go_wp2
        go_ret
        exact ⟨rfl, hb⟩
  · go_enter Tryd.func12, Tryd.ntmps12
    go_wp2
    go_loopw [5, 6] (fun v i wr => ∃ (k x : Nat) (b : Bool) (acc : List UInt8), k ≤ t.size ∧ i = .int .i64 k ∧ Hid (k = 0 → b = false) ∧ Hid (∀ j, k = j + 1 → ∃ c, l[j]? = some c ∧ isL c = b) ∧ Hid (x = if b then 1 else 0) ∧
      OwnB w.heap.size v acc wr ∧ Hid (acc ++ wrL 0 1 x (l.drop k) = wrL 0 1 0 l) ∧ Below w.heap.size w wr) (fun _ i _ => t.size - (intOf i).toNat)
    case atStart => exact ⟨0, 0, false, [], Nat.zero_le _, rfl, Lib.hid fun _ => rfl, Lib.hid fun j hj => by omega, Lib.hid rfl, h1.out _ rfl, Lib.hid rfl, hb0⟩
    case round =>
      clear h1 hb0
      obtain ⟨k, x, b, acc, hk, rfl, hk0, hk1, hx, hrow, hw, hb⟩ := hrel
      have hbs := hb.size
      have hal : acc.length ≤ 1000000 := by
        have h1 := HWL.out
        rw [← hw.out, List.length_append] at h1
        omega
      by_cases hlt : k < t.size
      · obtain ⟨c, hc1, hc2⟩ := drop_at (l := l) (k := k) (by omega)
        obtain ⟨hk2, hkc⟩ := HG.out k c hc1
        have HK0 : Hid (k + 1 = 0 → isL c = false) := Lib.hid fun e => by omega
        have HK1 : Hid (∀ j, k + 1 = j + 1 → ∃ d, l[j]? = some d ∧ isL d = isL c) := Lib.hid fun j e => ⟨c, by rw [← Nat.succ.inj e]; exact hc1, rfl⟩
        rw [hc2] at hw
        cases k with
        | zero =>
          obtain rfl := hk0.out rfl
          obtain rfl : x = 0 := hx.out
          have HN : Hid ((acc ++ [wayB 0 c]) ++ wrL 0 1 (nextW 0 1 c) (l.drop (0 + 1)) = wrL 0 1 0 l) := Lib.hid (by rw [← hw.out, wr_cons]; simp)
          have hU := Lib.hid (HU.out c)
          clear hc1 hc2 hk0 hk1 hw hx
          go_wp2_with fail
          refine (hU.out _).mono ?_
          rintro e w1 ⟨rfl, rfl⟩
          go_wp2_with (at_builtin; refine wpList_append_own _ rfl _ _ 47 rfl w.heap.size 5 i0 (.int .u8 0) 1 1 Tryd.underlying47 hi hz0 hz1 hz2 rfl (by decide) _ _ _ rfl (hrow.alloc _) ⟨_, 0, none⟩ 1 1 [.int .u8 ((wayB 0 c).toNat : Int)] rfl rfl (cell_one_new _ _ _) (one_cell _ rfl) (by unfold maxLen; omega) (by omega) (by simp; omega) ?_)
          intro v1 w2 hown1 hg1 _
          have hb3 := OwnB.below hrow hb (Nat.le_refl _) hg1
          have hrow1 := OwnB.snoc (wayB 0 c) _ rfl hown1
          clear hown1 hg1 hrow hb
          go_wp2
          go_roundw
          case rel => exact ⟨0 + 1, nextW 0 1 c, isL c, acc ++ [wayB 0 c], by omega, by go_num, HK0, HK1, Lib.hid rfl, hrow1, HN, hb3⟩
          case measure => first | (simp [intOf]; done) | (simp [intOf]; omega)
        | succ j =>
          obtain ⟨d, hd1, hd2⟩ := hk1.out j rfl
          obtain ⟨hj, hdj⟩ := HG.out j d hd1
          have hN := Lib.hid (HL.out d b hd2)
          clear hc1 hc2 hd1 hk0 hk1 hd2
          cases b
          · obtain rfl : x = 0 := hx.out
            have HN : Hid ((acc ++ [wayB 0 c]) ++ wrL 0 1 (nextW 0 1 c) (l.drop (j + 1 + 1)) = wrL 0 1 0 l) := Lib.hid (by rw [← hw.out, wr_cons]; simp)
            have hU := Lib.hid (HU.out c)
            clear hw hx
            go_wp2_with fail
            refine (hN.out _).mono ?_
            rintro e w1 ⟨rfl, rfl⟩
            go_wp2_with fail
            refine (hU.out _).mono ?_
            rintro e w1 ⟨rfl, rfl⟩
            go_wp2_with (at_builtin; refine wpList_append_own _ rfl _ _ 47 rfl w.heap.size 5 i0 (.int .u8 0) 1 1 Tryd.underlying47 hi hz0 hz1 hz2 rfl (by decide) _ _ _ rfl (hrow.alloc _) ⟨_, 0, none⟩ 1 1 [.int .u8 ((wayB 0 c).toNat : Int)] rfl rfl (cell_one_new _ _ _) (one_cell _ rfl) (by unfold maxLen; omega) (by omega) (by simp; omega) ?_)
            intro v1 w2 hown1 hg1 _
            have hb3 := OwnB.below hrow hb (Nat.le_refl _) hg1
            have hrow1 := OwnB.snoc (wayB 0 c) _ rfl hown1
            clear hown1 hg1 hrow hb
            go_wp2
            go_roundw
            case rel => exact ⟨(j + 1) + 1, nextW 0 1 c, isL c, acc ++ [wayB 0 c], by omega, by go_num, HK0, HK1, Lib.hid rfl, hrow1, HN, hb3⟩
            case measure => first | (simp [intOf]; done) | (simp [intOf]; omega)
          · obtain rfl : x = 1 := hx.out
            have HN : Hid ((acc ++ [wayB 1 c]) ++ wrL 0 1 (nextW 0 1 c) (l.drop (j + 1 + 1)) = wrL 0 1 0 l) := Lib.hid (by rw [← hw.out, wr_cons]; simp)
            have hU := Lib.hid (HD.out c)
            clear hw hx
            go_wp2_with fail
            refine (hN.out _).mono ?_
            rintro e w1 ⟨rfl, rfl⟩
            go_wp2_with fail
            refine (hU.out _).mono ?_
            rintro e w1 ⟨rfl, rfl⟩
            go_wp2_with (at_builtin; refine wpList_append_own _ rfl _ _ 47 rfl w.heap.size 5 i0 (.int .u8 0) 1 1 Tryd.underlying47 hi hz0 hz1 hz2 rfl (by decide) _ _ _ rfl (hrow.alloc _) ⟨_, 0, none⟩ 1 1 [.int .u8 ((wayB 1 c).toNat : Int)] rfl rfl (cell_one_new _ _ _) (one_cell _ rfl) (by unfold maxLen; omega) (by omega) (by simp; omega) ?_)
            intro v1 w2 hown1 hg1 _
            have hb3 := OwnB.below hrow hb (Nat.le_refl _) hg1
            have hrow1 := OwnB.snoc (wayB 1 c) _ rfl hown1
            clear hown1 hg1 hrow hb
            go_wp2
            go_roundw
            case rel => exact ⟨(j + 1) + 1, nextW 0 1 c, isL c, acc ++ [wayB 1 c], by omega, by go_num, HK0, HK1, Lib.hid rfl, hrow1, HN, hb3⟩
            case measure => first | (simp [intOf]; done) | (simp [intOf]; omega)
      · obtain rfl : k = t.size := by omega
        rw [← hl, List.drop_length] at hw
        have hx2 : acc = wrL 0 1 0 l := by rw [← hw.out]; exact (List.append_nil _).symm
        subst hx2
        have hconv := hrow.conv
        clear hw hx hk0 hk1 hrow
        go_wp2
        go_ret
        exact ⟨rfl, hb⟩
end Go.Proofs.YtckcoogmfgegeaaDoor.Txt
