/- What the reference's Trim answers: for every text of at most a million bytes. -/
import Derived.Test.YtckcoogmfgegeaaDoorTxtTurn
namespace Go.Proofs.YtckcoogmfgegeaaDoor.Txt
open Go.RowKit Kit Reg

theorem own_slice {B : Nat} {v : Value} {l : List UInt8} {w : World} (h : OwnB B v l w) : ∃ A cap, v = .slice A l.length cap ∧ l.length ≤ cap := by
  rcases h.2 with ⟨rfl, h1⟩ | ⟨g, cap, cur, rfl, hb, hg, hcap, hrest⟩
  · exact ⟨_, _, by rw [h1], by omega⟩
  · exact ⟨_, _, rfl, hcap⟩
theorem blank_bool (d : UInt8) : ((d.toNat : Int) == 32) = (d == 32) := by
  rw [Bool.eq_iff_iff, beq_iff_eq, beq_iff_eq]
  constructor
  · intro h
    exact UInt8.toNat_inj.1 (by have : (32 : UInt8).toNat = 32 := rfl
                                omega)
  · rintro rfl; rfl
set_option maxRecDepth 100000 in
set_option maxHeartbeats 4000000 in
theorem rtrim_c (t : ByteArray) (l : List UInt8) (hs : t.data.toList = l) (h9 : t.size ≤ 1000000) (w : World) :
    Calls Tryd.prog 13 #[.string t] w fun e w' => e = .returned (.string ⟨(trimL l).toArray⟩) ∧ Below w.heap.size w w' := by
  obtain ⟨i0, hi, hz0, hz1, hz2⟩ := info_parts infoB
  have h1 := Lib.hid (fun o => own_lit w o w.heap.size (Nat.le_refl _))
  have hb0 := below1 w (.cells #[] 5)
  have hl : l.length = t.size := by rw [← hs, len]
  have HG : Hid (∀ (k : Nat) (c : UInt8), l[k]? = some c → ∃ hk : k < t.size, t[k] = c) := Lib.hid fun k c h => get_byte hs h
  have HWL := Lib.hid (trR_len l 32)
  clear hs
  go_enter Tryd.func13, Tryd.ntmps13
  go_wp2
  go_loopw [3, 4] (fun v i wr => ∃ (k : Nat) (x : UInt8) (acc : List UInt8), k ≤ t.size ∧ i = .int .i64 k ∧ Hid (k = 0 → acc = []) ∧ Hid (∀ j, k = j + 1 → l[j]? = some x) ∧ Hid (acc = [] → x = 32) ∧
    OwnB w.heap.size v acc wr ∧ Hid (acc ++ trR x (l.drop k) = trR 32 l) ∧ Below w.heap.size w wr) (fun _ i _ => t.size - (intOf i).toNat)
  case atStart => exact ⟨0, 32, [], Nat.zero_le _, rfl, Lib.hid fun _ => rfl, Lib.hid fun j hj => by omega, Lib.hid fun _ => rfl, h1.out _ rfl, Lib.hid rfl, hb0⟩
  case round =>
    clear h1 hb0
    obtain ⟨k, x, acc, hk, rfl, hk0, hk1, hx, hrow, hw, hb⟩ := hrel
    have hbs := hb.size
    have hal : acc.length ≤ 1000000 := by
      have h1 := HWL.out
      rw [← hw.out, List.length_append] at h1
      omega
    by_cases hlt : k < t.size
    · obtain ⟨c, hc1, hc2⟩ := drop_at (l := l) (k := k) (by omega)
      obtain ⟨hk2, hkc⟩ := HG.out k c hc1
      have HK1 : Hid (∀ j, k + 1 = j + 1 → l[j]? = some c) := Lib.hid fun j e => by rw [← Nat.succ.inj e]; exact hc1
      by_cases hcc : (c.toNat : Int) = 32
      · have hc32 : c = 32 := UInt8.toNat_inj.1 (by have : (32 : UInt8).toNat = 32 := rfl
                                                    omega)
        have q1 : ((c.toNat : Int) == 32) = true := by simpa using hcc
        have q2 : ((c.toNat : Int) != 32) = false := by simp [bne, q1]
        obtain ⟨ab, hab⟩ : ∃ ab, allB (l.drop k) = ab := ⟨_, rfl⟩
        have hab2 : allB (l.drop (k + 1)) = ab := by rw [← hab, hc2, allB_cons, hc32]; simp
        have HAB := Lib.hid hab
        have HAB2 := Lib.hid hab2
        have HC2 := Lib.hid hc2
        have HC32 := Lib.hid hc32
        clear hab hab2 hc1 hc2 hc32 hcc
        go_wp2
        go_loopw [5, 6] (fun bv m w' => ∃ (p : Nat) (b : Bool), p ≤ t.size ∧ m = .int .i64 p ∧ bv = .bool b ∧ Hid ((b && allB (l.drop p)) = ab) ∧ w' = wr) (fun _ m _ => t.size - (intOf m).toNat)
        case atStart => exact ⟨k, true, by omega, rfl, rfl, Lib.hid (by rw [HAB.out]; rfl), rfl⟩
        case round =>
          obtain ⟨p, b, hp, rfl, rfl, hpb, rfl⟩ := hrel
          by_cases hlt2 : p < t.size
          · obtain ⟨d, hd1, hd2⟩ := drop_at (l := l) (k := p) (by omega)
            obtain ⟨hp2, hpd⟩ := HG.out p d hd1
            cases b
            · have HN : Hid ((false && allB (l.drop (p + 1))) = ab) := Lib.hid (by rw [← hpb.out]; rfl)
              clear hd1 hd2 hpb
              go_wp2
              go_roundw
              case rel => exact ⟨p + 1, false, by omega, by go_num, rfl, HN, by first | rfl | trivial⟩
              case measure => first | (simp [intOf]; done) | (simp [intOf]; omega)
            · have HN : Hid (((d == 32) && allB (l.drop (p + 1))) = ab) := Lib.hid (by rw [← hpb.out, hd2, allB_cons]; rfl)
              have hbb := blank_bool d
              generalize (d == 32) = b2 at *
              clear hd1 hd2 hpb
              go_wp2
              go_roundw
              case rel => exact ⟨p + 1, b2, by omega, by go_num, rfl, HN, by first | rfl | trivial⟩
              case measure => first | (simp [intOf]; done) | (simp [intOf]; omega)
          · obtain rfl : p = t.size := by omega
            obtain rfl : b = ab := by have h := hpb.out; rw [← hl, List.drop_length] at h; simpa [allB] using h
            clear hpb HAB
            obtain ⟨A, cap, rfl, hcap⟩ := own_slice hrow
            by_cases hacc : acc = []
            · have hx32 := hx.out hacc
              have HN : Hid (acc ++ trR c (l.drop (k + 1)) = trR 32 l) := Lib.hid (by rw [← hw.out, HC2.out, trR_cons, if_pos HC32.out, if_neg (fun e => e.1 hx32)]; rfl)
              have d1 : acc.length = 0 := by rw [hacc]; rfl
              have HA := Lib.hid hacc
              clear hacc hx32 hk0 hk1 hw hx HC2 HAB2 hcap
              go_wp2
              go_roundw
              case rel => exact ⟨k + 1, c, acc, by omega, by go_num, Lib.hid fun e => by omega, HK1, Lib.hid fun _ => HC32.out, hrow, HN, hb⟩
              case measure => first | (simp [intOf]; done) | (simp [intOf]; omega)
            · obtain ⟨j, rfl⟩ : ∃ j, k = j + 1 := ⟨k - 1, by have : k ≠ 0 := fun e => hacc (hk0.out e); omega⟩
              obtain ⟨hj, hjx⟩ := HG.out j x (hk1.out j rfl)
              have d0 := List.length_pos_iff.2 hacc
              have d1 : decide (0 < acc.length) = true := decide_eq_true d0
              have d2 : decide ((0 : Int) < (acc.length : Int)) = true := decide_eq_true (by omega)
              cases b
              · by_cases hx3 : (x.toNat : Int) = 32
                · have hx32 : x = 32 := UInt8.toNat_inj.1 (by have : (32 : UInt8).toNat = 32 := rfl
                                                              omega)
                  have q3 : ((x.toNat : Int) == 32) = true := by simpa using hx3
                  have q4 : ((x.toNat : Int) != 32) = false := by simp [bne, q3]
                  have HN : Hid (acc ++ trR c (l.drop (j + 1 + 1)) = trR 32 l) := Lib.hid (by rw [← hw.out, HC2.out, trR_cons, if_pos HC32.out, if_neg (fun e => e.1 hx32)]; rfl)
                  clear hacc hx32 hx3 hk0 hk1 hw hx HC2 HAB2 hcap
                  go_wp2
                  go_roundw
                  case rel => exact ⟨j + 1 + 1, c, acc, by omega, by go_num, Lib.hid fun e => by omega, HK1, Lib.hid fun _ => HC32.out, hrow, HN, hb⟩
                  case measure => first | (simp [intOf]; done) | (simp [intOf]; omega)
                · have hx32 : x ≠ 32 := fun e => hx3 (by rw [e]; rfl)
                  have q3 : ((x.toNat : Int) == 32) = false := by simpa using hx3
                  have q4 : ((x.toNat : Int) != 32) = true := by simp [bne, q3]
                  have HN : Hid ((acc ++ [32]) ++ trR c (l.drop (j + 1 + 1)) = trR 32 l) := Lib.hid (by rw [← hw.out, HC2.out, trR_cons, if_pos HC32.out, if_pos ⟨hx32, HAB2.out⟩]; simp)
                  clear hacc hx32 hx3 hk0 hk1 hw hx HC2 HAB2 hcap
                  go_wp2_with (at_builtin; refine wpList_append_own _ rfl _ _ 47 rfl w.heap.size 5 i0 (.int .u8 0) 1 1 Tryd.underlying47 hi hz0 hz1 hz2 rfl (by decide) _ _ _ rfl (hrow.alloc _) ⟨_, 0, none⟩ 1 1 [.int .u8 32] rfl rfl (cell_one_new _ _ _) (one_cell _ rfl) (by unfold maxLen; omega) (by omega) (by simp; omega) ?_)
                  intro v1 w2 hown1 hg1 _
                  have hb3 := OwnB.below hrow hb (Nat.le_refl _) hg1
                  have hrow1 := OwnB.snoc 32 _ rfl hown1
                  clear hown1 hg1 hrow hb
                  go_wp2
                  go_roundw
                  case rel => exact ⟨j + 1 + 1, c, acc ++ [32], by omega, by go_num, Lib.hid fun e => by omega, HK1, Lib.hid fun _ => HC32.out, hrow1, HN, hb3⟩
                  case measure => first | (simp [intOf]; done) | (simp [intOf]; omega)
              · have HN : Hid (acc ++ trR c (l.drop (j + 1 + 1)) = trR 32 l) := Lib.hid (by rw [← hw.out, HC2.out, trR_cons, if_pos HC32.out, if_neg (fun e => by have := e.2; rw [HAB2.out] at this; cases this)]; rfl)
                clear hacc hk0 hk1 hw hx HC2 HAB2 hcap
                go_wp2
                go_roundw
                case rel => exact ⟨j + 1 + 1, c, acc, by omega, by go_num, Lib.hid fun e => by omega, HK1, Lib.hid fun _ => HC32.out, hrow, HN, hb⟩
                case measure => first | (simp [intOf]; done) | (simp [intOf]; omega)
      · have hc32 : c ≠ 32 := fun e => hcc (by rw [e]; rfl)
        have q1 : ((c.toNat : Int) == 32) = false := by simpa using hcc
        have q2 : ((c.toNat : Int) != 32) = true := by simp [bne, q1]
        have HN : Hid ((acc ++ [c]) ++ trR c (l.drop (k + 1)) = trR 32 l) := Lib.hid (by rw [← hw.out, hc2, trR_cons, if_neg hc32]; simp)
        have HX : Hid (acc ++ [c] = [] → c = 32) := Lib.hid fun e => by simp at e
        clear hcc hc32 hk0 hk1 hx hw hc1 hc2
        go_wp2_with (at_builtin; refine wpList_append_own _ rfl _ _ 47 rfl w.heap.size 5 i0 (.int .u8 0) 1 1 Tryd.underlying47 hi hz0 hz1 hz2 rfl (by decide) _ _ _ rfl (hrow.alloc _) ⟨_, 0, none⟩ 1 1 [.int .u8 (c.toNat : Int)] rfl rfl (cell_one_new _ _ _) (one_cell _ rfl) (by unfold maxLen; omega) (by omega) (by simp; omega) ?_)
        intro v1 w2 hown1 hg1 _
        have hb3 := OwnB.below hrow hb (Nat.le_refl _) hg1
        have hrow1 := OwnB.snoc c _ rfl hown1
        clear hown1 hg1 hrow hb
        go_wp2
        go_roundw
        case rel => exact ⟨k + 1, c, acc ++ [c], by omega, by go_num, Lib.hid fun e => by omega, HK1, HX, hrow1, HN, hb3⟩
        case measure => first | (simp [intOf]; done) | (simp [intOf]; omega)
    · obtain rfl : k = t.size := by omega
      rw [← hl, List.drop_length] at hw
      have hx2 : acc = trR 32 l := by rw [← hw.out]; exact (List.append_nil _).symm
      subst hx2
      have hconv := hrow.conv
      clear hw hx hk0 hk1 hrow
      go_wp2
      go_ret
      exact ⟨rfl, hb⟩
end Go.Proofs.YtckcoogmfgegeaaDoor.Txt
