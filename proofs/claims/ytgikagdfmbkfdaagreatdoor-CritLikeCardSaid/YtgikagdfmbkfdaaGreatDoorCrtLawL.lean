/- What the statement CritLike answers: yes, for every three texts. -/
import Derived.Test.YtgikagdfmbkfdaaGreatDoorCrtLawO
namespace Go.Proofs.YtgikagdfmbkfdaaGreatDoor.Crt
open Go.RowKit Kit Reg Dec Dig Val

/-- a pattern without stars and marks -/
def plainL (l : List UInt8) : Bool := l.all fun c => c != 42 && c != 63
theorem plain_snoc {l : List UInt8} {k : Nat} {c : UInt8} (h : l[k]? = some c) : plainL (l.take (k + 1)) = (plainL (l.take k) && (c != 42 && c != 63)) := by
  rw [take_snoc h]
  simp [plainL]
theorem plain_fit {p t : List UInt8} (h : plainL p = true) : fitL p t = decide (p = t) := by
  rw [Bool.eq_iff_iff, decide_eq_true_iff]
  refine fit_plain (fun c hc => ?_)
  have h1 := List.all_eq_true.1 h c hc
  simpa using h1
set_option maxRecDepth 100000 in
set_option maxHeartbeats 1000000 in
theorem like_law_long (p t m : ByteArray) (h : 60 < p.size ∨ (p.size ≤ 60 ∧ 60 < t.size) ∨ (p.size ≤ 60 ∧ t.size ≤ 60 ∧ 60 < m.size)) (w : World) (hL : CLibs w) :
    Calls Tryz.prog 4 #[.string p, .string t, .string m] w (LawEnd w) := by
  have HA := Lib.hid (fun w1 h => alive_c trims_stars w1 h)
  have HL := Lib.hid hL
  clear hL
  rcases h with h1 | ⟨h1, h2⟩ | ⟨h1, h2, h3⟩
  all_goals
    go_enter Tryz.func4, Tryz.ntmps4
    go_wp2_with fail
    refine (HA.out _ HL.out).mono ?_
    rintro e w9 ⟨rfl, hb9⟩
    go_wp2
    go_ret
    exact ⟨rfl, hb9⟩
set_option maxRecDepth 100000 in
set_option maxHeartbeats 4000000 in
theorem like_law_small (p t m : ByteArray) (h1 : p.size ≤ 60) (h2 : t.size ≤ 60) (h3 : m.size ≤ 60) (r : Bool) (hr : fitL p.data.toList t.data.toList = r) (w : World) (hL : CLibs w) :
    Calls Tryz.prog 4 #[.string p, .string t, .string m] w (LawEnd w) := by
  have HA := Lib.hid (fun w1 h => alive_c trims_stars w1 h)
  have HL := Lib.hid hL
  have H1 := Lib.hid (fun w1 => like_c trims_stars p t (by omega) (by omega) r hr w1)
  have H2 := Lib.hid (fun w1 => rlike_c p t (by omega) (by omega) r hr w1)
  have H3 : Hid (r = true → ∀ w1, Calls Tryz.prog 11 #[.string (p ++ ⟨#[42]⟩), .string (t ++ m)] w1 (Bit true w1)) := Lib.hid (fun e w1 => like_c trims_stars _ _ (by rw [ByteArray.size_append]; show p.size + 1 ≤ _; omega) (by rw [ByteArray.size_append]; omega) true (by rw [cat_data, cat_data]; exact fit_behind _ (hr.trans e)) w1)
  have H4 : Hid (r = true → ∀ w1, Calls Tryz.prog 11 #[.string (⟨#[42]⟩ ++ p), .string (m ++ t)] w1 (Bit true w1)) := Lib.hid (fun e w1 => like_c trims_stars _ _ (by rw [ByteArray.size_append]; show 1 + p.size ≤ _; omega) (by rw [ByteArray.size_append]; omega) true (by rw [cat_data, cat_data]; exact fit_ahead _ (hr.trans e)) w1)
  have HP := Lib.hid (fun k x h => like_at p k x h)
  have HLP := Lib.hid (len p)
  have HE : Hid (plainL p.data.toList = true → (p.toList == t.toList) = r) := Lib.hid (fun h => by
    rw [← hr, plain_fit h, Lib.toList_data, Lib.toList_data, Bool.eq_iff_iff]
    simp)
  clear hL hr
  cases r
  · clear H3 H4
    go_enter Tryz.func4, Tryz.ntmps4
    go_wp2_with fail
    refine (H1.out _).mono ?_
    rintro e w1 ⟨rfl, hb1⟩
    clear H1
    go_wp2_with fail
    refine (H2.out _).mono ?_
    rintro e w2 ⟨rfl, hb2⟩
    replace hb1 := on hb1 hb2
    clear H2 hb2
    go_wp2
    go_loopw [8, 9, 55] (fun z _ i wr => ∃ k : Nat, k ≤ p.size ∧ i = .int .i64 k ∧ z = .bool (plainL (p.data.toList.take k)) ∧ Below w.heap.size w wr) (fun _ _ i _ => p.size - (intOf i).toNat)
    case atStart => exact ⟨0, by omega, rfl, rfl, hb1⟩
    case round =>
      clear hb1
      obtain ⟨k, hk, rfl, rfl, hb⟩ := hrel
      by_cases hlt : k < p.size
      · obtain ⟨c, hc⟩ : ∃ c, p.data.toList[k]? = some c := ⟨_, List.getElem?_eq_getElem (by rw [HLP.out]; exact hlt)⟩
        obtain ⟨hkp, hcp⟩ := HP.out k c hc
        have hn := plain_snoc hc
        generalize plainL (p.data.toList.take k) = z at *
        cases z
        · have HN : Hid (plainL (p.data.toList.take (k + 1)) = false) := Lib.hid hn
          clear hn hc HP HLP HE HA HL
          go_wp2
          go_roundw
          case rel => exact ⟨k + 1, by omega, by go_num, by rw [HN.out], hb⟩
          case measure => simp [intOf]; omega
        · by_cases h42 : c = 42
          · have HN : Hid (plainL (p.data.toList.take (k + 1)) = false) := Lib.hid (by rw [hn, h42]; rfl)
            have q1 : ((c.toNat : Int) != 42) = false := by rw [h42]; rfl
            have q2 : ((c.toNat : Int) == 42) = true := by rw [h42]; rfl
            clear hn hc HP HLP HE HA HL h42
            go_wp2
            go_roundw
            case rel => exact ⟨k + 1, by omega, by go_num, by rw [HN.out], hb⟩
            case measure => simp [intOf]; omega
          · have q1 : ((c.toNat : Int) == 42) = false := by
              rw [beq_eq_false_iff_ne]
              intro e
              exact h42 ((byte_eq (n := 42) (by omega)).1 e)
            have q2 : ((c.toNat : Int) != 42) = true := by simp only [bne, q1]; rfl
            by_cases h63 : c = 63
            · have HN : Hid (plainL (p.data.toList.take (k + 1)) = false) := Lib.hid (by rw [hn, h63]; rfl)
              have q3 : ((c.toNat : Int) != 63) = false := by rw [h63]; rfl
              have q4 : ((c.toNat : Int) == 63) = true := by rw [h63]; rfl
              clear hn hc HP HLP HE HA HL h42 h63
              go_wp2
              go_roundw
              case rel => exact ⟨k + 1, by omega, by go_num, by rw [HN.out], hb⟩
              case measure => simp [intOf]; omega
            · have HN : Hid (plainL (p.data.toList.take (k + 1)) = true) := Lib.hid (by rw [hn]; simp [h42, h63])
              have q3 : ((c.toNat : Int) == 63) = false := by
                rw [beq_eq_false_iff_ne]
                intro e
                exact h63 ((byte_eq (n := 63) (by omega)).1 e)
              have q4 : ((c.toNat : Int) != 63) = true := by simp only [bne, q3]; rfl
              clear hn hc HP HLP HE HA HL h42 h63
              go_wp2
              go_roundw
              case rel => exact ⟨k + 1, by omega, by go_num, by rw [HN.out], hb⟩
              case measure => simp [intOf]; omega
      · obtain rfl : k = p.size := by omega
        rw [List.take_of_length_le (by rw [HLP.out]; omega)]
        have HL1 := Lib.hid (HL.out.grown hb)
        cases hz : plainL p.data.toList
        · clear hz HP HLP HE HL
          go_wp2_with fail
          refine (HA.out _ HL1.out).mono ?_
          rintro e w9 ⟨rfl, hb9⟩
          go_wp2
          go_ret
          exact ⟨rfl, on hb hb9⟩
        · have hq := HE.out hz
          clear hz HP HLP HE HL
          go_wp2_with fail
          refine (HA.out _ HL1.out).mono ?_
          rintro e w9 ⟨rfl, hb9⟩
          go_wp2
          go_ret
          exact ⟨rfl, on hb hb9⟩
  · replace H3 := Lib.hid (H3.out rfl)
    replace H4 := Lib.hid (H4.out rfl)
    go_enter Tryz.func4, Tryz.ntmps4
    go_wp2_with fail
    refine (H1.out _).mono ?_
    rintro e w1 ⟨rfl, hb1⟩
    clear H1
    go_wp2_with fail
    refine (H2.out _).mono ?_
    rintro e w2 ⟨rfl, hb2⟩
    replace hb1 := on hb1 hb2
    clear H2 hb2
    go_wp2_with fail
    refine (H3.out _).mono ?_
    rintro e w3 ⟨rfl, hb2⟩
    replace hb1 := on hb1 hb2
    clear H3 hb2
    go_wp2_with fail
    refine (H4.out _).mono ?_
    rintro e w4 ⟨rfl, hb2⟩
    replace hb1 := on hb1 hb2
    clear H4 hb2
    go_wp2
    go_loopw [8, 9, 55] (fun z _ i wr => ∃ k : Nat, k ≤ p.size ∧ i = .int .i64 k ∧ z = .bool (plainL (p.data.toList.take k)) ∧ Below w.heap.size w wr) (fun _ _ i _ => p.size - (intOf i).toNat)
    case atStart => exact ⟨0, by omega, rfl, rfl, hb1⟩
    case round =>
      clear hb1
      obtain ⟨k, hk, rfl, rfl, hb⟩ := hrel
      by_cases hlt : k < p.size
      · obtain ⟨c, hc⟩ : ∃ c, p.data.toList[k]? = some c := ⟨_, List.getElem?_eq_getElem (by rw [HLP.out]; exact hlt)⟩
        obtain ⟨hkp, hcp⟩ := HP.out k c hc
        have hn := plain_snoc hc
        generalize plainL (p.data.toList.take k) = z at *
        cases z
        · have HN : Hid (plainL (p.data.toList.take (k + 1)) = false) := Lib.hid hn
          clear hn hc HP HLP HE HA HL
          go_wp2
          go_roundw
          case rel => exact ⟨k + 1, by omega, by go_num, by rw [HN.out], hb⟩
          case measure => simp [intOf]; omega
        · by_cases h42 : c = 42
          · have HN : Hid (plainL (p.data.toList.take (k + 1)) = false) := Lib.hid (by rw [hn, h42]; rfl)
            have q1 : ((c.toNat : Int) != 42) = false := by rw [h42]; rfl
            have q2 : ((c.toNat : Int) == 42) = true := by rw [h42]; rfl
            clear hn hc HP HLP HE HA HL h42
            go_wp2
            go_roundw
            case rel => exact ⟨k + 1, by omega, by go_num, by rw [HN.out], hb⟩
            case measure => simp [intOf]; omega
          · have q1 : ((c.toNat : Int) == 42) = false := by
              rw [beq_eq_false_iff_ne]
              intro e
              exact h42 ((byte_eq (n := 42) (by omega)).1 e)
            have q2 : ((c.toNat : Int) != 42) = true := by simp only [bne, q1]; rfl
            by_cases h63 : c = 63
            · have HN : Hid (plainL (p.data.toList.take (k + 1)) = false) := Lib.hid (by rw [hn, h63]; rfl)
              have q3 : ((c.toNat : Int) != 63) = false := by rw [h63]; rfl
              have q4 : ((c.toNat : Int) == 63) = true := by rw [h63]; rfl
              clear hn hc HP HLP HE HA HL h42 h63
              go_wp2
              go_roundw
              case rel => exact ⟨k + 1, by omega, by go_num, by rw [HN.out], hb⟩
              case measure => simp [intOf]; omega
            · have HN : Hid (plainL (p.data.toList.take (k + 1)) = true) := Lib.hid (by rw [hn]; simp [h42, h63])
              have q3 : ((c.toNat : Int) == 63) = false := by
                rw [beq_eq_false_iff_ne]
                intro e
                exact h63 ((byte_eq (n := 63) (by omega)).1 e)
              have q4 : ((c.toNat : Int) != 63) = true := by simp only [bne, q3]; rfl
              clear hn hc HP HLP HE HA HL h42 h63
              go_wp2
              go_roundw
              case rel => exact ⟨k + 1, by omega, by go_num, by rw [HN.out], hb⟩
              case measure => simp [intOf]; omega
      · obtain rfl : k = p.size := by omega
        rw [List.take_of_length_le (by rw [HLP.out]; omega)]
        have HL1 := Lib.hid (HL.out.grown hb)
        cases hz : plainL p.data.toList
        · clear hz HP HLP HE HL
          go_wp2_with fail
          refine (HA.out _ HL1.out).mono ?_
          rintro e w9 ⟨rfl, hb9⟩
          go_wp2
          go_ret
          exact ⟨rfl, on hb hb9⟩
        · have hq := HE.out hz
          clear hz HP HLP HE HL
          go_wp2_with fail
          refine (HA.out _ HL1.out).mono ?_
          rintro e w9 ⟨rfl, hb9⟩
          go_wp2
          go_ret
          exact ⟨rfl, on hb hb9⟩
theorem like_law (p t m : ByteArray) (w : World) (hL : CLibs w) : Calls Tryz.prog 4 #[.string p, .string t, .string m] w (LawEnd w) := by
  by_cases h1 : p.size ≤ 60
  · by_cases h2 : t.size ≤ 60
    · by_cases h3 : m.size ≤ 60
      · exact like_law_small p t m h1 h2 h3 _ rfl w hL
      · exact like_law_long p t m (.inr (.inr ⟨h1, h2, by omega⟩)) w hL
    · exact like_law_long p t m (.inr (.inl ⟨h1, by omega⟩)) w hL
  · exact like_law_long p t m (.inl (by omega)) w hL
end Go.Proofs.YtgikagdfmbkfdaaGreatDoor.Crt
