/- What package crit's fits and Like answer: for every pattern and every text of at most a thousand bytes. -/
import Derived.Test.YtgikagdfmbkfdaaGreatDoorCrtMath
import Derived.Test.YtgikagdfmbkfdaaGreatDoorDigGo
import Derived.BigQuiet
namespace Go.Proofs.YtgikagdfmbkfdaaGreatDoor.Crt
open Go.RowKit Kit Reg Dec Dig

theorem byte_eq {c : UInt8} {n : Nat} (hn : n < 256) : (c.toNat : Int) = n ↔ c = UInt8.ofNat n := by
  have h1 : (UInt8.ofNat n).toNat = n := by rw [UInt8.toNat_ofNat']; omega
  constructor
  · intro h; exact UInt8.toNat_inj.1 (by omega)
  · rintro rfl; omega
set_option maxRecDepth 100000 in
set_option maxHeartbeats 1000000 in
theorem fits_c (c b : UInt8) (r : Bool) (h : hitB c b = r) (w : World) : Calls Tryz.prog 24 #[.int .u8 (c.toNat : Int), .int .u8 (b.toNat : Int)] w fun e w' => e = .returned (.bool r) ∧ w = w' := by
  by_cases h1 : c = 63
  · subst h1
    obtain rfl : r = true := by rw [← h]; simp [hitB]
    have q1 : (((63 : UInt8).toNat : Int) == 63) = true := rfl
    clear h
    go_enter Tryz.func24, Tryz.ntmps24
    go_wp2
    go_ret
    exact ⟨rfl, rfl⟩
  · have q1 : ((c.toNat : Int) == 63) = false := by
      rw [beq_eq_false_iff_ne]
      intro e
      exact h1 ((byte_eq (n := 63) (by omega)).1 e)
    have q2 : (c.toNat == b.toNat) = r := by
      rw [← h, Bool.eq_iff_iff]
      simp [hitB, h1, UInt8.toNat_inj]
    have q3 : ((c.toNat : Int) == (b.toNat : Int)) = r := by
      rw [← q2, Bool.eq_iff_iff, beq_iff_eq, beq_iff_eq]
      constructor <;> intro e <;> omega
    clear h
    go_enter Tryz.func24, Tryz.ntmps24
    go_wp2
    go_ret
    exact ⟨by first | rfl | rw [q3] | rw [q2] | simp [q3], rfl⟩
/-- what strings.Trim has to answer where stars are cut off -/
def TrimsStars : Prop := ∀ (s : ByteArray) (w : World), s.size ≤ 1000000 → Calls Tryz.prog 25 #[.string s, .string ⟨#[42]⟩] w fun e w' => e = .returned (.string ⟨(Lib.trimB s.data.toList 42).toArray⟩) ∧ (w' = w ∨ w' = w.drew)
theorem like_at (p : ByteArray) (k : Nat) (x : UInt8) (h : p.data.toList[k]? = some x) : ∃ hk : k < p.size, p[k] = x := by
  have h1 := lt_at h
  rw [len] at h1
  refine ⟨h1, ?_⟩
  have h2 := Lib.data_getElem? p k h1
  rw [h] at h2
  exact (Option.some.inj h2).symm
set_option maxRecDepth 100000 in
set_option maxHeartbeats 4000000 in
theorem like_c (HTS : TrimsStars) (p t : ByteArray) (hp : p.size ≤ 1000) (ht : t.size ≤ 1000) (r : Bool) (hr : fitL p.data.toList t.data.toList = r) (w : World) :
    Calls Tryz.prog 11 #[.string p, .string t] w fun e w' => e = .returned (.bool r) ∧ Below w.heap.size w w' := by
  have HF := Lib.hid (fun c b r h w => fits_c c b r h w)
  have HTS := Lib.hid HTS
  have HR := Lib.hid hr
  have HS : Hid (Gr p.data.toList t.data.toList 0 0 (-1) 0) := Lib.hid (gr_start _ _)
  have HP := Lib.hid (fun k x h => like_at p k x h)
  have HT := Lib.hid (fun k x h => like_at t k x h)
  have HLP := Lib.hid (len p)
  have HLT := Lib.hid (len t)
  clear hr
  go_enter Tryz.func11, Tryz.ntmps11
  go_wp2
  go_loopw [5, 6, 7, 8] (fun iv av sv ev wr => ∃ (i a e : Nat) (s : Int), i ≤ p.size ∧ a ≤ t.size ∧ e ≤ a ∧ -1 ≤ s ∧ s ≤ 1000 ∧ iv = .int .i64 i ∧ av = .int .i64 a ∧ sv = .int .i64 s ∧ ev = .int .i64 e ∧
    Hid (Gr p.data.toList t.data.toList i a s e) ∧ Below w.heap.size w wr) (fun iv _ _ ev _ => (t.size - (intOf ev).toNat) * 2000 + (p.size - (intOf iv).toNat))
  case atStart => exact ⟨0, 0, 0, -1, by omega, by omega, by omega, by omega, by omega, rfl, rfl, rfl, rfl, HS, Below.refl _ _⟩
  case round =>
    clear HS
    obtain ⟨i, a, e, s, hi, ha, he, hs1, hs2, rfl, rfl, rfl, rfl, hg, hb⟩ := hrel
    by_cases hlt : a < t.size
    · obtain ⟨b, hb1⟩ : ∃ b, t.data.toList[a]? = some b := ⟨_, List.getElem?_eq_getElem (by rw [HLT.out]; exact hlt)⟩
      obtain ⟨hat, hbt⟩ := HT.out a b hb1
      have d0 : decide (a < t.size) = true := decide_eq_true hlt
      by_cases hli : i < p.size
      · obtain ⟨c, hc1⟩ : ∃ c, p.data.toList[i]? = some c := ⟨_, List.getElem?_eq_getElem (by rw [HLP.out]; exact hli)⟩
        obtain ⟨hip, hcp⟩ := HP.out i c hc1
        have d1 : decide (i < p.size) = true := decide_eq_true hli
        by_cases hc : c = 42
        · -- a star
          have q1 : ((c.toNat : Int) == 42) = true := by rw [hc]; rfl
          have HN : Hid (Gr p.data.toList t.data.toList (i + 1) a i a) := Lib.hid (gr_star hg.out (hc ▸ hc1))
          clear hc hc1 hb1 hg HP HT HLP HLT HF HTS
          go_wp2
          go_roundw
          case rel => exact ⟨i + 1, a, a, i, by omega, ha, by omega, by omega, by omega, by go_num, rfl, rfl, rfl, HN, hb⟩
          case measure => simp [intOf]; omega
        · have q1 : ((c.toNat : Int) == 42) = false := by
            rw [beq_eq_false_iff_ne]
            intro e
            exact hc ((byte_eq (n := 42) (by omega)).1 e)
          cases hh : hitB c b
          · have HO : Hid (p.data.toList[i]? = none ∨ ∃ c, p.data.toList[i]? = some c ∧ ¬ c = 42 ∧ hitB c b = false) := Lib.hid (.inr ⟨c, hc1, hc, hh⟩)
            have HFF := Lib.hid (HF.out c b false hh)
            by_cases hs : 0 ≤ s
            · obtain ⟨n, rfl⟩ := Int.eq_ofNat_of_zero_le hs
              obtain ⟨hni, hN⟩ := gr_back hg.out hb1 HO.out
              have HN := Lib.hid hN
              clear hh hc hc1 hb1 hg HP HT HLP HLT HF HTS HO hN
              go_wp2
              go_quiet ((go_at_call 24; refine Calls.quiet_of_same ((HFF.out _).mono fun _ _ h => ⟨h.1, h.2.symm⟩)))
              go_wp2
              go_roundw
              case rel => exact ⟨n + 1, e + 1, e + 1, n, by omega, by omega, by omega, by omega, by omega, by go_num, by go_num, rfl, by go_num, HN, on hb (drew_below rfl)⟩
              case measure => simp [intOf]; omega
            · have HN := Lib.hid (gr_fail hg.out (by omega) hb1 HO.out)
              obtain rfl : s = -1 := by omega
              rw [HR.out] at HN
              obtain rfl := HN.out
              clear hh hc hc1 hb1 hg HP HT HLP HLT HF HTS HO HN
              go_wp2
              go_quiet ((go_at_call 24; refine Calls.quiet_of_same ((HFF.out _).mono fun _ _ h => ⟨h.1, h.2.symm⟩)))
              go_wp2
              go_ret
              exact ⟨rfl, on hb (drew_below rfl)⟩
          · have HFF := Lib.hid (HF.out c b true hh)
            have HN := Lib.hid (gr_hit hg.out hc1 hc hb1 hh)
            clear hh hc hc1 hb1 hg HP HT HLP HLT HF HTS
            go_wp2
            go_quiet ((go_at_call 24; refine Calls.quiet_of_same ((HFF.out _).mono fun _ _ h => ⟨h.1, h.2.symm⟩)))
            go_wp2
            go_roundw
            case rel => exact ⟨i + 1, a + 1, e, s, by omega, by omega, by omega, by omega, by omega, by go_num, by go_num, rfl, rfl, HN, on hb (drew_below rfl)⟩
            case measure => simp [intOf]; omega
      · have HO : Hid (p.data.toList[i]? = none ∨ ∃ c, p.data.toList[i]? = some c ∧ ¬ c = 42 ∧ hitB c b = false) := Lib.hid (.inl (List.getElem?_eq_none_iff.2 (by rw [HLP.out]; omega)))
        have d1 : decide (i < p.size) = false := decide_eq_false hli
        by_cases hs : 0 ≤ s
        · obtain ⟨n, rfl⟩ := Int.eq_ofNat_of_zero_le hs
          obtain ⟨hni, hN⟩ := gr_back hg.out hb1 HO.out
          have HN := Lib.hid hN
          clear hb1 hg HP HT HLP HLT HF HTS HO hN
          go_wp2
          go_quiet (fail)
          go_wp2
          go_roundw
          case rel => exact ⟨n + 1, e + 1, e + 1, n, by omega, by omega, by omega, by omega, by omega, by go_num, by go_num, rfl, by go_num, HN, on hb (drew_below rfl)⟩
          case measure => simp [intOf]; omega
        · have HN := Lib.hid (gr_fail hg.out (by omega) hb1 HO.out)
          obtain rfl : s = -1 := by omega
          rw [HR.out] at HN
          obtain rfl := HN.out
          clear hb1 hg HP HT HLP HLT HF HTS HO HN
          go_wp2
          go_quiet (fail)
          go_wp2
          go_ret
          exact ⟨rfl, on hb (drew_below rfl)⟩
    · have HE := Lib.hid (gr_end hg.out (by rw [HLT.out]; omega))
      rw [HR.out] at HE
      have d0 : decide (a < t.size) = false := decide_eq_false hlt
      have HTT := Lib.hid (fun w1 => HTS.out (p.extract i p.size) w1 (by rw [← len, ext_drop, List.length_drop, HLP.out]; omega))
      rw [ext_drop] at HTT
      have HX : Hid (((⟨(Lib.trimB (p.data.toList.drop i) 42).toArray⟩ : ByteArray).toList == []) = r) := Lib.hid (by
        rw [HE.out, Bool.eq_iff_iff, ← trim_stars, Lib.toList_data]
        simp)
      generalize (⟨(Lib.trimB (p.data.toList.drop i) 42).toArray⟩ : ByteArray) = z at *
      clear HE hg HP HT HLP HLT HF HTS HR
      have hz := HX.out
      go_wp2_with fail
      refine (HTT.out _).mono ?_
      rintro e1 w2 ⟨rfl, hw2⟩
      have hb2 : Below w.heap.size w w2 := by rcases hw2 with rfl | rfl; exact hb; exact on hb (drew_below (n := 1) rfl)
      clear hw2
      go_wp2
      go_ret
      exact ⟨by first | rfl | rw [hz], hb2⟩
end Go.Proofs.YtgikagdfmbkfdaaGreatDoor.Crt
