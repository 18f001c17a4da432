/- What the program's leading, split, size, meant, Read, Lead answer (over the landed text of package digits): for every text below 2^47 bytes. -/
import Derived.Test.YtmoednmgmmgjeaaDoorDigText
import Derived.Test.YtmoednmgmmgjeaaDoorItoa
import Derived.Test.YtmoednmgmmgjeaaDoorAtoi
import Derived.WalkSmall
namespace Go.Proofs.YtmoednmgmmgjeaaDoor.Dig
open Go.RowKit Kit Dec

/-- what the library's variables hold -/
def Libs (w : World) : Prop := Cats.Errs w ∧ Pows w
theorem Libs.grown {w w' : World} (h : Libs w) (hb : Below w.heap.size w w') : Libs w' := ⟨h.1.grown hb, h.2.grown hb⟩
theorem ext_take (t : ByteArray) (k : Nat) : (t.extract 0 k).data.toList = t.data.toList.take k := by
  rw [Lib.extract_data, List.drop_zero, Nat.sub_zero]
theorem ext_drop (t : ByteArray) (k : Nat) : (t.extract k t.size).data.toList = t.data.toList.drop k := by
  rw [Lib.extract_data, List.take_of_length_le (by rw [List.length_drop, Lib.size_eq]; omega)]
theorem len (t : ByteArray) : t.data.toList.length = t.size := (Lib.size_eq t).symm
theorem cat_data (a b : ByteArray) : (a ++ b).data.toList = a.data.toList ++ b.data.toList := by simp
theorem bytes_eq {a b : ByteArray} (h : a.data.toList = b.data.toList) : a = b := ByteArray.ext (Array.toList_inj.1 h)
set_option maxRecDepth 100000 in
set_option maxHeartbeats 2000000 in
theorem leading_c (t : ByteArray) (m : Nat) (hm : m ≤ 100) (hl : t.size ≤ 281474976710656) (w : World) :
    Calls Tryd.prog 33 #[.string t, .int .i64 m] w fun e w' => e = .returned (.string (t.extract 0 (leadN m t.data.toList))) ∧ w = w' := by
  go_enter Tryd.func33, Tryd.ntmps33
  go_wp2
  go_loopw [5] (fun i wr => ∃ k : Nat, k ≤ t.size ∧ k ≤ m ∧ i = .int .i64 k ∧ w = wr ∧ Hid (∀ j, j < k → digAt t.data.toList j = true)) (fun i _ => t.size - (intOf i).toNat)
  case atStart => exact ⟨0, by omega, by omega, rfl, rfl, Lib.hid fun j hj => absurd hj (by omega)⟩
  case round =>
    obtain ⟨k, hk, hkm, rfl, rfl, hd⟩ := hrel
    by_cases hlt : k < t.size
    · obtain ⟨x, hx⟩ : ∃ x : UInt8, t[k]'hlt = x := ⟨_, rfl⟩
      have hxl : t.data.toList[k]? = some x := by rw [← hx]; exact Lib.data_getElem? t k hlt
      have hx256 := x.toNat_lt
      by_cases hlm : k < m
      · by_cases h1 : 48 ≤ x.toNat
        · have d1 : decide (48 ≤ (x.toNat : Int)) = true := by simp; omega
          by_cases h2 : x.toNat ≤ 57
          · have d2 : decide ((x.toNat : Int) ≤ 57) = true := by simp; omega
            have hn : Hid (∀ j, j < k + 1 → digAt t.data.toList j = true) := Lib.hid fun j hj => by
              rcases Nat.lt_or_ge j k with h | h
              · exact hd.out j h
              · obtain rfl : j = k := by omega
                rw [digAt_in hxl, isD_iff]; exact ⟨h1, h2⟩
            clear hxl hd
            go_wp2
            go_roundw
            case rel => exact ⟨k + 1, by omega, by omega, by go_num, by first | rfl | trivial, hn⟩
            case measure => simp [intOf]; omega
          · have d2 : decide ((x.toNat : Int) ≤ 57) = false := by simp; omega
            have HK := Lib.hid (lead_is k m _ hkm hd.out (.inr (by rw [digAt_in hxl, isD_not]; omega)))
            clear hxl hd
            go_wp2
            go_ret
            exact ⟨by rw [HK.out]; rfl, rfl⟩
        · have d1 : decide (48 ≤ (x.toNat : Int)) = false := by simp; omega
          have HK := Lib.hid (lead_is k m _ hkm hd.out (.inr (by rw [digAt_in hxl, isD_not]; omega)))
          clear hxl hd
          go_wp2
          go_ret
          exact ⟨by rw [HK.out]; rfl, rfl⟩
      · have HK := Lib.hid (lead_is k m _ hkm hd.out (.inl (by omega)))
        clear hxl hd
        go_wp2
        go_ret
        exact ⟨by rw [HK.out]; rfl, rfl⟩
    · have HK := Lib.hid (lead_is k m _ hkm hd.out (.inr (digAt_out (by rw [len]; omega))))
      clear hd
      go_wp2
      go_ret
      exact ⟨by rw [HK.out]; rfl, rfl⟩
theorem pre_one (l : List UInt8) (c : UInt8) : Lib.hasPrefix l [c] = decide (l.head? = some c) := by
  cases l with
  | nil => rfl
  | cons x r =>
    show ([c].isPrefixOf (x :: r)) = _
    rw [List.head?_cons]
    by_cases h : x = c
    · subst h; simp [List.isPrefixOf]
    · rw [decide_eq_false (by simpa using h)]
      simp only [List.isPrefixOf, Bool.and_true, beq_eq_false_iff_ne]
      exact fun e => h e.symm
theorem pre_c (t : ByteArray) (c : UInt8) (b : Bool) (hb : decide (t.data.toList.head? = some c) = b) (w : World) :
    Calls Tryd.prog 13 #[.string t, .string ⟨#[c]⟩] w fun e w' => e = .returned (.bool b) ∧ w = w' :=
  (Tryd.strings_HasPrefix t ⟨#[c]⟩ w).mono fun e w' ⟨he, hw⟩ => ⟨by rw [he, show (⟨#[c]⟩ : ByteArray).data.toList = [c] from rfl, pre_one, hb], hw.symm⟩
/-- two texts -/
def Texts (a b : List UInt8) (w : World) (e : Ending) (w' : World) : Prop := ∃ s t : ByteArray, e = .returned (.tuple #[.string s, .string t]) ∧ s.data.toList = a ∧ t.data.toList = b ∧ w = w'
set_option maxRecDepth 100000 in
set_option maxHeartbeats 2000000 in
theorem split_c (t : ByteArray) (m : Nat) (hm : m ≤ 100) (hl : t.size ≤ 281474976710656) (w : World) :
    Calls Tryd.prog 19 #[.string t, .int .i64 m] w (Texts (wholeL m t.data.toList) (partR (restL m t.data.toList)) w) := by
  have H1 := Lib.hid (fun w1 => leading_c t m hm hl w1)
  obtain ⟨k, hk⟩ : ∃ k, leadN m t.data.toList = k := ⟨_, rfl⟩
  have hle := (lead_le m t.data.toList).2
  rw [len] at hle
  unfold wholeL restL
  rw [hk] at H1 hle ⊢
  obtain ⟨r, hr⟩ : ∃ r, t.extract 0 k = r := ⟨_, rfl⟩
  obtain ⟨u, hu⟩ : ∃ u, t.extract k t.size = u := ⟨_, rfl⟩
  have hrl : r.data.toList = t.data.toList.take k := by rw [← hr]; exact ext_take t k
  have hul : u.data.toList = t.data.toList.drop k := by rw [← hu]; exact ext_drop t k
  have hrs : r.size = k := by rw [← len, hrl, List.length_take, len]; omega
  have hus : u.size ≤ t.size := by rw [← len u, hul, List.length_drop, len]; omega
  rw [hr] at H1
  have hu2 : t.extract r.size t.size = u := by rw [hrs]; exact hu
  have hrt : r.size ≤ t.size := by omega
  rw [← hrl, ← hul]
  clear hk hle hr hu hrl hul hrs
  cases hp : decide (u.data.toList.head? = some 46) with
  | true =>
    have HP := Lib.hid (fun w1 => pre_c u 46 true hp w1)
    have hh : u.data.toList.head? = some 46 := by simpa using hp
    have hne : 1 ≤ u.size := by
      rw [← len]
      rcases hq : u.data.toList with _ | ⟨x, y⟩
      · rw [hq] at hh; cases hh
      · simp
    have H2 : Hid (∀ w1, Calls Tryd.prog 33 #[.string (u.extract 1 u.size), .int .i64 4] w1 fun e w' => e = .returned (.string ((u.extract 1 u.size).extract 0 (leadN 4 (u.extract 1 u.size).data.toList))) ∧ w1 = w') := Lib.hid (fun w1 => leading_c (u.extract 1 u.size) 4 (by omega) (by simp; omega) w1)
    have HX : Hid (((u.extract 1 u.size).extract 0 (leadN 4 (u.extract 1 u.size).data.toList)).data.toList = partR u.data.toList) := Lib.hid (by
      rw [ext_take, ext_drop]
      unfold partR
      rw [if_pos hh])
    obtain ⟨v, hv⟩ : ∃ v, (u.extract 1 u.size).extract 0 (leadN 4 (u.extract 1 u.size).data.toList) = v := ⟨_, rfl⟩
    rw [hv] at H2 HX
    clear hh hp hv
    go_enter Tryd.func19, Tryd.ntmps19
    go_wp2_with (first
      | (go_at_call 13; refine (HP.out _).mono ?_; rintro e w' ⟨rfl, rfl⟩)
      | (go_at_call 33; first | ((with_reducible refine (H1.out _).mono ?_); rintro e w' ⟨rfl, rfl⟩) | ((with_reducible refine (H2.out _).mono ?_); rintro e w' ⟨rfl, rfl⟩)))
    go_ret2
    exact ⟨r, v, rfl, rfl, HX.out, rfl⟩
  | false =>
    have HP := Lib.hid (fun w1 => pre_c u 46 false hp w1)
    have HX : Hid ([] = partR u.data.toList) := Lib.hid (partR_odd (by simpa using hp)).symm
    clear hp
    go_enter Tryd.func19, Tryd.ntmps19
    go_wp2_with (first
      | (go_at_call 13; refine (HP.out _).mono ?_; rintro e w' ⟨rfl, rfl⟩)
      | (go_at_call 33; refine (H1.out _).mono ?_; rintro e w' ⟨rfl, rfl⟩))
    go_ret2
    exact ⟨r, ⟨#[]⟩, rfl, rfl, HX.out, rfl⟩
set_option maxRecDepth 100000 in
set_option maxHeartbeats 400000 in
theorem dsize_c (s t : ByteArray) (hs : s.size ≤ 281474976710656) (ht : t.size ≤ 281474976710656) (n : Nat) (hn : sizeL s.data.toList t.data.toList = n) (w : World) :
    Calls Tryd.prog 21 #[.string s, .string t] w fun e w' => e = .returned (.int .i64 n) ∧ w = w' := by
  subst hn
  unfold sizeL
  rw [len, len]
  by_cases h : t.data.toList = []
  · rw [if_pos h]
    have e0 : (t.toList == []) = true := by rw [Lib.toList_data, h]; rfl
    clear h
    go_enter Tryd.func21, Tryd.ntmps21
    go_wp2
    go_ret
    exact ⟨rfl, rfl⟩
  · rw [if_neg h]
    have e0 : (t.toList == []) = false := by rw [Lib.toList_data]; simpa using h
    clear h
    go_enter Tryd.func21, Tryd.ntmps21
    go_wp2
    go_ret
    exact ⟨ret_i64 (by omega), rfl⟩
/-- two results, behind which there is more memory -/
def TwoB (n : Int) (b : Bool) (w : World) : Ending → World → Prop := fun e w' => e = .returned (.tuple #[.int .i64 n, .bool b]) ∧ Below w.heap.size w w'
theorem replicate_one (c : Nat) : Lib.repeatL [48] c = List.replicate c 48 := by
  have h := Lib.repeatL_replicate 48 1 c
  rw [Nat.mul_one] at h
  exact h
theorem repeat_c (c : Nat) (hc : c ≤ 4) (w : World) :
    Calls Tryd.prog 35 #[.string ⟨#[48]⟩, .int .i64 c] w fun e w' => ∃ r : ByteArray, e = .returned (.string r) ∧ r.data.toList = List.replicate c 48 ∧ Below w.heap.size w w' := by
  refine (Tryd.strings_Repeat ⟨#[48]⟩ c w (by omega) (by show 1 * c ≤ _; omega)).mono fun e w' ⟨he, hw⟩ => ⟨_, he, ?_, hw⟩
  show Lib.repeatL [48] c = _
  exact replicate_one c
theorem parseint_c (neg : Bool) (d : ByteArray) (l : List UInt8) (hd : d.data.toList = sgnL neg ++ l) (ha : AllD l) (h0 : l ≠ []) (hs : d.size ≤ 1000) (w : World) (hE : Cats.Errs w) :
    Calls Tryd.prog 34 #[.string d, .int .i64 10, .int .i64 64] w fun e w' =>
      ((∃ v, v = signed neg (valF 0 l) ∧ (-9223372036854775808 ≤ v ∧ v ≤ 9223372036854775807) ∧ e = .returned (.tuple #[.int .i64 v, .nilIface])) ∨
        ((signed neg (valF 0 l) < -9223372036854775807 ∨ 9223372036854775807 < signed neg (valF 0 l)) ∧ ∃ x t p, e = .returned (.tuple #[.int .i64 x, .iface t (.pointer (some p))]))) ∧ Below w.heap.size w w' := by
  rcases parseI neg ha h0 with ⟨v, h1, h2, h3, h4⟩ | ⟨h1, h2⟩
  · rw [← hd] at h1
    refine (Tryd.strconv_ParseInt_10_at64_ok d (by omega) v h1 w).mono fun e w' ⟨he, hw⟩ => ⟨.inl ⟨v, h2, ⟨h3, h4⟩, he⟩, ?_⟩
    rcases hw with rfl | ⟨t, rfl⟩
    · exact Below.refl _ _
    · exact Lib.bytesWorld_below _ _ _
  · rw [← hd] at h1
    obtain ⟨_, e2, c2, k2⟩ := hE
    exact (Tryd.strconv_ParseInt_10_at64_range d (by omega) h1 e2 w c2 k2).mono fun e w' ⟨N, he, _, _, hb⟩ => ⟨.inr ⟨h2, _, _, _, he⟩, hb⟩
set_option maxRecDepth 100000 in
set_option maxHeartbeats 2000000 in
theorem meant_c (neg : Bool) (s a b : ByteArray) (hs : s.data.toList = sgnL neg) (ha : AllD a.data.toList) (hb : AllD b.data.toList) (hal : a.size ≤ 100) (hbl : b.size ≤ 4) (n : Int) (k : Bool) (hn : meantD neg a.data.toList b.data.toList = (n, k)) (w : World) (hL : Libs w) :
    Calls Tryd.prog 20 #[.string s, .string a, .string b] w (TwoB n k w) := by
  unfold meantD at hn
  by_cases h : a.data.toList = []
  · rw [if_pos h] at hn
    obtain ⟨rfl, rfl⟩ := Prod.mk.inj hn
    have e0 : (a.toList == []) = true := by rw [Lib.toList_data, h]; rfl
    clear h hn hs ha hb hL
    go_enter Tryd.func20, Tryd.ntmps20
    go_wp2
    go_ret2
    exact ⟨rfl, Below.refl _ _⟩
  · rw [if_neg h] at hn
    have e0 : (a.toList == []) = false := by rw [Lib.toList_data]; simpa using h
    have hsl : s.size ≤ 1 := by rw [← len, hs]; cases neg <;> simp [sgnL]
    obtain ⟨c, hc⟩ : ∃ c, 4 - b.data.toList.length = c := ⟨_, rfl⟩
    have hbs := len b
    have hc2 : (4 : Int) - (b.size : Int) = (c : Int) := by omega
    have HR := Lib.hid (fun w1 => repeat_c c (by omega) w1)
    have HA : Hid (AllD (a.data.toList ++ b.data.toList ++ List.replicate c 48)) := Lib.hid ((ha.app hb).app (AllD.noughts c))
    have H0 : Hid (a.data.toList ++ b.data.toList ++ List.replicate c 48 ≠ []) := Lib.hid (by simp [h])
    rw [hc] at hn
    have HS := Lib.hid hs
    have HN := Lib.hid hn
    have HL := Lib.hid hL
    clear h ha hb hbs hn hs hL hc
    go_enter Tryd.func20, Tryd.ntmps20
    go_wp2_with fail
    refine (HR.out _).mono ?_
    rintro e w1 ⟨r, rfl, hr, hb1⟩
    have hrl : r.size ≤ 4 := by rw [← len, hr, List.length_replicate]; omega
    have HP : Hid (∀ w2, Cats.Errs w2 → _) := Lib.hid (fun w2 hE => parseint_c neg (s ++ a ++ b ++ r) (a.data.toList ++ b.data.toList ++ List.replicate c 48) (by rw [cat_data, cat_data, cat_data, HS.out, hr]; simp) HA.out H0.out (by simp; omega) w2 hE)
    have HL1 := Lib.hid (HL.out.grown hb1)
    clear HR HA H0 HS hr hc2
    go_wp2_with fail
    refine (HP.out _ HL1.out.1).mono ?_
    rintro e w2 ⟨hr2, hb2⟩
    have hb3 := on hb1 hb2
    clear HP hb1 hb2 HL HL1
    rcases hr2 with ⟨v, hv, ⟨v1, v2⟩, rfl⟩ | ⟨hv, x, ty, pt, rfl⟩
    · rw [← hv] at HN
      clear hv
      cases hm : mayD v
      · have HM := Lib.hid (fun w1 => may_c v false hm w1)
        have h1 : ¬ -9223372036854775807 ≤ v := by unfold mayD at hm; simpa using hm
        obtain ⟨rfl, rfl⟩ := Prod.mk.inj ((giveD_out (.inr (.inl (by omega)))).symm.trans HN.out)
        clear HN hm h1
        go_wp2_with (go_at_call 25; refine (HM.out _).mono ?_; rintro e w' ⟨rfl, rfl⟩)
        go_ret2
        exact ⟨rfl, hb3⟩
      · have HM := Lib.hid (fun w1 => may_c v true hm w1)
        have h1 : -9223372036854775807 ≤ v := by unfold mayD at hm; simpa using hm
        obtain ⟨rfl, rfl⟩ := Prod.mk.inj ((giveD_in h1 v2).symm.trans HN.out)
        clear HN hm
        go_wp2_with (go_at_call 25; refine (HM.out _).mono ?_; rintro e w' ⟨rfl, rfl⟩)
        go_ret2
        exact ⟨rfl, hb3⟩
    · obtain ⟨rfl, rfl⟩ := Prod.mk.inj ((giveD_out (.inr hv)).symm.trans HN.out)
      clear HN hv
      go_wp2
      go_ret2
      exact ⟨rfl, hb3⟩
end Go.Proofs.YtmoednmgmmgjeaaDoor.Dig
