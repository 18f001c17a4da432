/- What the program's Rept and Put answer (over the landed text of package text): for texts of at most 400 bytes. -/
import Derived.Test.YtckcoogmfgegeaaDoorTxtJoin
import Derived.Test.YtckcoogmfgegeaaDoorDigGo
namespace Go.Proofs.YtckcoogmfgegeaaDoor.Txt
open Go.RowKit Kit Reg

/-- what the library's variables hold: the table of powers, and some number in bytealg.MaxLen -/
def PLibs (w : World) : Prop := Dig.Libs w ∧ ∃ m, w.cell? ⟨0, 0, none⟩ = some (.int .i64 m)
theorem PLibs.grown {w w' : World} (h : PLibs w) (hb : Below w.heap.size w w') : PLibs w' := ⟨h.1.grown hb, h.2.elim fun m hm => ⟨m, kept hb hm⟩⟩
theorem cutsBlank : CutsBlank := fun s w hs => (Tryd.strings_TrimSuffix s ⟨#[32]⟩ w (by omega)).mono fun e w' ⟨he, hw⟩ => ⟨by rw [he], hw.symm⟩
/-- a text, or that there is none -/
def TwoS (m : List UInt8) (b : Bool) (w : World) : Ending → World → Prop := fun e w' => e = .returned (.tuple #[.string ⟨m.toArray⟩, .bool b]) ∧ Below w.heap.size w w'
theorem fits_rept (s n : Nat) : fitsB s n 256 = decide (n * s ≤ 256) := by
  unfold fitsB
  rw [decide_eq_true (show (0 : Int) ≤ 256 by omega), Bool.true_and]
  have hc : ((n * s : Nat) : Int) = (s : Int) * (n : Int) := by rw [Nat.mul_comm]; simp
  rw [← hc]
  by_cases h0 : (n : Int) = 0
  · have h1 : n = 0 := by omega
    subst h1
    simp
  · rw [decide_eq_false h0, Bool.false_or]
    by_cases h : n * s ≤ 256
    · rw [decide_eq_true h, decide_eq_true (by omega)]
    · rw [decide_eq_false h, decide_eq_false (by omega)]
set_option maxRecDepth 100000 in
set_option maxHeartbeats 1000000 in
theorem rept_none_c (t : ByteArray) (n : Int) (h : n < 0) (w : World) : Calls Tryd.prog 16 #[.string t, .int .i64 n] w (TwoS [] false w) := by
  go_enter Tryd.func16, Tryd.ntmps16
  go_wp2
  go_ret2
  exact ⟨rfl, Below.refl _ _⟩
set_option maxRecDepth 100000 in
set_option maxHeartbeats 1000000 in
theorem rept_some_c (t : ByteArray) (N : Nat) (hN : N ≤ 9223372036854775807) (m : List UInt8) (b : Bool) (hr : roomD (Lib.repeatL t.data.toList N) = (m, b)) (w : World) :
    Calls Tryd.prog 16 #[.string t, .int .i64 (N : Int)] w (TwoS m b w) := by
  have hlen := Lib.repeatL_length t.data.toList N
  rw [len] at hlen
  by_cases h : N * t.size ≤ 256
  · rw [room_in (by omega)] at hr
    obtain ⟨rfl, rfl⟩ := Prod.mk.inj hr
    have HF := Lib.hid (fun w => fits_c t.size (N : Int) 256 true (by rw [fits_rept]; exact decide_eq_true h) (by omega) (by omega) (by omega) w)
    have HR := Lib.hid (fun w => Tryd.strings_Repeat t N w hN (by rw [Nat.mul_comm]; omega))
    clear hlen hr h
    go_enter Tryd.func16, Tryd.ntmps16
    go_wp2_with (go_at_call 29; refine (HF.out _).mono ?_; rintro e w' ⟨rfl, rfl⟩)
    refine (HR.out _).mono ?_
    rintro e w1 ⟨rfl, hb⟩
    go_wp2
    go_ret2
    exact ⟨rfl, hb⟩
  · rw [room_out (by omega)] at hr
    obtain ⟨rfl, rfl⟩ := Prod.mk.inj hr
    have HF := Lib.hid (fun w => fits_c t.size (N : Int) 256 false (by rw [fits_rept]; exact decide_eq_false h) (by omega) (by omega) (by omega) w)
    clear hlen hr h
    go_enter Tryd.func16, Tryd.ntmps16
    go_wp2_with (go_at_call 29; refine (HF.out _).mono ?_; rintro e w' ⟨rfl, rfl⟩)
    go_ret2
    exact ⟨rfl, Below.refl _ _⟩
theorem rept_c (t : ByteArray) (n : Int) (hn : n ≤ 9223372036854775807) (m : List UInt8) (b : Bool) (hr : reptD t.data.toList n = (m, b)) (w : World) : Calls Tryd.prog 16 #[.string t, .int .i64 n] w (TwoS m b w) := by
  by_cases h : n < 0
  · rw [show reptD t.data.toList n = ([], false) from if_pos (.inl h)] at hr
    obtain ⟨rfl, rfl⟩ := Prod.mk.inj hr
    exact rept_none_c t n h w
  · obtain ⟨N, rfl⟩ := Int.eq_ofNat_of_zero_le (show 0 ≤ n by omega)
    rw [rept_room] at hr
    exact rept_some_c t N (by omega) m b hr w
theorem fits_put (s c n p u : Nat) (h : u + p = n + c * s) (hp : c = 0 → p = 0) : fitsB s c (256 - ((n : Int) - (p : Int))) = decide (u ≤ 256) := by
  unfold fitsB
  have hc : ((c * s : Nat) : Int) = (s : Int) * (c : Int) := by rw [Nat.mul_comm]; simp
  rw [← hc]
  by_cases h0 : (c : Int) = 0
  · have h1 : c = 0 := by omega
    subst h1
    have h2 := hp rfl
    rw [decide_eq_true h0, Bool.true_or, Bool.and_true]
    by_cases hu : u ≤ 256
    · rw [decide_eq_true hu, decide_eq_true (by omega)]
    · rw [decide_eq_false hu, decide_eq_false (by omega)]
  · rw [decide_eq_false h0, Bool.false_or]
    by_cases hu : u ≤ 256
    · rw [decide_eq_true hu, decide_eq_true (p := (0 : Int) ≤ _) (by omega), decide_eq_true (p := ((c * s : Nat) : Int) ≤ _) (by omega)]; rfl
    · rw [decide_eq_false hu, decide_eq_false (p := ((c * s : Nat) : Int) ≤ _) (by omega), Bool.and_false]
set_option maxRecDepth 100000 in
set_option maxHeartbeats 1000000 in
theorem put_none_c (t : ByteArray) (new : ByteArray) (h9 : t.size ≤ 400) (m : List UInt8) (b : Bool) (hr : roomD t.data.toList = (m, b)) (w : World) :
    Calls Tryd.prog 14 #[.string t, .string ⟨#[]⟩, .string new] w (TwoS m b w) := by
  have hb0 := below1 w (.cells #[.string t] 9)
  have hst : StrsO (w.alloc (.cells #[.string t] 9)) (some ⟨w.heap.size, 0, none⟩) [t.data.toList] := .inr ⟨w.heap.size, 0, rfl, by simp, fun i n hi => by
    cases i with
    | zero =>
      obtain rfl : t.data.toList = n := by simpa using hi
      simp
    | succ i => simp at hi⟩
  have HJ := Lib.hid (join_c (some ⟨w.heap.size, 0, none⟩) 1 1 [t.data.toList] rfl (by omega) (fun x hx => by
    obtain rfl : x = t.data.toList := by simpa using hx
    rw [len]; omega) m b (by rw [← hr]; simp) _ hst)
  clear hst hr
  go_enter Tryd.func14, Tryd.ntmps14
  go_wp2_with fail
  refine (HJ.out).mono ?_
  rintro e w1 ⟨rfl, rfl⟩
  go_wp2
  go_ret2
  exact ⟨rfl, hb0⟩
set_option maxRecDepth 100000 in
set_option maxHeartbeats 1000000 in
theorem put_some_c (t old new : ByteArray) (l : List UInt8) (hs : t.data.toList = l) (h9 : t.size ≤ 400) (h8 : old.size ≤ 400) (h7 : new.size ≤ 400) (h0 : old.data.toList ≠ []) (m : List UInt8) (b : Bool) (hr : roomD (putL old.data.toList new.data.toList l) = (m, b)) (w : World) (hL : PLibs w) :
    Calls Tryd.prog 14 #[.string t, .string old, .string new] w (TwoS m b w) := by
  obtain ⟨c, hc⟩ : ∃ c, Lib.count l old.data.toList = c := ⟨_, rfl⟩
  obtain ⟨p, hp⟩ : ∃ p, c * old.size = p := ⟨_, rfl⟩
  have h1 := put_len new.data.toList l h0
  have h2 := count_le old.data.toList l h0
  have h3 := List.length_pos_iff.2 h0
  have hl : l.length = t.size := by rw [← hs, len]
  rw [hc, len, hl] at h1 h2
  rw [hp, len] at h1
  rw [hp] at h2
  rw [len] at h3
  have h4 : c ≤ p := by rw [← hp]; exact Nat.le_mul_of_pos_right _ h3
  have h5 : c * new.size ≤ 400 * 400 := Nat.mul_le_mul (by omega) h7
  have hpI : (c : Int) * (old.size : Int) = (p : Int) := by rw [← hp]; simp
  have he : (old.toList == []) = false := by
    rw [Lib.toList_data]
    cases h : old.data.toList with
    | nil => exact absurd h h0
    | cons x y => rfl
  have hcb : Lib.countB t old = c := by rw [← hc, ← hs, Lib.countB]
  obtain ⟨m0, hm0⟩ := hL.2
  have HC := Lib.hid (fun w hm => Tryd.strings_Count_any t old m0 w (by omega) hm (by omega))
  have HA := Lib.hid (fun w hm => Tryd.strings_ReplaceAll t old new m0 w (by omega) hm (by omega) (by rw [hcb]; omega))
  rw [hs, put_replace _ _ h0] at HA
  rw [hcb] at HC
  obtain ⟨z, hz⟩ : ∃ z, putL old.data.toList new.data.toList l = z := ⟨_, rfl⟩
  rw [hz] at h1 hr HA
  have hHM := Lib.hid hm0
  have HF := Lib.hid (fun b hb w => fits_c new.size (c : Int) (256 - ((t.size : Int) - (p : Int))) b (by rw [fits_put _ _ _ _ _ h1 (fun e => by rw [← hp, e, Nat.zero_mul])]; exact hb) (by omega) (by omega) (by omega) w)
  clear hz hc hcb hp h5 hs hl hL hm0 h0
  by_cases hfit : z.length ≤ 256
  · rw [room_in hfit] at hr
    obtain ⟨rfl, rfl⟩ := Prod.mk.inj hr
    have HF2 := Lib.hid (HF.out true (decide_eq_true hfit))
    clear HF hr h1 hfit
    go_enter Tryd.func14, Tryd.ntmps14
    go_wp2_with fail
    refine (HC.out _ hHM.out).mono ?_
    rintro e w1 ⟨rfl, rfl⟩
    go_wp2_with fail
    refine (HF2.out _).mono ?_
    rintro e w1 ⟨rfl, rfl⟩
    go_wp2_with fail
    refine (HA.out _ hHM.out).mono ?_
    rintro e w1 ⟨rfl, hb⟩
    go_wp2
    go_ret2
    exact ⟨rfl, hb⟩
  · rw [room_out (by omega)] at hr
    obtain ⟨rfl, rfl⟩ := Prod.mk.inj hr
    have HF2 := Lib.hid (HF.out false (decide_eq_false hfit))
    clear HF hr h1 hfit
    go_enter Tryd.func14, Tryd.ntmps14
    go_wp2_with fail
    refine (HC.out _ hHM.out).mono ?_
    rintro e w1 ⟨rfl, rfl⟩
    go_wp2_with fail
    refine (HF2.out _).mono ?_
    rintro e w1 ⟨rfl, rfl⟩
    go_wp2
    go_ret2
    exact ⟨rfl, Below.refl _ _⟩
theorem put_c (t old new : ByteArray) (h9 : t.size ≤ 400) (h8 : old.size ≤ 400) (h7 : new.size ≤ 400) (m : List UInt8) (b : Bool) (hr : roomD (putL old.data.toList new.data.toList t.data.toList) = (m, b)) (w : World) (hL : PLibs w) :
    Calls Tryd.prog 14 #[.string t, .string old, .string new] w (TwoS m b w) := by
  by_cases h0 : old.data.toList = []
  · obtain rfl : old = ⟨#[]⟩ := bytes_eq (by rw [h0])
    rw [h0, put_none] at hr
    exact put_none_c t new h9 m b hr w
  · exact put_some_c t old new _ rfl h9 h8 h7 h0 m b hr w hL
end Go.Proofs.YtckcoogmfgegeaaDoor.Txt
