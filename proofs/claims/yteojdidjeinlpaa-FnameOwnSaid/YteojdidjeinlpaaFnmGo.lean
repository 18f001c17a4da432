/- What package fname answers: row, count, Name, Fits, Kind, Lazy, Number. -/
import Derived.Test.YteojdidjeinlpaaFnmLess
import Derived.Test.YteojdidjeinlpaaCut
import Derived.Lib.Strings
namespace Go.Proofs.Yteojdidjeinlpaa.Fnm
open Go.RowKit Kit Reg

def tab : ByteArray := ⟨prows.flatten.toArray⟩
theorem tab_ext {k : Nat} (hk : k < 78) : (tab.extract (k * 18) ((k + 1) * 18)).data.toList = pr k := by
  rw [Lib.extract_data, show (k + 1) * 18 - k * 18 = 18 by omega]
  exact flat_k hk
theorem count_c (c : UInt8) (h : 48 ≤ c.toNat) (w : World) : Calls Try.prog 19 #[.int .u8 c.toNat] w fun e w' => e = .returned (.int .i64 ((c.toNat : Int) - 48)) ∧ w = w' := by
  have h2 : ((c.toNat : Int) - 48) % 256 = (c.toNat : Int) - 48 := Int.emod_eq_of_lt (by omega) (by have := c.toNat_lt; omega)
  go_enter Try.func19, Try.ntmps19
  go_wp2
  go_ret
  exact ⟨rfl, rfl⟩
set_option maxRecDepth 100000 in
set_option maxHeartbeats 2000000 in
theorem row_in (k : Nat) (hk : k < 78) (w : World) : Calls Try.prog 18 #[.int .i64 ((k : Int) + 1)] w fun e w' => ∃ s, e = .returned (.string s) ∧ s.data.toList = pr k ∧ w = w' := by
  have d0 : decide ((k : Int) + 1 < 1) = false := decide_eq_false (by omega)
  have d1 : decide ((78 : Int) < (k : Int) + 1) = false := decide_eq_false (by omega)
  have HT := Lib.hid (tab_ext hk)
  go_enter Try.func18, Try.ntmps18
  go_wp2
  go_ret
  exact ⟨_, rfl, HT.out, rfl⟩
set_option maxRecDepth 100000 in
set_option maxHeartbeats 2000000 in
theorem row_out (n : Int) (h : ¬ (1 ≤ n ∧ n ≤ 78)) (w : World) : Calls Try.prog 18 #[.int .i64 n] w fun e w' => e = .returned (.string ⟨#[]⟩) ∧ w = w' := by
  by_cases h0 : n < 1
  · have d0 : decide (n < 1) = true := decide_eq_true h0
    go_enter Try.func18, Try.ntmps18
    go_wp2
    go_ret
    exact ⟨rfl, rfl⟩
  · have d0 : decide (n < 1) = false := decide_eq_false h0
    have d1 : decide (78 < n) = true := decide_eq_true (by omega)
    go_enter Try.func18, Try.ntmps18
    go_wp2
    go_ret
    exact ⟨rfl, rfl⟩

/-- a text of these letters -/
def GotT (l : List UInt8) (w : World) (e : Ending) (w' : World) : Prop := ∃ s, e = .returned (.string s) ∧ s.data.toList = l ∧ Below w.heap.size w w'
theorem cut_row {s : ByteArray} {k : Nat} (hk : k < 78) (hs : s.data.toList = pr k) {a b : List UInt8} {f : Bool} (h : CutsAt 32 s.data.toList a b f) : a = nm k := by
  obtain ⟨_, _, _, h4, r, h5⟩ := nm_facts hk
  rw [hs, h5] at h
  have h6 := cutAt_some r h4
  rcases h with ⟨h1, _⟩ | ⟨h1, _⟩
  · rw [h6] at h1
    exact (Prod.mk.inj (Option.some.inj h1)).1.symm
  · rw [h6] at h1
    cases h1
theorem cut_none {a b : List UInt8} {f : Bool} (h : CutsAt 32 (⟨#[]⟩ : ByteArray).data.toList a b f) : a = [] := by
  rcases h with ⟨h1, _⟩ | ⟨_, h2, _⟩
  · cases h1
  · exact h2
set_option maxRecDepth 100000 in
set_option maxHeartbeats 2000000 in
theorem name_c (fn : Int) (w : World) : Calls Try.prog 7 #[.int .i64 fn] w (GotT (nameF fn) w) := by
  have HC := Lib.hid (fun s hs w1 => cutB_c s 32 hs w1)
  by_cases h : 1 ≤ fn ∧ fn ≤ 78
  · obtain ⟨k, hk, rfl⟩ := to_k h
    rw [name_k hk]
    have HR := Lib.hid (fun w1 => row_in k hk w1)
    have HK := Lib.hid (fun s hs a b f h => @cut_row s k hk hs a b f h)
    have HL := Lib.hid (pr_facts hk)
    go_enter Try.func7, Try.ntmps7
    go_wp2_with fail
    refine (HR.out _).mono ?_
    rintro e w1 ⟨s, rfl, hs, rfl⟩
    have h9 : s.size = 18 := by
      obtain ⟨x, y, hl, _⟩ := HL.out
      rw [← len, hs]; exact hl
    replace hs := Lib.hid hs
    go_wp2_with fail
    refine (HC.out s (by omega) _).mono ?_
    rintro e w2 ⟨sa, sb, f, rfl, hc, hb⟩
    have ha := HK.out s hs.out _ _ _ hc
    replace ha := Lib.hid ha
    clear hc hs
    go_wp2
    go_ret
    exact ⟨_, rfl, ha.out, hb⟩
  · rw [(no_fn h).1]
    have HR := Lib.hid (fun w1 => row_out fn h w1)
    go_enter Try.func7, Try.ntmps7
    go_wp2_with fail
    refine (HR.out _).mono ?_
    rintro e w1 ⟨rfl, rfl⟩
    go_wp2_with fail
    refine (HC.out ⟨#[]⟩ (by decide) _).mono ?_
    rintro e w2 ⟨sa, sb, f, rfl, hc, hb⟩
    have ha := Lib.hid (cut_none hc)
    clear hc
    go_wp2
    go_ret
    exact ⟨_, rfl, ha.out, hb⟩
set_option maxRecDepth 100000 in
set_option maxHeartbeats 2000000 in
theorem fits_c (fn n : Int) (r : Bool) (hr : fitsF fn n = r) (w : World) : Calls Try.prog 9 #[.int .i64 fn, .int .i64 n] w fun e w' => e = .returned (.bool r) ∧ Below w.heap.size w w' := by
  by_cases h : 1 ≤ fn ∧ fn ≤ 78
  · obtain ⟨k, hk, rfl⟩ := to_k h
    rw [fits_k hk] at hr
    have HR := Lib.hid (fun w1 => row_in k hk w1)
    obtain ⟨x, y, hl, hx, hy, hx4, hy4, hlo, hhi, _⟩ := pr_facts hk
    have HX := Lib.hid (fun w1 => count_c x hx4 w1)
    have HY := Lib.hid (fun w1 => count_c y hy4 w1)
    rw [hlo] at HX
    rw [hhi] at HY
    have HA := Lib.hid (fun (s : ByteArray) (hs : s.data.toList = pr k) => (⟨like_at s 11 x (hs ▸ hx), like_at s 13 y (hs ▸ hy)⟩ : (∃ hk : 11 < s.size, s[11] = x) ∧ ∃ hk : 13 < s.size, s[13] = y))
    have HE := Lib.hid (fun (s : ByteArray) (hs : s.data.toList = pr k) => (show (s.toList == []) = false by rw [Lib.toList_data, hs]; cases e : pr k with | nil => rw [e] at hl; cases hl | cons => rfl))
    generalize lo k = a at *
    generalize hi k = b at *
    clear hl hx hy hx4 hy4 hlo hhi h hk
    go_enter Try.func9, Try.ntmps9
    go_wp2_with fail
    refine (HR.out _).mono ?_
    rintro e w1 ⟨s, rfl, hs, rfl⟩
    obtain ⟨⟨hx1, hx2⟩, hy1, hy2⟩ := HA.out s hs
    have he := HE.out s hs
    clear hs
    by_cases h1 : a ≤ n
    · have d1 : decide (a ≤ n) = true := decide_eq_true h1
      go_wp2_with fail
      refine (HX.out _).mono ?_
      rintro e w1 ⟨rfl, rfl⟩
      go_wp2_with fail
      refine (HY.out _).mono ?_
      rintro e w1 ⟨rfl, rfl⟩
      go_wp2
      go_ret
      exact ⟨by rw [← hr, d1]; rfl, Below.refl _ _⟩
    · have d1 : decide (a ≤ n) = false := decide_eq_false h1
      go_wp2_with fail
      refine (HX.out _).mono ?_
      rintro e w1 ⟨rfl, rfl⟩
      go_wp2
      go_ret
      exact ⟨by rw [← hr, d1]; rfl, Below.refl _ _⟩
  · obtain rfl : false = r := by rw [← hr]; exact ((no_fn h).2.1 n).symm
    have HR := Lib.hid (fun w1 => row_out fn h w1)
    go_enter Try.func9, Try.ntmps9
    go_wp2_with fail
    refine (HR.out _).mono ?_
    rintro e w1 ⟨rfl, rfl⟩
    go_wp2
    go_ret
    exact ⟨rfl, Below.refl _ _⟩
set_option maxRecDepth 100000 in
set_option maxHeartbeats 2000000 in
theorem kind_c (fn n : Int) (r : UInt8) (hr : kindF fn n = r) (w : World) : Calls Try.prog 11 #[.int .i64 fn, .int .i64 n] w fun e w' => e = .returned (.int .u8 r.toNat) ∧ Below w.heap.size w w' := by
  by_cases h : 1 ≤ fn ∧ fn ≤ 78
  · obtain ⟨k, hk, rfl⟩ := to_k h
    have HR := Lib.hid (fun w1 => row_in k hk w1)
    obtain ⟨x, y, hl, hx, hy, hx4, hy4, hlo, hhi, hki⟩ := pr_facts hk
    have h8 := of_all hi_8 hk
    simp only [Bool.and_eq_true, decide_eq_true_eq] at h8
    have HY := Lib.hid (fun w1 => count_c y hy4 w1)
    rw [hhi] at HY
    have HA := Lib.hid (fun (s : ByteArray) (hs : s.data.toList = pr k) => like_at s 13 y (hs ▸ hy))
    have HE := Lib.hid (fun (s : ByteArray) (hs : s.data.toList = pr k) => (show (s.toList == []) = false by rw [Lib.toList_data, hs]; cases e : pr k with | nil => rw [e] at hl; cases hl | cons => rfl))
    by_cases h0 : n < 0
    · have d0 : decide (n < 0) = true := decide_eq_true h0
      obtain rfl : 0 = r := by rw [← hr]; exact (kind_no (.inl h0)).symm
      go_enter Try.func11, Try.ntmps11
      go_wp2_with fail
      refine (HR.out _).mono ?_
      rintro e w1 ⟨s, rfl, hs, rfl⟩
      have he := HE.out s hs
      clear hs
      go_wp2
      go_ret
      exact ⟨rfl, Below.refl _ _⟩
    · have d0 : decide (n < 0) = false := decide_eq_false h0
      by_cases h1 : hi k ≤ n
      · have d1 : decide (hi k ≤ n) = true := decide_eq_true h1
        obtain rfl : 0 = r := by rw [← hr]; exact (kind_no (.inr h1)).symm
        go_enter Try.func11, Try.ntmps11
        go_wp2_with fail
        refine (HR.out _).mono ?_
        rintro e w1 ⟨s, rfl, hs, rfl⟩
        obtain ⟨hy1, hy2⟩ := HA.out s hs
        have he := HE.out s hs
        clear hs
        go_wp2_with fail
        refine (HY.out _).mono ?_
        rintro e w1 ⟨rfl, rfl⟩
        go_wp2
        go_ret
        exact ⟨rfl, Below.refl _ _⟩
      · have d1 : decide (hi k ≤ n) = false := decide_eq_false h1
        obtain ⟨i, rfl⟩ := Int.eq_ofNat_of_zero_le (show 0 ≤ n by omega)
        rw [kind_k hk (by omega)] at hr
        have hz := hki i (by omega)
        rw [hr] at hz
        have HZ := Lib.hid (fun (s : ByteArray) (hs : s.data.toList = pr k) => like_at s (15 + min i 2) r (hs ▸ hz))
        have hm : (15 + min (i : Int) 2).toNat = 15 + min i 2 := by omega
        go_enter Try.func11, Try.ntmps11
        go_wp2_with fail
        refine (HR.out _).mono ?_
        rintro e w1 ⟨s, rfl, hs, rfl⟩
        obtain ⟨hy1, hy2⟩ := HA.out s hs
        obtain ⟨hz1, hz2⟩ := HZ.out s hs
        have h9 : s.size = 18 := by rw [← len, hs]; exact hl
        have he := HE.out s hs
        clear hs
        go_wp2_with fail
        refine (HY.out _).mono ?_
        rintro e w1 ⟨rfl, rfl⟩
        go_wp2
        go_ret
        exact ⟨rfl, Below.refl _ _⟩
  · obtain rfl : 0 = r := by rw [← hr]; exact ((no_fn h).2.2 n).symm
    have HR := Lib.hid (fun w1 => row_out fn h w1)
    go_enter Try.func11, Try.ntmps11
    go_wp2_with fail
    refine (HR.out _).mono ?_
    rintro e w1 ⟨rfl, rfl⟩
    go_wp2
    go_ret
    exact ⟨rfl, Below.refl _ _⟩
theorem lazy_c (fn : Int) (r : Bool) (hr : (kindF fn 0 == 101) = r) (w : World) : Calls Try.prog 13 #[.int .i64 fn] w fun e w' => e = .returned (.bool r) ∧ Below w.heap.size w w' := by
  obtain ⟨c, hc⟩ : ∃ c, kindF fn 0 = c := ⟨_, rfl⟩
  have HK := Lib.hid (fun w1 => kind_c fn 0 c hc w1)
  rw [hc] at hr
  have e1 : ((c.toNat : Int) == 101) = r := by
    rw [← hr, Bool.eq_iff_iff, beq_iff_eq, beq_iff_eq, ← UInt8.toNat_inj]
    show _ ↔ c.toNat = 101
    omega
  clear hr hc
  go_enter Try.func13, Try.ntmps13
  go_wp2_with fail
  refine (HK.out _).mono ?_
  rintro e w1 ⟨rfl, hb⟩
  go_wp2
  go_ret
  exact ⟨by rw [← e1]; rfl, hb⟩
set_option maxRecDepth 100000 in
set_option maxHeartbeats 2000000 in
theorem number_c (s : ByteArray) (n : Nat) (hn : findF s.data.toList = n) (w : World) : Calls Try.prog 5 #[.string s] w fun e w' => e = .returned (.int .i64 (n : Int)) ∧ Below w.heap.size w w' := by
  have HN := Lib.hid (fun (k : Nat) w1 => name_c ((k : Int) + 1) w1)
  have H0 : Hid (idx s.data.toList (names.drop 0) (0 + 1) = n) := Lib.hid hn
  have HX : Hid (∀ k, k < 78 → idx s.data.toList (names.drop k) (k + 1) = n → (s.data.toList = nameF ((k : Int) + 1) → n = k + 1) ∧ (s.data.toList ≠ nameF ((k : Int) + 1) → idx s.data.toList (names.drop (k + 1)) (k + 1 + 1) = n)) :=
    Lib.hid fun k hk e => by
      rw [name_k hk]
      exact ⟨fun h => by rw [← e, idx_here hk h.symm], fun h => by rw [← e, idx_next hk (Ne.symm h)]⟩
  have HZ : Hid (idx s.data.toList (names.drop 78) (78 + 1) = n → n = 0) := Lib.hid fun e => by rw [← e, idx_end]
  clear hn
  go_enter Try.func5, Try.ntmps5
  go_wp2
  go_loopw [3] (fun i wr => ∃ k : Nat, k ≤ 78 ∧ i = .int .i64 ((k : Int) + 1) ∧ Hid (idx s.data.toList (names.drop k) (k + 1) = n) ∧ Below w.heap.size w wr) (fun i _ => 80 - (intOf i).toNat)
  case atStart => exact ⟨0, by omega, rfl, H0, Below.refl _ _⟩
  case round =>
    clear H0
    obtain ⟨k, hk, rfl, hx, hb⟩ := hrel
    by_cases h1 : k < 78
    · have d1 : decide ((k : Int) + 1 ≤ 78) = true := decide_eq_true (by omega)
      obtain ⟨hyes, hno⟩ := HX.out k h1 hx.out
      replace hyes := Lib.hid hyes
      replace hno := Lib.hid hno
      clear hx HZ HX
      go_wp2_with fail
      refine (HN.out k _).mono ?_
      rintro e w1 ⟨t, rfl, ht, hb1⟩
      have hb2 := on hb hb1
      by_cases h2 : t = s
      · subst h2
        obtain rfl := hyes.out ht
        clear hyes hno ht hb hb1 HN
        have q1 : (t.toList == t.toList) = true := by simp
        go_wp2
        go_ret
        exact ⟨rfl, hb2⟩
      · have h3 := Lib.hid (hno.out fun e => h2 (bytes_eq (ht.trans e.symm)))
        have q1 : (t.toList == s.toList) = false := by
          rw [beq_eq_false_iff_ne, Lib.toList_data, Lib.toList_data]
          exact fun e => h2 (bytes_eq e)
        clear hyes hno ht hb hb1 HN h2
        go_wp2
        go_roundw
        case rel => exact ⟨k + 1, by omega, by go_num, h3, hb2⟩
        case measure => simp [intOf]; omega
    · obtain rfl : k = 78 := by omega
      obtain rfl := HZ.out hx.out
      clear hx HZ HX HN
      go_wp2
      go_ret
      exact ⟨rfl, hb⟩
end Go.Proofs.Yteojdidjeinlpaa.Fnm
