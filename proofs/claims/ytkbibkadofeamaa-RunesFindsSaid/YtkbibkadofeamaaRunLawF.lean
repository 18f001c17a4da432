/- The law RunesFinds: where a needle is found is where the reference finds it, and there it is. -/
import Derived.Test.YtkbibkadofeamaaRunAlive
namespace Go.Proofs.Ytkbibkadofeamaa.Run
open Go.RowKit Kit Reg

set_option maxRecDepth 100000 in
set_option maxHeartbeats 4000000 in
theorem finds_law (t s : ByteArray) (w : World) :
    Calls Try.prog 5 #[.string t, .string s] w fun e w' => e = .returned (.bool true) ∧ Below w.heap.size w w' := by
  have HV := Lib.hid alive_c
  have hb0 := Below.refl w.heap.size w
  by_cases hsz : 300 < s.size
  · have d1 : decide ((300 : Int) < (s.size : Int)) = true := decide_eq_true (by omega)
    go_enter Try.func5, Try.ntmps5
    go_wp2_with fail
    refine (HV.out _).mono ?_
    rintro e w1 ⟨rfl, hb1⟩
    go_wp2
    go_ret
    exact ⟨rfl, hb1⟩
  have d1 : decide ((300 : Int) < (s.size : Int)) = false := decide_eq_false (by omega)
  by_cases htz : 300 < t.size
  · have d2 : decide ((300 : Int) < (t.size : Int)) = true := decide_eq_true (by omega)
    go_enter Try.func5, Try.ntmps5
    go_wp2_with fail
    refine (HV.out _).mono ?_
    rintro e w1 ⟨rfl, hb1⟩
    go_wp2
    go_ret
    exact ⟨rfl, hb1⟩
  have d2 : decide ((300 : Int) < (t.size : Int)) = false := decide_eq_false (by omega)
  have h9 : s.size ≤ 1000000 := by omega
  have h8 : t.size ≤ 1000000 := by omega
  obtain ⟨l, hs⟩ : ∃ l, s.data.toList = l := ⟨_, rfl⟩
  obtain ⟨n, ht⟩ : ∃ n, t.data.toList = n := ⟨_, rfl⟩
  have hl := len_of hs
  have hpl := ps_len l
  obtain ⟨c, hc⟩ : ∃ c, (ps l).length = c := ⟨_, rfl⟩
  have HF := Lib.hid (fun w => find_c t s n l ht hs h8 h9 w)
  have HRF := Lib.hid (fun w => rfind_c t s n l ht hs h8 h9 w)
  have HC := Lib.hid (fun w => count_c s l hs h9 c hc w)
  have HK : Hid (∀ k, FindIs n l (some k) → k ≤ c ∧ ∃ x : ByteArray, ((x.extract 0 t.size).toList == t.toList) = true ∧ t.size ≤ x.size ∧ x.size ≤ 1000000 ∧
      ∀ j : Nat, j + k = c → ∀ w, Calls Try.prog 12 #[.string s, .int .i64 j] w fun e w' => e = .returned (.string x) ∧ Below w.heap.size w w') := Lib.hid fun k hk => by
    have hkc : k ≤ c := by
      rcases hk with ⟨_, h⟩ | ⟨_, h, _⟩ <;> omega
    have hhit : (l.drop (offL l k)).take n.length = n := by
      rcases hk with ⟨h, _⟩ | ⟨_, _, h, _⟩
      · rw [h]; rfl
      · exact of_decide_eq_true h
    have hxs : (⟨(l.drop (offL l k)).toArray⟩ : ByteArray).size = l.length - offL l k := by rw [ByteArray.size, List.size_toArray, List.length_drop]
    refine ⟨hkc, ⟨(l.drop (offL l k)).toArray⟩, ?_, ?_, by omega, fun j hj w => ?_⟩
    · rw [toList_eq, ext_take, ht]
      have : t.size = n.length := (len_of ht).symm
      rw [this]
      exact decide_eq_true hhit
    · have h1 := congrArg List.length hhit
      rw [List.length_take, List.length_drop] at h1
      have := len_of ht
      omega
    · refine (right_c s l hs h9 j (by omega) (by omega) w).mono fun e w' ⟨x, h1, h2, h3⟩ => ⟨?_, h3⟩
      rw [h1, str_is h2, rightL, hc, Int.toNat_natCast, show c - j = k by omega]
  have hc9 : c ≤ 1000000 := by omega
  clear hs ht hc hpl hl hsz htz
  go_enter Try.func5, Try.ntmps5
  go_wp2_with fail
  refine (HF.out _).mono ?_
  rintro e w1 ⟨r, rfl, hr, hb1⟩
  replace hb0 := on hb0 hb1
  clear hb1
  cases r with
  | none =>
    rw [foundV]
    go_wp2_with fail
    refine (HRF.out _).mono ?_
    rintro e w2 ⟨r2, rfl, hr2, hb1⟩
    obtain rfl := FindIs.unique hr hr2
    replace hb0 := on hb0 hb1
    clear hb1 hr hr2
    rw [placeI]
    go_wp2_with fail
    refine (HV.out _).mono ?_
    rintro e w3 ⟨rfl, hb1⟩
    replace hb0 := on hb0 hb1
    clear hb1
    go_wp2
    go_ret
    exact ⟨rfl, hb0⟩
  | some k =>
    obtain ⟨hkc, x, hx, hx1, hx2, HR⟩ := HK.out k hr
    obtain ⟨j, hj⟩ : ∃ j, j + k = c := ⟨c - k, by omega⟩
    have HR2 := Lib.hid (HR j hj)
    have hji : (c : Int) - (k : Int) = (j : Int) := by omega
    have hj9 : j ≤ 1000000 := by omega
    have hk9 : k ≤ 1000000 := by omega
    clear HR hj
    rw [foundV]
    go_wp2_with fail
    refine (HRF.out _).mono ?_
    rintro e w2 ⟨r2, rfl, hr2, hb1⟩
    obtain rfl := FindIs.unique hr hr2
    replace hb0 := on hb0 hb1
    clear hb1 hr hr2
    rw [placeI]
    go_wp2_with fail
    refine (HC.out _).mono ?_
    rintro e w3 ⟨rfl, hb1⟩
    replace hb0 := on hb0 hb1
    clear hb1
    go_wp2_with fail
    refine (HR2.out _).mono ?_
    rintro e w4 ⟨rfl, hb1⟩
    replace hb0 := on hb0 hb1
    clear hb1
    go_wp2_with fail
    refine (HV.out _).mono ?_
    rintro e w5 ⟨rfl, hb1⟩
    replace hb0 := on hb0 hb1
    clear hb1
    go_wp2
    go_ret
    exact ⟨rfl, hb0⟩
end Go.Proofs.Ytkbibkadofeamaa.Run
