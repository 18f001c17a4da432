/- The law TextJoins: texts put together in two pieces are the same. -/
import Derived.Test.YtckcoogmfgegeaaDoorTxtAlive
namespace Go.Proofs.YtckcoogmfgegeaaDoor.Txt
open Go.RowKit Kit Reg

theorem StrsO.take {w : World} {A : Option Addr} {L : List (List UInt8)} (h : StrsO w A L) (k : Nat) : StrsO w A (L.take k) := by
  rcases h with h | ⟨g, o, hA, hg, h⟩
  · exact .inl (by rw [h]; simp)
  · exact .inr ⟨g, o, hA, hg, fun i n hi => h i n (by rw [List.getElem?_take] at hi; split at hi; exact hi; cases hi)⟩
theorem StrsO.drop {w : World} {g o : Nat} {L : List (List UInt8)} (h : StrsO w (some ⟨g, o, none⟩) L) (k : Nat) : StrsO w (some ⟨g, o + k, none⟩) (L.drop k) := by
  rcases h with h | ⟨g', o', hA, hg, h⟩
  · exact .inl (by rw [h]; simp)
  · simp only [Option.some.injEq, Addr.mk.injEq, and_true] at hA
    obtain ⟨rfl, rfl⟩ := hA
    exact .inr ⟨g, o + k, rfl, hg, fun i n hi => by
      rw [List.getElem?_drop] at hi
      have := h (k + i) n hi
      rwa [← Nat.add_assoc] at this⟩
theorem StrsO.add {w : World} {a : Addr} {L : List (List UInt8)} (h : StrsO w (some a) L) (k : Nat) : StrsO w (some (a.add k)) (L.drop k) := by
  have h0 := h
  rcases h with h | ⟨g, o, hA, hg, h⟩
  · exact .inl (by rw [h]; simp)
  · obtain rfl : a = ⟨g, o, none⟩ := by simpa using hA
    have e : (⟨g, o, none⟩ : Addr).add k = ⟨g, o + k, none⟩ := by unfold Addr.add; split <;> simp_all
    rw [e]
    exact h0.drop k
theorem StrsO.ends {w : World} {A : Option Addr} {L : List (List UInt8)} {k : Nat} (h : L.length ≤ k) : StrsO w A (L.drop k) := .inl (List.drop_of_length_le h)
/-- where nothing is read, the address matters nothing -/
theorem StrsO.nil {w : World} {A : Option Addr} : StrsO w A [] := .inl rfl
theorem room_parts {L : List (List UInt8)} (k : Nat) (h : L.flatten.length ≤ 256) : (L.take k).flatten.length ≤ 256 ∧ (L.drop k).flatten.length ≤ 256 ∧ (L.take k).flatten ++ (L.drop k).flatten = L.flatten := by
  have e : (L.take k).flatten ++ (L.drop k).flatten = L.flatten := by rw [← List.flatten_append, List.take_append_drop]
  have := congrArg List.length e
  rw [List.length_append] at this
  exact ⟨by omega, by omega, e⟩
set_option maxRecDepth 100000 in
set_option maxHeartbeats 4000000 in
theorem joins_out (A : Option Addr) (n c : Nat) (k : Int) (h : 60 < n ∨ (n ≤ 60 ∧ k < 0) ∨ (n ≤ 60 ∧ 0 ≤ k ∧ (n : Int) < k)) (w : World) (hL : PLibs w) :
    Calls Tryd.prog 5 #[.slice A n c, .int .i64 k] w fun e w' => e = .returned (.bool true) ∧ Below w.heap.size w w' := by
  have HV := Lib.hid alive_c
  have HL := Lib.hid hL
  clear hL
  rcases h with h1 | ⟨h1, h2⟩ | ⟨h1, h2, h3⟩
  · have d1 : decide ((60 : Int) < (n : Int)) = true := decide_eq_true (by omega)
    go_enter Tryd.func5, Tryd.ntmps5
    go_wp2_with fail
    refine (HV.out _ HL.out).mono ?_
    rintro e w1 ⟨rfl, hb1⟩
    go_wp2
    go_ret
    exact ⟨rfl, hb1⟩
  · have d1 : decide ((60 : Int) < (n : Int)) = false := decide_eq_false (by omega)
    go_enter Tryd.func5, Tryd.ntmps5
    go_wp2_with fail
    refine (HV.out _ HL.out).mono ?_
    rintro e w1 ⟨rfl, hb1⟩
    go_wp2
    go_ret
    exact ⟨rfl, hb1⟩
  · have d1 : decide ((60 : Int) < (n : Int)) = false := decide_eq_false (by omega)
    have d2 : decide (k < 0) = false := decide_eq_false (by omega)
    have d3 : decide ((n : Int) < k) = true := decide_eq_true h3
    go_enter Tryd.func5, Tryd.ntmps5
    go_wp2_with fail
    refine (HV.out _ HL.out).mono ?_
    rintro e w1 ⟨rfl, hb1⟩
    go_wp2
    go_ret
    exact ⟨rfl, hb1⟩
/-- what Join has to answer -/
def JoinsC : Prop := ∀ (A : Option Addr) (cap c : Nat) (L : List (List UInt8)) (s : ByteArray) (b : Bool), L.length = c → c ≤ 60 → (∀ x ∈ L, x.length ≤ 400) → roomD L.flatten = (s.data.toList, b) → ∀ w : World, StrsO w A L →
  Calls Tryd.prog 18 #[.slice A c cap] w fun e w' => e = .returned (.tuple #[.string s, .bool b]) ∧ w = w'
theorem joinsC : JoinsC := fun A cap c L s b h1 h2 h3 h4 w h5 => by
  have h := join_c A cap c L h1 (by omega) (fun x hx => Nat.le_trans (h3 x hx) (by omega)) _ _ h4 w h5
  rw [← str_is (t := s) rfl] at h
  exact h
set_option maxRecDepth 100000 in
set_option maxHeartbeats 8000000 in
theorem joins_in (w : World) (A : Option Addr) (n c : Nat) (L : List (List UInt8)) (hn : L.length = n) (hst : ∀ w', Below w.heap.size w w' → StrsO w' A L) (hnc : n ≤ c) (hA : A = none → n = 0 ∧ c = 0) (K : Nat) (h1 : n ≤ 60) (h2 : K ≤ n) (hL : PLibs w) :
    Calls Tryd.prog 5 #[.slice A n c, .int .i64 (K : Int)] w fun e w' => e = .returned (.bool true) ∧ Below w.heap.size w w' := by
  have HV := Lib.hid alive_c
  have HL := Lib.hid hL
  have HJ := Lib.hid joinsC
  have HN := Lib.hid hn
  have H := Lib.hid hst
  have HAn := Lib.hid hA
  have d1 : decide ((60 : Int) < (n : Int)) = false := decide_eq_false (by omega)
  have d2 : decide ((K : Int) < 0) = false := decide_eq_false (by omega)
  have d3 : decide ((n : Int) < (K : Int)) = false := decide_eq_false (by omega)
  have d4 : decide (n < K) = false := decide_eq_false (by omega)
  have d5 : decide (60 < n) = false := decide_eq_false (by omega)
  clear hL hn hst hA
  go_enter Tryd.func5, Tryd.ntmps5
  go_wp2
  go_loopw [30] (fun i wr => ∃ j : Nat, j ≤ n ∧ i = .int .i64 j ∧ Hid (∀ i, i < j → ∀ x : List UInt8, L[i]? = some x → x.length ≤ 400) ∧ w = wr) (fun i _ => n - (intOf i).toNat)
  case atStart => exact ⟨0, Nat.zero_le _, rfl, Lib.hid fun i hi => by omega, rfl⟩
  case round =>
    obtain ⟨j, hj, rfl, hall, rfl⟩ := hrel
    by_cases hlt : j < n
    · obtain ⟨p, hp⟩ : ∃ p, L[j]? = some p := ⟨_, List.getElem?_eq_getElem (by rw [HN.out]; exact hlt)⟩
      have hne : L ≠ [] := by intro e; have := HN.out; rw [e] at this; simp at this; omega
      obtain ⟨g, of, rfl, hg, hc1⟩ := (H.out w (Below.refl _ _)).resolve_left hne
      have x0 := hc1 j p hp
      by_cases hp4 : p.length ≤ 400
      · have HA2 : Hid (∀ i, i < j + 1 → ∀ x : List UInt8, L[i]? = some x → x.length ≤ 400) := Lib.hid fun i hi x hx => by
          rcases Nat.lt_or_ge i j with h | h
          · exact hall.out i h x hx
          · obtain rfl : i = j := by omega
            rw [hp] at hx
            obtain rfl := Option.some.inj hx
            exact hp4
        rw [← arr_size p] at hp4
        have d6 : decide ((400 : Int) < ((⟨p.toArray⟩ : ByteArray).size : Int)) = false := decide_eq_false (by omega)
        clear hc1 hp hne hall
        generalize (⟨p.toArray⟩ : ByteArray) = y at *
        go_wp2
        go_roundw
        case rel => exact ⟨j + 1, by omega, by go_num, HA2, by first | rfl | trivial⟩
        case measure => simp [intOf]; omega
      · rw [← arr_size p] at hp4
        have d6 : decide ((400 : Int) < ((⟨p.toArray⟩ : ByteArray).size : Int)) = true := decide_eq_true (by omega)
        clear hc1 hp hne hall
        generalize (⟨p.toArray⟩ : ByteArray) = y at *
        go_wp2_with fail
        refine (HV.out _ HL.out).mono ?_
        rintro e w1 ⟨rfl, hb1⟩
        go_wp2
        go_ret
        exact ⟨rfl, hb1⟩
    · obtain rfl : j = n := by omega
      have h9 : ∀ x ∈ L, x.length ≤ 400 := fun x hx => by
        obtain ⟨i, hi⟩ := List.getElem?_of_mem hx
        exact hall.out i (by have := (List.getElem?_eq_some_iff.1 hi).1; rw [HN.out] at this; exact this) x hi
      obtain ⟨⟨m, b⟩, hm⟩ : ∃ y, roomD L.flatten = y := ⟨_, rfl⟩
      obtain ⟨⟨m1, b1⟩, hm1⟩ : ∃ y, roomD (L.take K).flatten = y := ⟨_, rfl⟩
      obtain ⟨⟨m2, b2⟩, hm2⟩ : ∃ y, roomD (L.drop K).flatten = y := ⟨_, rfl⟩
      obtain ⟨x, hx⟩ : ∃ s : ByteArray, s.data.toList = m := ⟨⟨m.toArray⟩, rfl⟩
      obtain ⟨x1, hx1⟩ : ∃ s : ByteArray, s.data.toList = m1 := ⟨⟨m1.toArray⟩, rfl⟩
      obtain ⟨x2, hx2⟩ : ∃ s : ByteArray, s.data.toList = m2 := ⟨⟨m2.toArray⟩, rfl⟩
      have hs1 : x1.size ≤ 256 := by rw [← len, hx1]; exact room_len hm1
      have hs2 : x2.size ≤ 256 := by rw [← len, hx2]; exact room_len hm2
      have hcat : b = true → b1 = true ∧ b2 = true ∧ x1 ++ x2 = x := fun hb => by
        have h0 : L.flatten.length ≤ 256 := by
          have := room_eq L.flatten
          rw [hm] at this
          exact of_decide_eq_true (this.symm.trans hb)
        obtain ⟨e1, e2, e3⟩ := room_parts K h0
        rw [room_in h0] at hm
        rw [room_in e1] at hm1
        rw [room_in e2] at hm2
        obtain ⟨rfl, _⟩ := Prod.mk.inj hm
        obtain ⟨rfl, rfl⟩ := Prod.mk.inj hm1
        obtain ⟨rfl, rfl⟩ := Prod.mk.inj hm2
        refine ⟨rfl, rfl, bytes_eq ?_⟩
        rw [hx, ← e3, ← hx1, ← hx2]
        simp
      have J0 : Hid (Calls Tryd.prog 18 #[.slice A j c] w fun e w' => e = .returned (.tuple #[.string x, .bool b]) ∧ w = w') := Lib.hid (HJ.out A c j L x b HN.out h1 h9 (by rw [hm, hx]) w (H.out w (Below.refl _ _)))
      have Q0 : Hid (Calls Tryd.prog 19 #[.slice A j c] w fun e w' => e = .returned (.agg #[.string x, .bool b]) ∧ Below w.heap.size w w') := Lib.hid (by
        exact (rjoin_c A c j L HN.out (by omega) (fun x hx => Nat.le_trans (h9 x hx) (by omega)) m b hm w (H.out w (Below.refl _ _))).mono fun e w' ⟨he, hb⟩ => ⟨by rw [he, ← hx, ← str_is (t := x) rfl], hb⟩)
      have J1 : Hid (∀ w', StrsO w' A (L.take K) → Calls Tryd.prog 18 #[.slice A K c] w' fun e w2 => e = .returned (.tuple #[.string x1, .bool b1]) ∧ w' = w2) := Lib.hid fun w' h => HJ.out A c K (L.take K) x1 b1 (by rw [List.length_take, HN.out]; omega) (by omega) (fun x hx => h9 x (List.mem_of_mem_take hx)) (by rw [hm1, hx1]) w' h
      have J2 : Hid (∀ (A' : Option Addr) (cap : Nat) w', StrsO w' A' (L.drop K) → Calls Tryd.prog 18 #[.slice A' (j - K) cap] w' fun e w2 => e = .returned (.tuple #[.string x2, .bool b2]) ∧ w' = w2) := Lib.hid fun A' cap w' h => HJ.out A' cap (j - K) (L.drop K) x2 b2 (by rw [List.length_drop, HN.out]) (by omega) (fun x hx => h9 x (List.mem_of_mem_drop hx)) (by rw [hm2, hx2]) w' h
      clear hm hm1 hm2 hx hx1 hx2 h9 hall
      have q1 : (0 : Int) ≤ (K : Int) := by omega
      have q2 : (K : Int) ≤ (j : Int) := by omega
      have q3 : (j : Int) ≤ (c : Int) := by omega
      have q4 : K ≤ c := by omega
      cases A with
      | none =>
        obtain ⟨rfl, rfl⟩ := HAn.out rfl
        obtain rfl : K = 0 := by omega
        go_wp2_with fail
        refine (J0.out).mono ?_
        rintro e w1 ⟨rfl, rfl⟩
        go_wp2_with fail
        refine (Q0.out).mono ?_
        rintro e w1 ⟨rfl, hb0⟩
        replace hb0 := on_alloc hb0 (.cells #[.string x, .bool b] 30)
        have hst := H.out _ hb0
        clear J0 Q0
        go_wp2_with fail
        refine (J1.out _ (hst.take 0)).mono ?_
        rintro e w2 ⟨rfl, rfl⟩
        clear J1
        replace hcat := Lib.hid hcat
        replace hst := Lib.hid hst
        go_wp2_with fail
        all_goals
          first
          | with_reducible refine (J2.out _ _ _ (StrsO.ends (by rw [HN.out]; omega))).mono ?_
          rintro e w2 ⟨rfl, rfl⟩
          clear J2 hst
          cases b
          · clear hcat
            go_wp2_with fail
            refine (HV.out _ (HL.out.grown hb0)).mono ?_
            rintro e w3 ⟨rfl, hb1⟩
            go_wp2
            go_ret
            exact ⟨rfl, on hb0 hb1⟩
          · obtain ⟨rfl, rfl, hX⟩ := hcat.out rfl
            clear hcat
            go_wp2_with fail
            refine (HV.out _ (HL.out.grown hb0)).mono ?_
            rintro e w3 ⟨rfl, hb1⟩
            go_wp2
            go_ret
            exact ⟨rfl, on hb0 hb1⟩
      | some a =>
        go_wp2_with fail
        refine (J0.out).mono ?_
        rintro e w1 ⟨rfl, rfl⟩
        go_wp2_with fail
        refine (Q0.out).mono ?_
        rintro e w1 ⟨rfl, hb0⟩
        replace hb0 := on_alloc hb0 (.cells #[.string x, .bool b] 30)
        have hst := H.out _ hb0
        clear J0 Q0
        go_wp2_with fail
        refine (J1.out _ (hst.take K)).mono ?_
        rintro e w2 ⟨rfl, rfl⟩
        clear J1
        replace hcat := Lib.hid hcat
        replace hst := Lib.hid hst
        go_wp2_with fail
        all_goals
          first
          | with_reducible refine (J2.out _ _ _ (hst.out.add K)).mono ?_
          | with_reducible refine (J2.out _ _ _ (StrsO.ends (by rw [HN.out]; omega))).mono ?_
          rintro e w2 ⟨rfl, rfl⟩
          clear J2 hst
          cases b
          · clear hcat
            go_wp2_with fail
            refine (HV.out _ (HL.out.grown hb0)).mono ?_
            rintro e w3 ⟨rfl, hb1⟩
            go_wp2
            go_ret
            exact ⟨rfl, on hb0 hb1⟩
          · obtain ⟨rfl, rfl, hX⟩ := hcat.out rfl
            clear hcat
            go_wp2_with fail
            refine (HV.out _ (HL.out.grown hb0)).mono ?_
            rintro e w3 ⟨rfl, hb1⟩
            go_wp2
            go_ret
            exact ⟨rfl, on hb0 hb1⟩
theorem joins_law (A : Option Addr) (n c : Nat) (L : List (List UInt8)) (k : Int) (w : World) (hA : (A = none → n = 0 ∧ c = 0) ∧ n ≤ c) (hn : L.length = n) (hst : StrsO w A L) (hL : PLibs w) :
    Calls Tryd.prog 5 #[.slice A n c, .int .i64 k] w fun e w' => e = .returned (.bool true) ∧ Below w.heap.size w w' := by
  by_cases h1 : n ≤ 60
  · by_cases h2 : k < 0
    · exact joins_out A n c k (.inr (.inl ⟨h1, h2⟩)) w hL
    · by_cases h3 : (n : Int) < k
      · exact joins_out A n c k (.inr (.inr ⟨h1, by omega, h3⟩)) w hL
      · obtain ⟨K, rfl⟩ := Int.eq_ofNat_of_zero_le (show 0 ≤ k by omega)
        exact joins_in w A n c L hn (fun w' hb => hst.on hb) hA.2 hA.1 K h1 (by omega) hL
  · exact joins_out A n c k (.inl (by omega)) w hL
end Go.Proofs.YtckcoogmfgegeaaDoor.Txt
