/- DigitsNoughts, walked: noughts ahead, and behind, change nothing of what a text means. -/
import Derived.Test.YtfaidiigglkmiaaDoorDigAlive
namespace Go.Proofs.YtfaidiigglkmiaaDoor.Dig
open Go.RowKit Kit Dec

theorem lead_num {W p : List UInt8} (hW : AllD W) (hl : W.length ≤ 30) (hp : AllD p) (h1 : 1 ≤ p.length) (h4 : p.length ≤ 4) {n : Int} (hm : readB false (W ++ 46 :: p) = (n, true)) : leadD (W ++ 46 :: (p ++ [97])) = (n, W.length + 1 + p.length, true) := by
  obtain ⟨e1, e2⟩ := wholeL_app (m := 30) (w := W) (r := 46 :: (p ++ [97])) hW hl (.inr (dot_no _))
  have e3 : partR (46 :: (p ++ [97])) = p := by
    rw [partR_point, lead_app hp h4 (.inr rfl), List.take_left]
  rw [readB_point false hW hp (by rw [List.length_append, List.length_cons]; omega), if_pos ⟨h1, h4⟩] at hm
  unfold leadD
  rw [e1, e2, e3, hm]
  have hs : sizeL W p = W.length + 1 + p.length := by unfold sizeL; rw [if_neg (fun e => by rw [e] at h1; simp at h1)]
  rw [hs]
  rfl
/-- noughts ahead of a whole number's digits -/
def padL (a u : Nat) : List UInt8 := List.replicate a 48 ++ Lib.decDigits u
theorem pad_facts {a u : Nat} (ha : a ≤ 10) (hu : u < 1000000000000000) : AllD (padL a u) ∧ padL a u ≠ [] ∧ (padL a u).length ≤ 25 ∧ valF 0 (padL a u) = u := by
  obtain ⟨d1, d2, d3⟩ := dd_facts u
  have dl := dd_len15 hu
  unfold padL
  refine ⟨(AllD.noughts a).app d1, by simp [d3], ?_, ?_⟩
  · rw [List.length_append, List.length_replicate]; omega
  · rw [valF_app, valF_noughts, d2]
theorem signed_pos (X : Nat) (h2 : X ≤ 9223372036854775807) : giveD true (signed false X) = ((X : Int), true) := giveD_in (by show _ ≤ (X : Int); omega) (by show (X : Int) ≤ _; omega)
theorem signed_neg (X : Nat) (h2 : X ≤ 9223372036854775807) : giveD true (signed true X) = (-(X : Int), true) := giveD_in (by show _ ≤ -(X : Int); omega) (by show -(X : Int) ≤ _; omega)
theorem pad_text {X : Nat} (h2 : X ≤ 9223372036854775807) (a : Nat) : List.replicate a 48 ++ textD (X : Int) = padL a (X / 10000) ++ fracL (X % 10000) := by
  rw [textD_may (mayD_yes (by omega)), decide_eq_false (show ¬ (X : Int) < 0 by omega), show (X : Int).natAbs = X by omega]
  show List.replicate a 48 ++ (Lib.decDigits _ ++ _) = _
  unfold padL
  rw [List.append_assoc]
theorem pad_read {X a : Nat} (h2 : X ≤ 9223372036854775807) (ha : a ≤ 10) :
    readD (List.replicate a 48 ++ textD (X : Int)) = ((X : Int), true) ∧ readD (45 :: (List.replicate a 48 ++ textD (X : Int))) = (-(X : Int), true) := by
  rw [pad_text h2]
  obtain ⟨p1, p2, p3, p4⟩ := pad_facts ha (show X / 10000 < 1000000000000000 by omega)
  have fl := frac_len (X % 10000)
  have e : X / 10000 * 10000 + X % 10000 = X := Nat.div_add_mod' X 10000
  constructor
  · rw [readD_plain p1 p2 (by rw [List.length_append]; omega), readB_num false p1 p2 (by omega) (Nat.mod_lt _ (by omega)), p4, e]
    exact signed_pos X h2
  · rw [readD_neg (by rw [List.length_append]; omega), readB_num true p1 p2 (by omega) (Nat.mod_lt _ (by omega)), p4, e]
    exact signed_neg X h2
/-- with a part behind the point -/
theorem pad_part {X a : Nat} (h2 : X ≤ 9223372036854775807) (ha : a ≤ 10) (hr : X % 10000 ≠ 0) :
    leadD (List.replicate a 48 ++ textD (X : Int) ++ [97]) = ((X : Int), (List.replicate a 48 ++ textD (X : Int)).length, true) := by
  obtain ⟨p1, p2, p3, p4⟩ := pad_facts ha (show X / 10000 < 1000000000000000 by omega)
  have h := (pad_read h2 ha).1
  rw [pad_text h2] at h ⊢
  have hr4 : X % 10000 < 10000 := Nat.mod_lt _ (by omega)
  rw [readD_plain p1 p2 (by rw [List.length_append]; have := frac_len (X % 10000); omega)] at h
  have ef : fracL (X % 10000) = 46 :: partT (X % 10000) := by unfold fracL; rw [if_neg hr]
  rw [ef] at h ⊢
  have hl := lead_num p1 (by omega) (partT_all hr4) (by rw [part_len]; exact pl_pos hr) (by rw [part_len]; exact pl_le _) h
  rw [List.append_assoc, List.cons_append, hl, List.length_append, List.length_cons]
  congr 2
  omega
/-- without one: noughts are put behind -/
theorem pad_whole {X a : Nat} (h2 : X ≤ 9223372036854775807) (ha : a ≤ 10) (hr : X % 10000 = 0) :
    readD (List.replicate a 48 ++ textD (X : Int) ++ [46, 48, 48, 48, 48]) = ((X : Int), true) ∧
      leadD (List.replicate a 48 ++ textD (X : Int) ++ [46, 48, 48, 48, 48] ++ [97]) = ((X : Int), (List.replicate a 48 ++ textD (X : Int) ++ [46, 48, 48, 48, 48]).length, true) := by
  obtain ⟨p1, p2, p3, p4⟩ := pad_facts ha (show X / 10000 < 1000000000000000 by omega)
  have e : X / 10000 * 10000 = X := by omega
  rw [pad_text h2, hr]
  have ef : fracL 0 = [] := rfl
  rw [ef, List.append_nil]
  have hb : readB false (padL a (X / 10000) ++ [46, 48, 48, 48, 48]) = ((X : Int), true) := by
    rw [readB_whole false p1 p2 (by omega), p4, e]; exact signed_pos X h2
  constructor
  · rw [readD_plain p1 p2 (by rw [List.length_append]; simp; omega)]
    exact hb
  · have hl := lead_num (p := [48, 48, 48, 48]) p1 (by omega) (AllD.noughts 4) (by simp) (by simp) hb
    rw [List.append_assoc]
    show leadD (padL a (X / 10000) ++ 46 :: ([48, 48, 48, 48] ++ [97])) = _
    rw [hl, List.length_append]
    rfl
set_option maxRecDepth 100000 in
set_option maxHeartbeats 2000000 in
theorem noughts_neg (x : Int) (h : x < 0) (A : Nat) (w : World) (hL : Libs w) : Calls Tryd.prog 5 #[.int .i64 x, .int .u8 A] w (LawEnd w) := by
  have HL := Lib.hid hL
  clear hL
  go_enter Tryd.func5, Tryd.ntmps5
  go_wp2_with fail
  refine (alive_c _ HL.out).mono ?_
  rintro e w1 ⟨rfl, hb1⟩
  go_wp2
  go_ret
  exact ⟨rfl, hb1⟩
set_option maxRecDepth 100000 in
set_option maxHeartbeats 4000000 in
theorem noughts_nat (X : Nat) (h2 : X ≤ 9223372036854775807) (A : Nat) (hA : A < 256) (w : World) (hL : Libs w) : Calls Tryd.prog 5 #[.int .i64 X, .int .u8 A] w (LawEnd w) := by
  have C1 := Lib.hid (fun w1 hL => text_c (X : Int) (by omega) w1 hL)
  have hsz := Lib.hid (text_len (x := (X : Int)) (by omega) (by omega))
  have HL := Lib.hid hL
  clear hL
  obtain ⟨a, ha⟩ : ∃ a, A % 11 = a := ⟨_, rfl⟩
  have ha2 : (A : Int) % 11 = (a : Int) := by omega
  have ha10 : a ≤ 10 := by omega
  clear ha
  go_enter Tryd.func5, Tryd.ntmps5
  go_wp2_with fail
  refine (C1.out _ HL.out).mono ?_
  rintro e w1 ⟨s0, rfl, hs0, hb1⟩
  have hs0l : s0.size ≤ 21 := by rw [← len, hs0]; exact hsz.out
  have HS0 := Lib.hid hs0
  clear hs0 C1 hsz
  go_wp2
  go_loopw [5, 22] (fun s i wr => ∃ (j : Nat) (T : ByteArray), j ≤ a ∧ i = .int .u8 j ∧ s = .string T ∧ wr = w1 ∧ Hid (T.data.toList = List.replicate j 48 ++ textD (X : Int))) (fun _ i _ => a - (intOf i).toNat)
  case atStart => exact ⟨0, s0, Nat.zero_le _, rfl, rfl, rfl, Lib.hid HS0.out⟩
  case round =>
    obtain ⟨j, T, hj, rfl, rfl, rfl, hT⟩ := hrel
    by_cases hlt : j < a
    · have hgo : (j : Int) < (A : Int) % 11 := by omega
      clear ha2
      have hTl : T.size ≤ 31 := by rw [← len, hT.out, List.length_append, List.length_replicate, ← HS0.out, len]; omega
      have HT2 : Hid (∀ U : ByteArray, U.data.toList = 48 :: T.data.toList → U.data.toList = List.replicate (j + 1) 48 ++ textD (X : Int)) := Lib.hid fun U hU => by rw [hU, hT.out]; rfl
      clear hT
      go_wp2
      go_roundw
      case rel => exact ⟨j + 1, _, by omega, by go_num, rfl, by first | rfl | trivial, Lib.hid (HT2.out _ (by rw [cat_data]; rfl))⟩
      case measure => simp [intOf]; omega
    · have hgo : (A : Int) % 11 ≤ (j : Int) := by omega
      clear ha2
      obtain rfl : j = a := by omega
      have hTl : T.size ≤ 31 := by rw [← len, hT.out, List.length_append, List.length_replicate, ← HS0.out, len]; omega
      obtain ⟨r1, r2⟩ := pad_read h2 ha10
      rw [← hT.out] at r1 r2
      obtain ⟨V, hV⟩ : ∃ V : ByteArray, ⟨#[45]⟩ ++ T = V := ⟨_, rfl⟩
      have hVl : V.data.toList = 45 :: T.data.toList := by rw [← hV, cat_data]; rfl
      have hVs : V.size ≤ 32 := by rw [← len, hVl, List.length_cons, len]; omega
      rw [← hVl] at r2
      have D1 := Lib.hid (fun w1 hL => read_c T (by omega) (X : Int) true r1 w1 hL)
      have D2 := Lib.hid (fun w1 hL => read_c V (by omega) (-(X : Int)) true r2 w1 hL)
      have HL1 := Lib.hid (HL.out.grown hb1)
      have HW := Lib.hid (@pad_whole X j h2 ha10)
      have HP := Lib.hid (@pad_part X j h2 ha10)
      rw [← hT.out] at HW HP
      have hrem : (X : Int).tmod 10000 = ((X % 10000 : Nat) : Int) := by rw [Int.tmod_eq_emod_of_nonneg (by omega)]; omega
      obtain ⟨r, hr⟩ : ∃ r, X % 10000 = r := ⟨_, rfl⟩
      rw [hr] at HW HP hrem
      have R1 := Lib.hid r1
      clear hT r1 r2 hVl hr HS0 hlt
      go_wp2_with fail
      refine (D1.out _ HL1.out).mono ?_
      rintro e w2 ⟨rfl, hb2⟩
      have hb3 := on hb1 hb2
      have HL2 := Lib.hid (HL.out.grown hb3)
      clear hb1 hb2 HL1
      go_wp2_with fail
      try rw [hV]
      refine (D2.out _ HL2.out).mono ?_
      rintro e w3 ⟨rfl, hb4⟩
      have hb5 := on hb3 hb4
      have HL3 := Lib.hid (HL.out.grown hb5)
      clear hb3 hb4 HL2 hV
      by_cases h0 : r = 0
      · subst h0
        obtain ⟨g1, g2⟩ := HW.out rfl
        obtain ⟨U, hU⟩ : ∃ U : ByteArray, T ++ ⟨#[46, 48, 48, 48, 48]⟩ = U := ⟨_, rfl⟩
        have hUl : U.data.toList = T.data.toList ++ [46, 48, 48, 48, 48] := by rw [← hU, cat_data]
        have hUs : U.size ≤ 36 := by rw [← len, hUl, List.length_append, len]; simp only [List.length_cons, List.length_nil]; omega
        obtain ⟨Z, hZ⟩ : ∃ Z : ByteArray, U ++ ⟨#[97]⟩ = Z := ⟨_, rfl⟩
        have hZl : Z.data.toList = T.data.toList ++ [46, 48, 48, 48, 48] ++ [97] := by rw [← hZ, cat_data, hUl]
        have hZs : Z.size ≤ 37 := by rw [← len, hZl, List.length_append, List.length_append, len]; simp only [List.length_cons, List.length_nil]; omega
        rw [← hUl] at g1
        rw [← hZl, ← hUl, len] at g2
        have D3 := Lib.hid (fun w1 hL => read_c U (by omega) (X : Int) true g1 w1 hL)
        have D4 := Lib.hid (fun w1 hL => lead_c Z (by omega) (X : Int) U.size true g2 w1 hL)
        clear g1 g2 hUl hZl HW HP
        go_wp2_with fail
        refine (D3.out _ HL3.out).mono ?_
        rintro e w4 ⟨rfl, hb6⟩
        have hb7 := on hb5 hb6
        have HL4 := Lib.hid (HL.out.grown hb7)
        clear hb5 hb6 HL3
        go_wp2_with fail
        refine (D4.out _ HL4.out).mono ?_
        rintro e w5 ⟨rfl, hb8⟩
        have hb9 := on hb7 hb8
        have HL5 := Lib.hid (HL.out.grown hb9)
        clear hb7 hb8 HL4
        go_wp2_with fail
        refine (alive_c _ HL5.out).mono ?_
        rintro e w6 ⟨rfl, hb10⟩
        have hb11 := on hb9 hb10
        clear hb9 hb10
        go_wp2
        go_ret
        exact ⟨rfl, hb11⟩
      · have hz : ((r : Int) == 0) = false := by simpa using h0
        have g2 := HP.out h0
        obtain ⟨Z, hZ⟩ : ∃ Z : ByteArray, T ++ ⟨#[97]⟩ = Z := ⟨_, rfl⟩
        have hZl : Z.data.toList = T.data.toList ++ [97] := by rw [← hZ, cat_data]
        have hZs : Z.size ≤ 32 := by rw [← len, hZl, List.length_append, len]; simp only [List.length_cons, List.length_nil]; omega
        rw [← hZl, len] at g2
        have D3 := Lib.hid (fun w1 hL => read_c T (by omega) (X : Int) true R1.out w1 hL)
        have D4 := Lib.hid (fun w1 hL => lead_c Z (by omega) (X : Int) T.size true g2 w1 hL)
        clear g2 hZl HW HP h0
        go_wp2_with fail
        refine (D3.out _ HL3.out).mono ?_
        rintro e w4 ⟨rfl, hb6⟩
        have hb7 := on hb5 hb6
        have HL4 := Lib.hid (HL.out.grown hb7)
        clear hb5 hb6 HL3
        go_wp2_with fail
        refine (D4.out _ HL4.out).mono ?_
        rintro e w5 ⟨rfl, hb8⟩
        have hb9 := on hb7 hb8
        have HL5 := Lib.hid (HL.out.grown hb9)
        clear hb7 hb8 HL4
        go_wp2_with fail
        refine (alive_c _ HL5.out).mono ?_
        rintro e w6 ⟨rfl, hb10⟩
        have hb11 := on hb9 hb10
        clear hb9 hb10
        go_wp2
        go_ret
        exact ⟨rfl, hb11⟩
theorem noughts_law (x : Int) (A : Nat) (h2 : x ≤ 9223372036854775807) (hA : A < 256) (w : World) (hL : Libs w) : Calls Tryd.prog 5 #[.int .i64 x, .int .u8 A] w (LawEnd w) := by
  by_cases h : x < 0
  · exact noughts_neg x h A w hL
  · obtain ⟨X, rfl⟩ := Int.eq_ofNat_of_zero_le (show 0 ≤ x by omega)
    exact noughts_nat X (by omega) A hA w hL
end Go.Proofs.YtfaidiigglkmiaaDoor.Dig
