/- What the reference's Digit, more, whole, Text on decimals as text answer. -/
import Derived.Test.YtmoednmgmmgjeaaGreatDoorDigTell
import Derived.Test.YtmoednmgmmgjeaaGreatDoorDecRefScale
namespace Go.Proofs.YtmoednmgmmgjeaaGreatDoor.Dig
open Go.RowKit Kit Dec

set_option maxRecDepth 100000 in
set_option maxHeartbeats 1000000 in
theorem digit_c (t : ByteArray) (i : Nat) (z : Int) (hz : z = i) (b : Bool) (hb : digAt t.data.toList i = b) (w : World) :
    Calls Tryz.prog 15 #[.string t, .int .i64 z] w fun e w' => e = .returned (.bool b) ∧ w = w' := by
  subst hz
  by_cases hlt : i < t.size
  · obtain ⟨x, hx⟩ : ∃ x : UInt8, t[i]'hlt = x := ⟨_, rfl⟩
    have hxl : t.data.toList[i]? = some x := by rw [← hx]; exact Lib.data_getElem? t i hlt
    rw [digAt_in hxl] at hb
    have hx256 := x.toNat_lt
    have HB := Lib.hid hb
    clear hb hxl
    by_cases h1 : 48 ≤ x.toNat
    · have d1 : decide (48 ≤ (x.toNat : Int)) = true := by simp; omega
      by_cases h2 : x.toNat ≤ 57
      · have d2 : decide ((x.toNat : Int) ≤ 57) = true := by simp; omega
        obtain rfl : true = b := by rw [← HB.out]; exact (isD_iff.2 ⟨h1, h2⟩).symm
        go_enter Tryz.func15, Tryz.ntmps15
        go_wp2
        go_ret
        exact ⟨rfl, rfl⟩
      · have d2 : decide ((x.toNat : Int) ≤ 57) = false := by simp; omega
        obtain rfl : false = b := by rw [← HB.out]; exact (isD_not.2 (by omega)).symm
        go_enter Tryz.func15, Tryz.ntmps15
        go_wp2
        go_ret
        exact ⟨rfl, rfl⟩
    · have d1 : decide (48 ≤ (x.toNat : Int)) = false := by simp; omega
      obtain rfl : false = b := by rw [← HB.out]; exact (isD_not.2 (by omega)).symm
      go_enter Tryz.func15, Tryz.ntmps15
      go_wp2
      go_ret
      exact ⟨rfl, rfl⟩
  · obtain rfl : false = b := by rw [← hb]; exact (digAt_out (by rw [len]; omega)).symm
    clear hb
    go_enter Tryz.func15, Tryz.ntmps15
    go_wp2
    go_ret
    exact ⟨rfl, rfl⟩

theorem scaled_ten (v : Nat) (h : v ≤ 9223372036854775807) : scaledD (v : Int) 10 1 = capD (v * 10) := by
  have hr : roundN (v * 10) 1 = v * 10 := by unfold roundN; rw [Nat.mod_one, Nat.div_one]; exact if_neg (by omega)
  unfold scaledD capD
  rw [mayD_yes (by omega), mayD_yes (by omega), mayD_yes (by omega), show (v : Int).natAbs = v by omega, show (10 : Int).natAbs = 10 from rfl, show (1 : Int).natAbs = 1 from rfl, hr]
  have hn : negs (v : Int) 10 1 = false := by
    unfold negs
    rw [decide_eq_false (show ¬ (v : Int) < 0 by omega)]
    rfl
  rw [hn]
  rfl
theorem add_digit (v d : Nat) (h : v * 10 ≤ 9223372036854775807) (hd : d < 10) : addD (((v * 10 : Nat)) : Int) (d : Int) = capD (v * 10 + d) := by
  unfold addD capD
  rw [mayD_yes (by omega), mayD_yes (by omega)]
  rfl
set_option maxRecDepth 100000 in
set_option maxHeartbeats 1000000 in
theorem more_no (d : Nat) (w : World) : Calls Tryz.prog 49 #[.agg #[.int .i64 0, .bool false], .int .i64 d] w (GotIs 0 false w) := by
  go_enter Tryz.func49, Tryz.ntmps49
  go_wp2
  exact bodyPost_ret (v := .agg #[.int .i64 0, .bool false]) (by simp [results, Tryz.results49, go_sem]) rfl ⟨rfl, below2 _ _ _⟩
theorem more_start (w : World) (A : Obj) (ty : TypeId) : CellsAt ((w.alloc A).alloc (.cells #[.int .i64 0, .bool false] ty)) (w.heap.size + 1) [.int .i64 0, .bool false] ∧ Below w.heap.size w ((w.alloc A).alloc (.cells #[.int .i64 0, .bool false] ty)) := by
  have h := CellsAt.new (w.alloc A) [.int .i64 0, .bool false] ty
  rw [show (w.alloc A).heap.size = w.heap.size + 1 by simp] at h
  exact ⟨h, below2 _ _ _⟩
set_option maxRecDepth 100000 in
set_option maxHeartbeats 1000000 in
theorem more_yes (v d : Nat) (hv : v ≤ 9223372036854775807) (hd : d < 10) (m : Int) (j : Bool) (h2 : capD (v * 10 + d) = (m, j)) (w : World) : Calls Tryz.prog 49 #[.agg #[.int .i64 v, .bool true], .int .i64 d] w (GotIs m j w) := by
  by_cases hx : v * 10 ≤ 9223372036854775807
  · obtain ⟨p, hp⟩ : ∃ p, v * 10 = p := ⟨_, rfl⟩
    have hs := scaled_ten v hv
    rw [hp] at hs hx
    rw [capD_in hx] at hs
    have S : Hid (∀ w1, Calls Tryz.prog 63 #[.int .i64 v, .int .i64 10, .int .i64 1] w1 (GotIs (p : Int) true w1)) := Lib.hid (fun w1 => rscaled_c (v : Int) 10 1 (by omega) (by omega) (by omega) (p : Int) true hs w1)
    have ha := add_digit v d (by omega) hd
    rw [hp] at ha
    rw [hp] at h2
    have A := Lib.hid (fun w1 => radd_c (p : Int) (d : Int) (by omega) (by omega) m j (ha.trans h2) w1)
    clear ha hs hp h2
    go_enter Tryz.func49, Tryz.ntmps49
    go_wp2_with fail
    refine (S.out _).mono ?_
    rintro e w1 ⟨rfl, hb1⟩
    obtain ⟨hc0, hw0⟩ := more_start w (.cells #[.int .i64 v, .bool true] 60) 60
    have hc1 := hc0.on hb1
    have hw1 := on hw0 hb1
    have hlt := hc1.1
    have hA := CellsAt.new w1 [.int .i64 p, .bool true] 60
    obtain ⟨q0, q1, _, _⟩ := hA.two
    have hc2 := hc1.on_alloc (.cells #[.int .i64 p, .bool true] 60)
    have hw2 := on_alloc hw1 (.cells #[.int .i64 p, .bool true] 60)
    clear S hc0 hw0 hc1 hw1 hb1 hA
    go_wp2_with fail
    refine (A.out _).mono ?_
    rintro e w3 ⟨rfl, hb3⟩
    obtain ⟨p0, p1, f0, f1⟩ := (hc2.on hb3).two
    have hlt3 := (hc2.on hb3).1
    have hw3 := on hw2 hb3
    obtain ⟨e0, e1⟩ := two_set (u := .int .i64 m) (v := .bool j) p0 p1
    replace e0 := Lib.hid e0
    replace e1 := Lib.hid e1
    replace hw3 := Lib.hid hw3
    clear A hc2 hw2 hb3 q0 q1
    go_wp2_with fail
    exact bodyPost_ret (v := .agg #[.int .i64 m, .bool j]) (by simp [results, Tryz.results49, go_sem, e0.out, e1.out]) rfl ⟨rfl, set2 hw3.out (by omega) _ _⟩
  · obtain ⟨rfl, rfl⟩ := Prod.mk.inj ((capD_out (by omega)).symm.trans h2)
    have hs := scaled_ten v hv
    rw [capD_out (by omega)] at hs
    have S : Hid (∀ w1, Calls Tryz.prog 63 #[.int .i64 v, .int .i64 10, .int .i64 1] w1 (GotIs 0 false w1)) := Lib.hid (fun w1 => rscaled_c (v : Int) 10 1 (by omega) (by omega) (by omega) 0 false hs w1)
    clear hs h2 hx
    go_enter Tryz.func49, Tryz.ntmps49
    go_wp2_with fail
    refine (S.out _).mono ?_
    rintro e w1 ⟨rfl, hb1⟩
    obtain ⟨hc0, hw0⟩ := more_start w (.cells #[.int .i64 v, .bool true] 60) 60
    have hc1 := hc0.on hb1
    have hw1 := on hw0 hb1
    have hlt := hc1.1
    obtain ⟨p0, p1, f0, f1⟩ := hc1.two
    obtain ⟨e0, e1⟩ := two_set (u := .int .i64 0) (v := .bool false) p0 p1
    replace e0 := Lib.hid (kept_alloc (.cells #[.int .i64 0, .bool false] 60) e0)
    replace e1 := Lib.hid (kept_alloc (.cells #[.int .i64 0, .bool false] 60) e1)
    replace hw1 := Lib.hid hw1
    clear S hc0 hw0 hc1 hb1
    go_wp2_with fail
    exact bodyPost_ret (v := .agg #[.int .i64 0, .bool false]) (by simp [results, Tryz.results49, go_sem, e0.out, e1.out]) rfl ⟨rfl, on_alloc (set2 hw1.out (by omega) _ _) _⟩
theorem more_c (v d : Nat) (hd : d < 10) (n : Int) (k : Bool) (h : capD v = (n, k)) (m : Int) (j : Bool) (h2 : capD (v * 10 + d) = (m, j)) (w : World) : Calls Tryz.prog 49 #[.agg #[.int .i64 n, .bool k], .int .i64 d] w (GotIs m j w) := by
  by_cases hv : v ≤ 9223372036854775807
  · obtain ⟨rfl, rfl⟩ := Prod.mk.inj ((capD_in hv).symm.trans h)
    exact more_yes v d hv hd m j h2 w
  · obtain ⟨rfl, rfl⟩ := Prod.mk.inj ((capD_out (by omega)).symm.trans h)
    obtain ⟨rfl, rfl⟩ := Prod.mk.inj ((capD_out (by omega)).symm.trans h2)
    exact more_no d w

/-- a slice of one byte, as a string -/
theorem conv_one (w : World) (x : Int) :
    (convert 62 9 (.slice (some ⟨w.heap.size, 0, none⟩) 1 1)).run Tryz.prog (w.alloc (.cells #[.int .u8 x] 5)) = .ok (.string ⟨#[UInt8.ofNat x.toNat]⟩) (w.alloc (.cells #[.int .u8 x] 5)) := by
  rw [run_convert_bytes_string _ _ _ _ _ _ _ Tryz.underlying62 Tryz.underlying5 Tryz.underlying9]
  refine (run_bytesToString _ _ 1 1 [x] ?_).trans ?_
  · have hc : (w.alloc (.cells #[.int .u8 x] 5)).cell? ⟨w.heap.size, 0, none⟩ = some (.int .u8 x) := by
      rw [World.cell?_alloc_at _ _ _ _ rfl]; rfl
    simp [loadCells, loadCellsFrom, hc, Addr.add]
  · rfl
/-- the digits laid so far -/
def LaidD (N m : Nat) (T : ByteArray) : Prop := (if m = 0 then [] else Lib.decDigits m) ++ T.data.toList = Lib.decDigits N
theorem LaidD.size {N m : Nat} {T : ByteArray} (h : LaidD N m T) (hN : N < 18446744073709551616) : T.size ≤ 20 := by
  have := congrArg List.length h
  rw [List.length_append, len] at this
  have h2 := dd_len 19 N (by omega)
  omega
theorem digs_step (m : Nat) : (if m / 10 = 0 then [] else Lib.decDigits (m / 10)) ++ [dg (m % 10)] = Lib.decDigits m := by
  by_cases h : m < 10
  · rw [if_pos (by omega), dd_small h, Nat.mod_eq_of_lt h]; rfl
  · rw [if_neg (by omega), ← dd_big h]
theorem LaidD.first (N : Nat) {T : ByteArray} (h : T.data.toList = [dg (N % 10)]) : LaidD N (N / 10) T := by
  unfold LaidD
  rw [h]; exact digs_step N
theorem dg_add (d : Nat) : 48 + UInt8.ofNat d = dg d := by unfold dg; rw [UInt8.ofNat_add]; rfl
theorem LaidD.next {N m : Nat} {T U : ByteArray} (h : LaidD N m T) (hm : 0 < m) (hU : U.data.toList = dg (m % 10) :: T.data.toList) : LaidD N (m / 10) U := by
  unfold LaidD at h ⊢
  rw [if_neg (by omega)] at h
  rw [hU, ← h, ← digs_step m, List.append_assoc]
  rfl
set_option maxRecDepth 100000 in
set_option maxHeartbeats 2000000 in
theorem nwhole_c (N : Nat) (hN : N < 18446744073709551616) (w : World) : Calls Tryz.prog 43 #[.int .u64 N] w (TextB (Lib.decDigits N) w) := by
  have h1 := conv_one w (48 + (N : Int) % 10)
  have F : Hid (LaidD N (N / 10) ⟨#[UInt8.ofNat (48 + N % 10)]⟩) := Lib.hid (LaidD.first N rfl)
  go_enter Tryz.func43, Tryz.ntmps43
  go_wp2
  go_loopw [0, 3] (fun i s wr => ∃ (m : Nat) (T : ByteArray), m ≤ N ∧ i = .int .u64 m ∧ s = .string T ∧ Hid (LaidD N m T) ∧ Below w.heap.size w wr) (fun i _ _ => (intOf i).toNat)
  case atStart => exact ⟨N / 10, _, by omega, by go_num, rfl, F, below1 _ _⟩
  case round =>
    clear h1 F
    obtain ⟨m, T, hm, rfl, rfl, HT, hb⟩ := hrel
    by_cases h0 : 0 < m
    · have hs := HT.out.size hN
      have h1 := conv_one wr (48 + (m : Int) % 10)
      have HT2 := Lib.hid (fun U => LaidD.next (U := U) HT.out h0)
      have hb2 := on_alloc hb (.cells #[.int .u8 (48 + (m : Int) % 10)] 5)
      clear HT
      go_wp2
      go_roundw
      case rel => exact ⟨m / 10, _, by omega, by go_num, rfl, Lib.hid (HT2.out _ (by rw [cat_data, dg_add]; rfl)), hb2⟩
      case measure => simp [intOf]; omega
    · obtain rfl : m = 0 := by omega
      have HE : Hid (T.data.toList = Lib.decDigits N) := Lib.hid HT.out
      clear HT
      go_wp2
      go_ret
      exact ⟨T, rfl, HE.out, hb⟩
theorem restJ_go {r j : Nat} (h : r < 10000) (hj : j ≤ 4) : 0 < restJ r j ↔ j < pl r := by
  rcases Nat.lt_or_ge j 4 with h4 | h4
  · exact (restJ_facts h h4).2.2.2.2
  · obtain rfl : j = 4 := by omega
    rw [restJ_end]
    have := pl_le r
    omega
theorem frac_eq (r : Nat) : fracL r = (if r = 0 then [] else [46]) ++ partT r := by
  unfold fracL
  by_cases h : r = 0
  · subst h; rfl
  · rw [if_neg h, if_neg h]; rfl
/-- the length of a text (for a loop's measure) -/
def lenOf : Value → Nat | .string b => b.size | _ => 0
set_option maxRecDepth 100000 in
set_option maxHeartbeats 400000 in
theorem rtext_no (x : Int) (h : mayD x = false) (w : World) : Calls Tryz.prog 23 #[.int .i64 x] w (TextB (textD x) w) := by
  have HM := Lib.hid (fun w1 => rmay_c x false h w1)
  rw [textD_no h]
  clear h
  go_enter Tryz.func23, Tryz.ntmps23
  go_wp2_with (go_at_call 41; refine (HM.out _).mono ?_; rintro e w' ⟨rfl, rfl⟩)
  go_ret
  exact ⟨⟨#[]⟩, rfl, rfl, Below.refl _ _⟩
set_option maxRecDepth 100000 in
set_option maxHeartbeats 2000000 in
theorem rtext_may (x : Int) (h : mayD x = true) (h2 : x ≤ 9223372036854775807) (w : World) : Calls Tryz.prog 23 #[.int .i64 x] w (TextB (textD x) w) := by
  have h1 : -9223372036854775807 ≤ x := by unfold mayD at h; simpa using h
  have HM := Lib.hid (fun w1 => rmay_c x true h w1)
  rw [textD_may h]
  obtain ⟨X, hX⟩ : ∃ X, x.natAbs = X := ⟨_, rfl⟩
  have HA := Lib.hid (fun w1 => rabs_c x h1 h2 w1)
  rw [hX] at HA ⊢
  have hX2 : X ≤ 9223372036854775807 := by omega
  obtain ⟨u, hu⟩ : ∃ u, X / 10000 = u := ⟨_, rfl⟩
  obtain ⟨r, hr⟩ : ∃ r, X % 10000 = r := ⟨_, rfl⟩
  have hr4 : r < 10000 := by omega
  have hu5 : u < 1000000000000000 := by omega
  have HU := Lib.hid (fun w1 => nwhole_c u (by omega) w1)
  have dl := Lib.hid (dd_len15 hu5)
  have q1 : (X : Int) / 10000 = (u : Int) := by omega
  have q2 : (X : Int) % 10000 = (r : Int) := by omega
  rw [hu, hr]
  clear h hX hu hr
  obtain ⟨g, hg⟩ : ∃ g, decide (x < 0) = g := ⟨_, rfl⟩
  rw [hg]
  go_enter Tryz.func23, Tryz.ntmps23
  go_wp2_with (first
    | (go_at_call 41; refine (HM.out _).mono ?_; rintro e w' ⟨rfl, rfl⟩)
    | (go_at_call 42; refine (HA.out _).mono ?_; rintro e w' ⟨rfl, rfl⟩))
  refine (HU.out _).mono ?_
  rintro e w1 ⟨s, rfl, hs, hb1⟩
  have hsl : s.size ≤ 15 := by rw [← len, hs]; exact dl.out
  have HS := Lib.hid hs
  clear hs HU HA HM dl
  obtain ⟨B, hB⟩ : ∃ B, sgnL g ++ (Lib.decDigits u ++ (if r = 0 then [] else [46])) = B := ⟨_, rfl⟩
  have HG : Hid (sgnL g ++ (Lib.decDigits u ++ fracL r) = B ++ partT r) := Lib.hid (by rw [← hB, frac_eq]; simp)
  have hBl : B.length ≤ 17 := by
    rw [← hB, ← HS.out, List.length_append, List.length_append, len]
    have a1 : (sgnL g).length ≤ 1 := by cases g <;> simp [sgnL]
    have a2 : (if r = 0 then ([] : List UInt8) else [46]).length ≤ 1 := by split <;> simp
    omega
  have HB := Lib.hid hB
  have hr0 : Hid (restJ r 0 = r) := Lib.hid (restJ_zero hr4)
  clear hB
  have hg2 := hg
  cases g
  · by_cases h0 : 0 < r
    · have HB2 := Lib.hid HB.out
      rw [if_neg (show ¬ r = 0 by omega)] at HB2
      clear HB hg
      go_wp2
      go_loopw [4, 5] (fun s i wr => ∃ (j v : Nat) (T : ByteArray), j ≤ pl r ∧ s = .string T ∧ i = .int .u64 v ∧ Hid (restJ r j = v) ∧ Hid (T.data.toList = B ++ (ds4 r).take j) ∧ Below w.heap.size w wr) (fun s _ _ => 30 - lenOf s)
      case atStart => exact ⟨0, r, _, Nat.zero_le _, rfl, by first | rfl | congr 1, hr0, Lib.hid (by rw [← HB2.out, ← HS.out]; simp [sgnL]), hb1⟩
      case round =>
        clear hr0 HB2 HS h0 hg2 q1 q2
        obtain ⟨j, v, T, hj, rfl, rfl, hv, HT, hb⟩ := hrel
        have hp4 := pl_le r
        have hgo := restJ_go hr4 (show j ≤ 4 by omega)
        rw [hv.out] at hgo
        have hTl : T.size = B.length + j := by rw [← len, HT.out, List.length_append, List.length_take, ds4_len]; omega
        have hTl2 : T.size ≤ 21 := by omega
        by_cases hv0 : 0 < v
        · have hlt := hgo.1 hv0
          obtain ⟨f1, f2, f3, f4, _⟩ := restJ_facts hr4 (show j < 4 by omega)
          rw [hv.out] at f1 f2 f3 f4
          obtain ⟨d, hd⟩ : ∃ d, v / 1000 = d := ⟨_, rfl⟩
          obtain ⟨m, hm⟩ : ∃ m, v % 1000 = m := ⟨_, rfl⟩
          rw [hd] at f3 f4
          rw [hm] at f1
          have g1 : (v : Int) / 1000 = (d : Int) := by omega
          have g2 : (v : Int) % 1000 = (m : Int) := by omega
          have hm2 : m ≤ 999 := by omega
          have HU := Lib.hid (fun w1 => nwhole_c d (by omega) w1)
          rw [dd_small f3] at HU
          have F1 := Lib.hid f1
          have F4 := Lib.hid f4
          clear f1 f4 hd hm hv hgo hTl
          go_wp2_with fail
          refine (HU.out _).mono ?_
          rintro e w2 ⟨z, rfl, hz, hb2⟩
          have hzl : z.size = 1 := by rw [← len, hz]; rfl
          have hzl2 : z.size ≤ 1 := by omega
          have hzl3 : 1 ≤ z.size := by omega
          have hb3 := on hb hb2
          have HZ := Lib.hid hz
          clear hz hb hb2 HU hzl
          go_wp2
          go_roundw
          case rel => exact ⟨j + 1, m * 10, _, hlt, rfl, by go_num, F1, Lib.hid (by rw [cat_data, HT.out, HZ.out, F4.out, List.append_assoc]), hb3⟩
          case measure => simp [lenOf]; omega
        · have hjp : j = pl r := by
            have : ¬ j < pl r := fun h => hv0 (hgo.2 h)
            omega
          have HE : Hid (T.data.toList = B ++ partT r) := Lib.hid (by rw [HT.out, hjp]; rfl)
          clear hgo hTl HT hv
          go_wp2
          go_ret
          exact ⟨T, rfl, HE.out.trans HG.out.symm, hb⟩
    · have HB2 := Lib.hid HB.out
      rw [if_pos (show r = 0 by omega)] at HB2
      clear HB hg
      go_wp2
      go_loopw [4, 5] (fun s i wr => ∃ (j v : Nat) (T : ByteArray), j ≤ pl r ∧ s = .string T ∧ i = .int .u64 v ∧ Hid (restJ r j = v) ∧ Hid (T.data.toList = B ++ (ds4 r).take j) ∧ Below w.heap.size w wr) (fun s _ _ => 30 - lenOf s)
      case atStart => exact ⟨0, r, _, Nat.zero_le _, rfl, by first | rfl | congr 1, hr0, Lib.hid (by rw [← HB2.out, ← HS.out]; simp [sgnL]), hb1⟩
      case round =>
        clear hr0 HB2 HS h0 hg2 q1 q2
        obtain ⟨j, v, T, hj, rfl, rfl, hv, HT, hb⟩ := hrel
        have hp4 := pl_le r
        have hgo := restJ_go hr4 (show j ≤ 4 by omega)
        rw [hv.out] at hgo
        have hTl : T.size = B.length + j := by rw [← len, HT.out, List.length_append, List.length_take, ds4_len]; omega
        have hTl2 : T.size ≤ 21 := by omega
        by_cases hv0 : 0 < v
        · have hlt := hgo.1 hv0
          obtain ⟨f1, f2, f3, f4, _⟩ := restJ_facts hr4 (show j < 4 by omega)
          rw [hv.out] at f1 f2 f3 f4
          obtain ⟨d, hd⟩ : ∃ d, v / 1000 = d := ⟨_, rfl⟩
          obtain ⟨m, hm⟩ : ∃ m, v % 1000 = m := ⟨_, rfl⟩
          rw [hd] at f3 f4
          rw [hm] at f1
          have g1 : (v : Int) / 1000 = (d : Int) := by omega
          have g2 : (v : Int) % 1000 = (m : Int) := by omega
          have hm2 : m ≤ 999 := by omega
          have HU := Lib.hid (fun w1 => nwhole_c d (by omega) w1)
          rw [dd_small f3] at HU
          have F1 := Lib.hid f1
          have F4 := Lib.hid f4
          clear f1 f4 hd hm hv hgo hTl
          go_wp2_with fail
          refine (HU.out _).mono ?_
          rintro e w2 ⟨z, rfl, hz, hb2⟩
          have hzl : z.size = 1 := by rw [← len, hz]; rfl
          have hzl2 : z.size ≤ 1 := by omega
          have hzl3 : 1 ≤ z.size := by omega
          have hb3 := on hb hb2
          have HZ := Lib.hid hz
          clear hz hb hb2 HU hzl
          go_wp2
          go_roundw
          case rel => exact ⟨j + 1, m * 10, _, hlt, rfl, by go_num, F1, Lib.hid (by rw [cat_data, HT.out, HZ.out, F4.out, List.append_assoc]), hb3⟩
          case measure => simp [lenOf]; omega
        · have hjp : j = pl r := by
            have : ¬ j < pl r := fun h => hv0 (hgo.2 h)
            omega
          have HE : Hid (T.data.toList = B ++ partT r) := Lib.hid (by rw [HT.out, hjp]; rfl)
          clear hgo hTl HT hv
          go_wp2
          go_ret
          exact ⟨T, rfl, HE.out.trans HG.out.symm, hb⟩
  · by_cases h0 : 0 < r
    · have HB2 := Lib.hid HB.out
      rw [if_neg (show ¬ r = 0 by omega)] at HB2
      clear HB hg
      go_wp2
      go_loopw [4, 5] (fun s i wr => ∃ (j v : Nat) (T : ByteArray), j ≤ pl r ∧ s = .string T ∧ i = .int .u64 v ∧ Hid (restJ r j = v) ∧ Hid (T.data.toList = B ++ (ds4 r).take j) ∧ Below w.heap.size w wr) (fun s _ _ => 30 - lenOf s)
      case atStart => exact ⟨0, r, _, Nat.zero_le _, rfl, by first | rfl | congr 1, hr0, Lib.hid (by rw [← HB2.out, ← HS.out]; simp [sgnL]), hb1⟩
      case round =>
        clear hr0 HB2 HS h0 hg2 q1 q2
        obtain ⟨j, v, T, hj, rfl, rfl, hv, HT, hb⟩ := hrel
        have hp4 := pl_le r
        have hgo := restJ_go hr4 (show j ≤ 4 by omega)
        rw [hv.out] at hgo
        have hTl : T.size = B.length + j := by rw [← len, HT.out, List.length_append, List.length_take, ds4_len]; omega
        have hTl2 : T.size ≤ 21 := by omega
        by_cases hv0 : 0 < v
        · have hlt := hgo.1 hv0
          obtain ⟨f1, f2, f3, f4, _⟩ := restJ_facts hr4 (show j < 4 by omega)
          rw [hv.out] at f1 f2 f3 f4
          obtain ⟨d, hd⟩ : ∃ d, v / 1000 = d := ⟨_, rfl⟩
          obtain ⟨m, hm⟩ : ∃ m, v % 1000 = m := ⟨_, rfl⟩
          rw [hd] at f3 f4
          rw [hm] at f1
          have g1 : (v : Int) / 1000 = (d : Int) := by omega
          have g2 : (v : Int) % 1000 = (m : Int) := by omega
          have hm2 : m ≤ 999 := by omega
          have HU := Lib.hid (fun w1 => nwhole_c d (by omega) w1)
          rw [dd_small f3] at HU
          have F1 := Lib.hid f1
          have F4 := Lib.hid f4
          clear f1 f4 hd hm hv hgo hTl
          go_wp2_with fail
          refine (HU.out _).mono ?_
          rintro e w2 ⟨z, rfl, hz, hb2⟩
          have hzl : z.size = 1 := by rw [← len, hz]; rfl
          have hzl2 : z.size ≤ 1 := by omega
          have hzl3 : 1 ≤ z.size := by omega
          have hb3 := on hb hb2
          have HZ := Lib.hid hz
          clear hz hb hb2 HU hzl
          go_wp2
          go_roundw
          case rel => exact ⟨j + 1, m * 10, _, hlt, rfl, by go_num, F1, Lib.hid (by rw [cat_data, HT.out, HZ.out, F4.out, List.append_assoc]), hb3⟩
          case measure => simp [lenOf]; omega
        · have hjp : j = pl r := by
            have : ¬ j < pl r := fun h => hv0 (hgo.2 h)
            omega
          have HE : Hid (T.data.toList = B ++ partT r) := Lib.hid (by rw [HT.out, hjp]; rfl)
          clear hgo hTl HT hv
          go_wp2
          go_ret
          exact ⟨T, rfl, HE.out.trans HG.out.symm, hb⟩
    · have HB2 := Lib.hid HB.out
      rw [if_pos (show r = 0 by omega)] at HB2
      clear HB hg
      go_wp2
      go_loopw [4, 5] (fun s i wr => ∃ (j v : Nat) (T : ByteArray), j ≤ pl r ∧ s = .string T ∧ i = .int .u64 v ∧ Hid (restJ r j = v) ∧ Hid (T.data.toList = B ++ (ds4 r).take j) ∧ Below w.heap.size w wr) (fun s _ _ => 30 - lenOf s)
      case atStart => exact ⟨0, r, _, Nat.zero_le _, rfl, by first | rfl | congr 1, hr0, Lib.hid (by rw [← HB2.out, ← HS.out]; simp [sgnL]), hb1⟩
      case round =>
        clear hr0 HB2 HS h0 hg2 q1 q2
        obtain ⟨j, v, T, hj, rfl, rfl, hv, HT, hb⟩ := hrel
        have hp4 := pl_le r
        have hgo := restJ_go hr4 (show j ≤ 4 by omega)
        rw [hv.out] at hgo
        have hTl : T.size = B.length + j := by rw [← len, HT.out, List.length_append, List.length_take, ds4_len]; omega
        have hTl2 : T.size ≤ 21 := by omega
        by_cases hv0 : 0 < v
        · have hlt := hgo.1 hv0
          obtain ⟨f1, f2, f3, f4, _⟩ := restJ_facts hr4 (show j < 4 by omega)
          rw [hv.out] at f1 f2 f3 f4
          obtain ⟨d, hd⟩ : ∃ d, v / 1000 = d := ⟨_, rfl⟩
          obtain ⟨m, hm⟩ : ∃ m, v % 1000 = m := ⟨_, rfl⟩
          rw [hd] at f3 f4
          rw [hm] at f1
          have g1 : (v : Int) / 1000 = (d : Int) := by omega
          have g2 : (v : Int) % 1000 = (m : Int) := by omega
          have hm2 : m ≤ 999 := by omega
          have HU := Lib.hid (fun w1 => nwhole_c d (by omega) w1)
          rw [dd_small f3] at HU
          have F1 := Lib.hid f1
          have F4 := Lib.hid f4
          clear f1 f4 hd hm hv hgo hTl
          go_wp2_with fail
          refine (HU.out _).mono ?_
          rintro e w2 ⟨z, rfl, hz, hb2⟩
          have hzl : z.size = 1 := by rw [← len, hz]; rfl
          have hzl2 : z.size ≤ 1 := by omega
          have hzl3 : 1 ≤ z.size := by omega
          have hb3 := on hb hb2
          have HZ := Lib.hid hz
          clear hz hb hb2 HU hzl
          go_wp2
          go_roundw
          case rel => exact ⟨j + 1, m * 10, _, hlt, rfl, by go_num, F1, Lib.hid (by rw [cat_data, HT.out, HZ.out, F4.out, List.append_assoc]), hb3⟩
          case measure => simp [lenOf]; omega
        · have hjp : j = pl r := by
            have : ¬ j < pl r := fun h => hv0 (hgo.2 h)
            omega
          have HE : Hid (T.data.toList = B ++ partT r) := Lib.hid (by rw [HT.out, hjp]; rfl)
          clear hgo hTl HT hv
          go_wp2
          go_ret
          exact ⟨T, rfl, HE.out.trans HG.out.symm, hb⟩
theorem rtext_c (x : Int) (h2 : x ≤ 9223372036854775807) (w : World) : Calls Tryz.prog 23 #[.int .i64 x] w (TextB (textD x) w) := by
  cases hm : mayD x
  · exact rtext_no x hm w
  · exact rtext_may x hm h2 w
end Go.Proofs.YtmoednmgmmgjeaaGreatDoor.Dig
