/- What the reference's First and Single answer. -/
import Derived.Test.YtkbibkadofeamaaRunRefR
namespace Go.Proofs.Ytkbibkadofeamaa.Run
open Go.RowKit Kit Reg

set_option maxRecDepth 100000 in
set_option maxHeartbeats 4000000 in
theorem rfirst_c (s : ByteArray) (l : List UInt8) (hs : s.data.toList = l) (h9 : s.size ≤ 1000000) (hpos : 0 < s.size) (w : World) :
    Calls Try.prog 22 #[.string s] w fun e w' => e = .returned (.int .i64 (valL l)) ∧ w = w' := by
  have hl := len_of hs
  have HA : Hid (∀ k (h : k < s.size), atN l k = (s[k]'h).toNat) := Lib.hid fun k h => by rw [← hs]; exact at_byte s k h
  have hne : l ≠ [] := by intro e; rw [e] at hl; simp at hl; omega
  have hsp := sz_pos hne
  have h4 : szL l ≤ 4 := by
    unfold szL szN
    repeat' split
    all_goals omega
  obtain ⟨m, hm⟩ : ∃ m, szL l = m := ⟨_, rfl⟩
  have HS := Lib.hid (fun w => rsize_c s l hs h9 m hm w)
  rw [hm, hl] at hsp
  rw [hm] at h4
  obtain ⟨x, hx⟩ : ∃ x : UInt8, s[0]'hpos = x := ⟨_, rfl⟩
  have hx0 : atN l 0 = x.toNat := by rw [HA.out 0 hpos, hx]
  have HV : Hid (valL l = valN m x.toNat (atN l 1) (atN l 2) (atN l 3)) := Lib.hid (by rw [valL, hm, hx0])
  clear hs hm hx0 hne
  have hx9 := x.toNat_lt
  have hc : (m = 1 ∧ x.toNat < 128) ∨ (m = 1 ∧ 128 ≤ x.toNat) ∨ m = 2 ∨ m = 3 ∨ m = 4 := by omega
  rcases hc with ⟨rfl, h1⟩ | ⟨rfl, h1⟩ | rfl | rfl | rfl
  · have d1 : decide ((x.toNat : Int) < 128) = true := decide_eq_true (by omega)
    have HE : Hid (valL l = x.toNat) := Lib.hid (by rw [HV.out, valN, if_neg (by omega), if_neg (by omega), if_neg (by omega), if_pos h1])
    clear HV
    go_enter Try.func22, Try.ntmps22
    go_wp2_with fail
    refine (HS.out _).mono ?_
    rintro e w1 ⟨rfl, rfl⟩
    go_wp2
    go_ret
    exact ⟨ret_i64 (by rw [HE.out]), rfl⟩
  · have d1 : decide ((x.toNat : Int) < 128) = false := decide_eq_false (by omega)
    have HE : Hid (valL l = 65533) := Lib.hid (by rw [HV.out, valN, if_neg (by omega), if_neg (by omega), if_neg (by omega), if_neg (by omega)])
    clear HV
    go_enter Try.func22, Try.ntmps22
    go_wp2_with fail
    refine (HS.out _).mono ?_
    rintro e w1 ⟨rfl, rfl⟩
    go_wp2
    go_ret
    exact ⟨ret_i64 (by rw [HE.out]; rfl), rfl⟩
  · obtain ⟨y, hy⟩ : ∃ y : UInt8, s[1]'(by omega) = y := ⟨_, rfl⟩
    have HE : Hid (valL l = x.toNat % 32 * 64 + y.toNat % 64) := Lib.hid (by rw [HV.out, valN, if_pos rfl, HA.out 1 (by omega), hy])
    clear HV HA
    have hy9 := y.toNat_lt
    have hl1 : 1 < s.size := by omega
    go_enter Try.func22, Try.ntmps22
    go_wp2_with fail
    refine (HS.out _).mono ?_
    rintro e w1 ⟨rfl, rfl⟩
    go_wp2_with fail
    refine wp_loop_rounds 2 ?_
    rw [rounds_succ]
    go_wp2_with fail
    rw [rounds_succ]
    go_wp2_with fail
    go_ret
    exact ⟨ret_i64 (by rw [HE.out]; omega), rfl⟩
  · obtain ⟨y, hy⟩ : ∃ y : UInt8, s[1]'(by omega) = y := ⟨_, rfl⟩
    obtain ⟨z, hz⟩ : ∃ z : UInt8, s[2]'(by omega) = z := ⟨_, rfl⟩
    have HE : Hid (valL l = x.toNat % 16 * 4096 + y.toNat % 64 * 64 + z.toNat % 64) := Lib.hid (by rw [HV.out, valN, if_neg (by omega), if_pos rfl, HA.out 1 (by omega), hy, HA.out 2 (by omega), hz])
    clear HV HA
    have hy9 := y.toNat_lt
    have hz9 := z.toNat_lt
    have hl1 : 1 < s.size := by omega
    have hl2 : 2 < s.size := by omega
    go_enter Try.func22, Try.ntmps22
    go_wp2_with fail
    refine (HS.out _).mono ?_
    rintro e w1 ⟨rfl, rfl⟩
    go_wp2_with fail
    refine wp_loop_rounds 3 ?_
    rw [rounds_succ]
    go_wp2_with fail
    rw [rounds_succ]
    go_wp2_with fail
    rw [rounds_succ]
    go_wp2_with fail
    go_ret
    exact ⟨ret_i64 (by rw [HE.out]; omega), rfl⟩
  · obtain ⟨y, hy⟩ : ∃ y : UInt8, s[1]'(by omega) = y := ⟨_, rfl⟩
    obtain ⟨z, hz⟩ : ∃ z : UInt8, s[2]'(by omega) = z := ⟨_, rfl⟩
    obtain ⟨u, hu⟩ : ∃ u : UInt8, s[3]'(by omega) = u := ⟨_, rfl⟩
    have HE : Hid (valL l = x.toNat % 8 * 262144 + y.toNat % 64 * 4096 + z.toNat % 64 * 64 + u.toNat % 64) := Lib.hid (by rw [HV.out, valN, if_neg (by omega), if_neg (by omega), if_pos rfl, HA.out 1 (by omega), hy, HA.out 2 (by omega), hz, HA.out 3 (by omega), hu])
    clear HV HA
    have hy9 := y.toNat_lt
    have hz9 := z.toNat_lt
    have hu9 := u.toNat_lt
    have hl1 : 1 < s.size := by omega
    have hl2 : 2 < s.size := by omega
    have hl3 : 3 < s.size := by omega
    go_enter Try.func22, Try.ntmps22
    go_wp2_with fail
    refine (HS.out _).mono ?_
    rintro e w1 ⟨rfl, rfl⟩
    go_wp2_with fail
    refine wp_loop_rounds 4 ?_
    rw [rounds_succ]
    go_wp2_with fail
    rw [rounds_succ]
    go_wp2_with fail
    rw [rounds_succ]
    go_wp2_with fail
    rw [rounds_succ]
    go_wp2_with fail
    go_ret
    exact ⟨ret_i64 (by rw [HE.out]; omega), rfl⟩
/-- .. as one text -/
theorem conv_new (l : List UInt8) (n : Nat) (hn : l.length = n) (w : World) :
    (convert 43 9 (.slice (some ⟨w.heap.size, 0, none⟩) n n)).run Try.prog (w.alloc (.cells (Lib.byteCells l).toArray 5)) = .ok (.string ⟨l.toArray⟩) (w.alloc (.cells (Lib.byteCells l).toArray 5)) := by
  refine conv_row n hn ?_
  show (w.heap.push _)[w.heap.size]? = _
  simp
theorem byte_of (a : Nat) (h : a < 256) : ∃ b : UInt8, UInt8.ofNat a = b ∧ b.toNat = a := ⟨_, rfl, enc_at a h⟩
set_option maxRecDepth 100000 in
set_option maxHeartbeats 4000000 in
theorem rsingle_c (n : Int) (w : World) :
    Calls Try.prog 18 #[.int .i64 n] w fun e w' => e = .returned (.string ⟨(singleL n).toArray⟩) ∧ Below w.heap.size w w' := by
  have hw : n < 1 ∨ (¬ n < 1 ∧ 1114111 < n) ∨ ((¬ n < 1 ∧ ¬ 1114111 < n) ∧ 55296 ≤ n ∧ n ≤ 57343) ∨ ((¬ n < 1 ∧ ¬ 1114111 < n) ∧ (n < 55296 ∨ 57343 < n)) := by omega
  rcases hw with h1 | ⟨h1, h2⟩ | ⟨⟨h1, h2⟩, h3, h4⟩ | ⟨⟨h1, h2⟩, h3⟩
  · have HE : Hid (singleL n = []) := Lib.hid (by rw [singleL, if_neg (by rw [runeB, decide_eq_false (by omega)]; simp)])
    have d1 : decide (n < 1) = true := by simpa using h1
    go_enter Try.func18, Try.ntmps18
    go_wp2
    go_ret
    exact ⟨by rw [HE.out]; rfl, Below.refl _ _⟩
  · have HE : Hid (singleL n = []) := Lib.hid (by rw [singleL, if_neg (by rw [runeB, decide_eq_false (by omega)]; simp)])
    have d1 : decide (n < 1) = false := by simpa using h1
    have d2 : decide (1114111 < n) = true := by simpa using h2
    go_enter Try.func18, Try.ntmps18
    go_wp2
    go_ret
    exact ⟨by rw [HE.out]; rfl, Below.refl _ _⟩
  · have HE : Hid (singleL n = []) := Lib.hid (by rw [singleL, if_neg (by rw [runeB, decide_eq_false (by omega)]; simp)])
    have d1 : decide (n < 1) = false := by simpa using h1
    have d2 : decide (1114111 < n) = false := by simpa using h2
    have d3 : decide (55296 ≤ n) = true := by simpa using h3
    have d4 : decide (n ≤ 57343) = true := by simpa using h4
    go_enter Try.func18, Try.ntmps18
    go_wp2
    go_ret
    exact ⟨by rw [HE.out]; rfl, Below.refl _ _⟩
  · have HR : runeB n = true := by rw [runeB]; exact decide_eq_true (by omega)
    obtain ⟨m, rfl⟩ : ∃ m : Nat, n = m := ⟨n.toNat, by omega⟩
    have HE : Hid (singleL (m : Int) = encL m) := Lib.hid (by rw [singleL, if_pos HR]; rfl)
    have d1 : decide ((m : Int) < 1) = false := by simpa using h1
    have d2 : decide (1114111 < (m : Int)) = false := by simpa using h2
    have hd : (decide (55296 ≤ (m : Int)) = false) ∨ (decide (55296 ≤ (m : Int)) = true ∧ decide ((m : Int) ≤ 57343) = false) := by
      rcases h3 with h3 | h3
      · exact .inl (decide_eq_false (by omega))
      · exact .inr ⟨decide_eq_true (by omega), decide_eq_false (by omega)⟩
    have hm1 : 1 ≤ m := by omega
    have hm2 : m ≤ 1114111 := by omega
    clear HR h1 h2 h3
    by_cases q1 : m < 128
    · have HL : Hid (encL m = [UInt8.ofNat (m)]) := Lib.hid (by rw [encL, if_pos (by omega)])
      have e1 : decide ((m : Int) < 128) = true := decide_eq_true (by omega)
      obtain ⟨b0, hb0, hv0⟩ := byte_of (m) (by omega)
      rw [hb0] at HL
      have hx0 : (m : Int) = (b0.toNat : Int) := by omega
      have hl0 := b0.toNat_lt
      have hcv := fun w => conv_new [b0] 1 rfl w
      simp only [Lib.byteCells, List.map_cons, List.map_nil] at hcv
      replace HE : Hid (singleL (b0.toNat : Int) = encL m) := Lib.hid (by rw [← hx0]; exact HE.out)
      clear hb0 hv0
      rcases hd with d3 | ⟨d3, d4⟩
      all_goals
        go_enter Try.func18, Try.ntmps18
        go_wp2
        go_ret
        exact ⟨by rw [HE.out, HL.out]; rfl, below1 _ _⟩
    · by_cases q2 : m < 2048
      · have HL : Hid (encL m = [UInt8.ofNat (192 + m / 64), UInt8.ofNat (128 + m % 64)]) := Lib.hid (by rw [encL, if_neg (by omega), if_pos (by omega)])
        have e1 : decide ((m : Int) < 128) = false := decide_eq_false (by omega)
        have e2 : decide ((m : Int) < 2048) = true := decide_eq_true (by omega)
        obtain ⟨b0, hb0, hv0⟩ := byte_of (192 + m / 64) (by omega)
        rw [hb0] at HL
        have hx0 : 192 + (m : Int) / 64 = (b0.toNat : Int) := by omega
        have hl0 := b0.toNat_lt
        obtain ⟨b1, hb1, hv1⟩ := byte_of (128 + m % 64) (by omega)
        rw [hb1] at HL
        have hx1 : 128 + (m : Int) % 64 = (b1.toNat : Int) := by omega
        have hl1 := b1.toNat_lt
        have hcv := fun w => conv_new [b0, b1] 2 rfl w
        simp only [Lib.byteCells, List.map_cons, List.map_nil] at hcv
        clear hb0 hv0 hb1 hv1
        rcases hd with d3 | ⟨d3, d4⟩
        all_goals
          go_enter Try.func18, Try.ntmps18
          go_wp2
          go_ret
          exact ⟨by rw [HE.out, HL.out]; rfl, below1 _ _⟩
      · by_cases q3 : m < 65536
        · have HL : Hid (encL m = [UInt8.ofNat (224 + m / 4096), UInt8.ofNat (128 + m / 64 % 64), UInt8.ofNat (128 + m % 64)]) := Lib.hid (by rw [encL, if_neg (by omega), if_neg (by omega), if_pos (by omega)])
          have e1 : decide ((m : Int) < 128) = false := decide_eq_false (by omega)
          have e2 : decide ((m : Int) < 2048) = false := decide_eq_false (by omega)
          have e3 : decide ((m : Int) < 65536) = true := decide_eq_true (by omega)
          obtain ⟨b0, hb0, hv0⟩ := byte_of (224 + m / 4096) (by omega)
          rw [hb0] at HL
          have hx0 : 224 + (m : Int) / 4096 = (b0.toNat : Int) := by omega
          have hl0 := b0.toNat_lt
          obtain ⟨b1, hb1, hv1⟩ := byte_of (128 + m / 64 % 64) (by omega)
          rw [hb1] at HL
          have hx1 : 128 + (m : Int) / 64 % 64 = (b1.toNat : Int) := by omega
          have hl1 := b1.toNat_lt
          obtain ⟨b2, hb2, hv2⟩ := byte_of (128 + m % 64) (by omega)
          rw [hb2] at HL
          have hx2 : 128 + (m : Int) % 64 = (b2.toNat : Int) := by omega
          have hl2 := b2.toNat_lt
          have hcv := fun w => conv_new [b0, b1, b2] 3 rfl w
          simp only [Lib.byteCells, List.map_cons, List.map_nil] at hcv
          clear hb0 hv0 hb1 hv1 hb2 hv2
          rcases hd with d3 | ⟨d3, d4⟩
          all_goals
            go_enter Try.func18, Try.ntmps18
            go_wp2
            go_ret
            exact ⟨by rw [HE.out, HL.out]; rfl, below1 _ _⟩
        · have HL : Hid (encL m = [UInt8.ofNat (240 + m / 262144), UInt8.ofNat (128 + m / 4096 % 64), UInt8.ofNat (128 + m / 64 % 64), UInt8.ofNat (128 + m % 64)]) := Lib.hid (by rw [encL, if_neg (by omega), if_neg (by omega), if_neg (by omega)])
          have e1 : decide ((m : Int) < 128) = false := decide_eq_false (by omega)
          have e2 : decide ((m : Int) < 2048) = false := decide_eq_false (by omega)
          have e3 : decide ((m : Int) < 65536) = false := decide_eq_false (by omega)
          obtain ⟨b0, hb0, hv0⟩ := byte_of (240 + m / 262144) (by omega)
          rw [hb0] at HL
          have hx0 : 240 + (m : Int) / 262144 = (b0.toNat : Int) := by omega
          have hl0 := b0.toNat_lt
          obtain ⟨b1, hb1, hv1⟩ := byte_of (128 + m / 4096 % 64) (by omega)
          rw [hb1] at HL
          have hx1 : 128 + (m : Int) / 4096 % 64 = (b1.toNat : Int) := by omega
          have hl1 := b1.toNat_lt
          obtain ⟨b2, hb2, hv2⟩ := byte_of (128 + m / 64 % 64) (by omega)
          rw [hb2] at HL
          have hx2 : 128 + (m : Int) / 64 % 64 = (b2.toNat : Int) := by omega
          have hl2 := b2.toNat_lt
          obtain ⟨b3, hb3, hv3⟩ := byte_of (128 + m % 64) (by omega)
          rw [hb3] at HL
          have hx3 : 128 + (m : Int) % 64 = (b3.toNat : Int) := by omega
          have hl3 := b3.toNat_lt
          have hcv := fun w => conv_new [b0, b1, b2, b3] 4 rfl w
          simp only [Lib.byteCells, List.map_cons, List.map_nil] at hcv
          clear hb0 hv0 hb1 hv1 hb2 hv2 hb3 hv3
          rcases hd with d3 | ⟨d3, d4⟩
          all_goals
            go_enter Try.func18, Try.ntmps18
            go_wp2
            go_ret
            exact ⟨by rw [HE.out, HL.out]; rfl, below1 _ _⟩
end Go.Proofs.Ytkbibkadofeamaa.Run
