/- What the reference's Digits, Column, Number, Name and Parse answer: rows from 0 on, every text. -/
import Derived.Test.YtkebapdbibdheaaDoorAddrLet
namespace Go.Proofs.YtkebapdbibdheaaDoor.Addr
open Go.RowKit Kit

theorem ddigs_1 : ∀ c, c < 10 → [UInt8.ofNat (48 + c % 10)] = d3 c := by decide +kernel
theorem ddigs_2 : ∀ c, c < 100 → 10 ≤ c → [48 + UInt8.ofNat (c / 10 % 10)] ++ [48 + UInt8.ofNat (c % 10)] = d3 c := by decide +kernel
theorem ddigs_3 : ∀ c, c < 1000 → 100 ≤ c → [48 + UInt8.ofNat (c / 10 / 10 % 10)] ++ ([48 + UInt8.ofNat (c / 10 % 10)] ++ [48 + UInt8.ofNat (c % 10)]) = d3 c := by decide +kernel
set_option maxRecDepth 100000 in
set_option maxHeartbeats 1000000 in
theorem ddigits_1 (c : Nat) (hc : c < 10) (w : World) : Calls Tryd.prog 54 #[.int .i64 c] w fun e w' => e = .returned (.string ⟨(d3 c).toArray⟩) ∧ Below w.heap.size w w' := by
  have h1 := conv_one w w.heap.size rfl (48 + (c : Int) % 10)
  go_enter Tryd.func54, Tryd.ntmps54
  go_wp2
  refine wp_loop_rounds 1 ?_
  rw [rounds_succ]
  go_wp2
  go_ret
  exact ⟨ret_str (ddigs_1 c hc), below1 _ _⟩
set_option maxRecDepth 100000 in
set_option maxHeartbeats 1000000 in
theorem ddigits_2 (c : Nat) (h10 : 10 ≤ c) (hc : c < 100) (w : World) : Calls Tryd.prog 54 #[.int .i64 c] w fun e w' => e = .returned (.string ⟨(d3 c).toArray⟩) ∧ Below w.heap.size w w' := by
  have h1 := conv_one w w.heap.size rfl (48 + (c : Int) % 10)
  have h2 := conv_one (w.alloc (.cells #[.int .u8 (48 + (c : Int) % 10)] 5)) (w.heap.size + 1) (by simp) (48 + (c : Int) / 10 % 10)
  go_enter Tryd.func54, Tryd.ntmps54
  go_wp2
  refine wp_loop_rounds 2 ?_
  rw [rounds_succ]
  go_wp2
  rw [rounds_succ]
  go_wp2
  go_ret
  exact ⟨ret_str (ddigs_2 c hc h10), below2 _ _ _⟩
set_option maxRecDepth 100000 in
set_option maxHeartbeats 1000000 in
theorem ddigits_3 (c : Nat) (h10 : 100 ≤ c) (hc : c < 1000) (w : World) : Calls Tryd.prog 54 #[.int .i64 c] w fun e w' => e = .returned (.string ⟨(d3 c).toArray⟩) ∧ Below w.heap.size w w' := by
  have h1 := conv_one w w.heap.size rfl (48 + (c : Int) % 10)
  have h2 := conv_one (w.alloc (.cells #[.int .u8 (48 + (c : Int) % 10)] 5)) (w.heap.size + 1) (by simp) (48 + (c : Int) / 10 % 10)
  have h3 := conv_one ((w.alloc (.cells #[.int .u8 (48 + (c : Int) % 10)] 5)).alloc (.cells #[.int .u8 (48 + (c : Int) / 10 % 10)] 5)) (w.heap.size + 2) (by simp) (48 + (c : Int) / 10 / 10 % 10)
  go_enter Tryd.func54, Tryd.ntmps54
  go_wp2
  refine wp_loop_rounds 3 ?_
  rw [rounds_succ]
  go_wp2
  rw [rounds_succ]
  go_wp2
  rw [rounds_succ]
  go_wp2
  go_ret
  exact ⟨ret_str (ddigs_3 c hc h10), below3 _ _ _ _⟩
theorem ddigits_c (c : Nat) (hc : c < 1000) (w : World) : Calls Tryd.prog 54 #[.int .i64 c] w fun e w' => e = .returned (.string ⟨(d3 c).toArray⟩) ∧ Below w.heap.size w w' := by
  by_cases h : c < 10
  · exact ddigits_1 c h w
  · by_cases h2 : c < 100
    · exact ddigits_2 c (by omega) h2 w
    · exact ddigits_3 c (by omega) hc w
/-- the number of row n -/
theorem rnum_c (n : Nat) (hn : n ≤ 998) (z : Int) (hz : z = (n : Int) + 1) (w : World) : Calls Tryd.prog 54 #[.int .i64 z] w fun e w' => e = .returned (.string ⟨(numN n).toArray⟩) ∧ Below w.heap.size w w' := by
  have h := ddigits_c (n + 1) (by omega) w
  have e : (((n + 1 : Nat) : Int)) = z := by omega
  rw [e] at h
  exact h

/-- a reader's answer: a number, and whether there is one -/
def PlaceEnd (p : Int → Bool → Prop) (w : World) (e : Ending) (w' : World) : Prop := ∃ (n : Int) (b : Bool), e = .returned (.agg #[.int .i64 n, .bool b]) ∧ p n b ∧ Below w.heap.size w w'
set_option maxRecDepth 100000 in
set_option maxHeartbeats 1000000 in
theorem rcolumn_c (t : ByteArray) (w : World) : Calls Tryd.prog 51 #[.string t] w (PlaceEnd (ColIs t.data.toList) w) := by
  have h0 : NoCol t.data.toList 0 := fun k hk => absurd hk (Nat.not_lt_zero k)
  go_enter Tryd.func51, Tryd.ntmps51
  go_wp2
  go_loopw [3] (fun i wr => ∃ n : Nat, n ≤ 702 ∧ i = .int .i64 n ∧ NoCol t.data.toList n ∧ Below (w.alloc (.cells #[.int .i64 0, .bool false] 67)).heap.size (w.alloc (.cells #[.int .i64 0, .bool false] 67)) wr) (fun i _ => 702 - (intOf i).toNat)
  case atStart => exact ⟨0, by omega, rfl, h0, Below.refl _ _⟩
  case round =>
    clear h0
    obtain ⟨n, hn, rfl, hN, hb⟩ := hrel
    by_cases hlt : n ≤ 701
    · have Hd := Lib.hid (fun w1 => rletters_nat n hlt w1)
      cases hq : (letN n == t.toList)
      · have hnext := hN.next (by rw [← Lib.toList_data]; simpa using hq)
        go_wp2_with fail
        refine (Hd.out _).mono ?_
        rintro e w2 ⟨rfl, hb2⟩
        have hb3 := on hb hb2
        clear hb hb2 hN
        go_wp2
        go_roundw
        case rel => exact ⟨n + 1, by omega, by go_num, hnext, hb3⟩
        case measure => simp [intOf]; omega
      · have HL := Lib.hid (ColIs.here hlt (t := t.data.toList) (by rw [← Lib.toList_data]; simpa using hq))
        go_wp2_with fail
        refine (Hd.out _).mono ?_
        rintro e w2 ⟨rfl, hb2⟩
        obtain ⟨hc, hw⟩ := slot (on hb hb2)
        obtain ⟨c0, c1, f0, f1⟩ := hc.two
        obtain ⟨e0, e1⟩ := two_set (u := .int .i64 n) (v := .bool true) c0 c1
        clear hb hb2 hN hc
        go_wp2
        exact bodyPost_ret (v := .agg #[.int .i64 n, .bool true]) (by simp [results, Tryd.results51, go_sem, e0, e1]) rfl ⟨_, _, rfl, HL.out, set2 hw (Nat.le_refl _) _ _⟩
    · obtain rfl : n = 702 := by omega
      have HL := Lib.hid hN.done
      obtain ⟨hc, hw⟩ := slot hb
      obtain ⟨c0, c1, f0, f1⟩ := hc.two
      obtain ⟨e0, e1⟩ := two_set (u := .int .i64 0) (v := .bool false) c0 c1
      clear hb hN hc
      go_wp2
      exact bodyPost_ret (v := .agg #[.int .i64 0, .bool false]) (by simp [results, Tryd.results51, go_sem, e0, e1]) rfl ⟨_, _, rfl, HL.out, set2 hw (Nat.le_refl _) _ _⟩
set_option maxRecDepth 100000 in
set_option maxHeartbeats 1000000 in
theorem rnumber_c (t : ByteArray) (w : World) : Calls Tryd.prog 52 #[.string t] w (PlaceEnd (NumIs t.data.toList) w) := by
  have h0 : NoNum t.data.toList 0 := fun k hk => absurd hk (Nat.not_lt_zero k)
  go_enter Tryd.func52, Tryd.ntmps52
  go_wp2
  go_loopw [3] (fun i wr => ∃ n : Nat, n ≤ 999 ∧ i = .int .i64 n ∧ NoNum t.data.toList n ∧ Below (w.alloc (.cells #[.int .i64 0, .bool false] 67)).heap.size (w.alloc (.cells #[.int .i64 0, .bool false] 67)) wr) (fun i _ => 999 - (intOf i).toNat)
  case atStart => exact ⟨0, by omega, rfl, h0, Below.refl _ _⟩
  case round =>
    clear h0
    obtain ⟨n, hn, rfl, hN, hb⟩ := hrel
    by_cases hlt : n ≤ 998
    · have Hd := Lib.hid (fun w1 => rnum_c n hlt ((n : Int) + 1) rfl w1)
      cases hq : (numN n == t.toList)
      · have hnext := hN.next (by rw [← Lib.toList_data]; simpa using hq)
        go_wp2_with fail
        refine (Hd.out _).mono ?_
        rintro e w2 ⟨rfl, hb2⟩
        have hb3 := on hb hb2
        clear hb hb2 hN
        go_wp2
        go_roundw
        case rel => exact ⟨n + 1, by omega, by go_num, hnext, hb3⟩
        case measure => simp [intOf]; omega
      · have HL := Lib.hid (NumIs.here hlt (t := t.data.toList) (by rw [← Lib.toList_data]; simpa using hq))
        go_wp2_with fail
        refine (Hd.out _).mono ?_
        rintro e w2 ⟨rfl, hb2⟩
        obtain ⟨hc, hw⟩ := slot (on hb hb2)
        obtain ⟨c0, c1, f0, f1⟩ := hc.two
        obtain ⟨e0, e1⟩ := two_set (u := .int .i64 n) (v := .bool true) c0 c1
        clear hb hb2 hN hc
        go_wp2
        exact bodyPost_ret (v := .agg #[.int .i64 n, .bool true]) (by simp [results, Tryd.results52, go_sem, e0, e1]) rfl ⟨_, _, rfl, HL.out, set2 hw (Nat.le_refl _) _ _⟩
    · obtain rfl : n = 999 := by omega
      have HL := Lib.hid hN.done
      obtain ⟨hc, hw⟩ := slot hb
      obtain ⟨c0, c1, f0, f1⟩ := hc.two
      obtain ⟨e0, e1⟩ := two_set (u := .int .i64 0) (v := .bool false) c0 c1
      clear hb hN hc
      go_wp2
      exact bodyPost_ret (v := .agg #[.int .i64 0, .bool false]) (by simp [results, Tryd.results52, go_sem, e0, e1]) rfl ⟨_, _, rfl, HL.out, set2 hw (Nat.le_refl _) _ _⟩

set_option maxRecDepth 100000 in
set_option maxHeartbeats 2000000 in
theorem rname_in (i j : Nat) (hi : i ≤ 998) (hj : j ≤ 701) (w : World) : Calls Tryd.prog 42 #[.agg #[.int .i64 i, .int .i64 j]] w fun e w' => e = .returned (.string ⟨(nameN i j).toArray⟩) ∧ Below w.heap.size w w' := by
  have Hm := Lib.hid (fun w1 => rmay_c i j true (mayB_nat hi hj) w1)
  have Hl := Lib.hid (fun w1 => rletters_nat j hj w1)
  have Hn := Lib.hid (fun w1 => rnum_c i hi ((i : Int) + 1) rfl w1)
  have HC := Lib.hid (cat (letN j) (numN i))
  obtain ⟨l1, l2⟩ := let_len1 j
  obtain ⟨n1, n2⟩ := num_length i
  unfold nameN
  generalize letN j = L at *
  generalize numN i = M at *
  go_enter Tryd.func42, Tryd.ntmps42
  go_wp2_with fail
  refine (Hm.out _).mono ?_
  rintro e w1 ⟨rfl, hb0⟩
  obtain ⟨hc, hbw⟩ := slot (w := w) (cs := [.int .i64 i, .int .i64 j]) hb0
  obtain ⟨c0, c1, _, _⟩ := hc.two
  have C0 := fun d os => cell_regrown c0 d os
  have C1 := fun d os => cell_regrown c1 d os
  clear hc hb0 c0 c1
  go_wp2_with fail
  refine wp_region_quiet_below (by kernel_rfl) (by kernel_rfl) ?_
  repeat (go_big_quiet_step (first | (go_at_call 53; with_reducible exact Calls.regrown_of (Hl.out _)) | (go_at_call 54; with_reducible exact Calls.regrown_of (Hn.out _))))
  refine wpQuiet_nil ?_
  intro _ hw'
  obtain ⟨⟨dq, osq⟩, hw''⟩ := hw'
  subst hw''
  go_wp2
  go_ret
  exact ⟨congrArg (fun x => Ending.returned (.string x)) HC.out, on hbw (below_regrown w1 dq osq)⟩
set_option maxRecDepth 100000 in
set_option maxHeartbeats 1000000 in
theorem rname_out (r c : Int) (h : mayB r c = false) (w : World) : Calls Tryd.prog 42 #[.agg #[.int .i64 r, .int .i64 c]] w fun e w' => e = .returned (.string ⟨#[]⟩) ∧ Below w.heap.size w w' := by
  have Hm := Lib.hid (fun w1 => rmay_c r c false h w1)
  clear h
  go_enter Tryd.func42, Tryd.ntmps42
  go_wp2_with fail
  refine (Hm.out _).mono ?_
  rintro e w1 ⟨rfl, hb0⟩
  obtain ⟨_, hbw⟩ := slot (w := w) (cs := [.int .i64 r, .int .i64 c]) hb0
  clear hb0
  go_wp2
  go_ret
  exact ⟨rfl, hbw⟩
theorem rname_c (r c : Int) (w : World) : Calls Tryd.prog 42 #[.agg #[.int .i64 r, .int .i64 c]] w fun e w' => e = .returned (.string ⟨(nameI r c).toArray⟩) ∧ Below w.heap.size w w' := by
  cases h : mayB r c with
  | false => rw [nameI, h, if_neg (by decide)]; exact rname_out r c h w
  | true =>
    obtain ⟨i, j, rfl, rfl, hi, hj⟩ := of_mayB h
    rw [nameI_nat hi hj]
    exact rname_in i j hi hj w
end Go.Proofs.YtkebapdbibdheaaDoor.Addr
