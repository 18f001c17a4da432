/- What the program's and the reference's small functions on cells answer: for every cell.
   What the program's and the reference's Letters answer: for every number.
   What the reference's Digits, Column, Number, Name and Parse answer: rows from 0 on, every text.
   What the reference's Parse of a cell answers: every text. -/
import Derived.Laws.Runes
import Derived.Test.YtmlmanlcomfhbaaGreatDoorGa
namespace Go.Proofs.YtmlmanlcomfhbaaGreatDoor.Addr
open Go.RowKit Kit

set_option maxRecDepth 100000 in
set_option maxHeartbeats 1000000 in
theorem mayRow_c (r : Int) (b : Bool) (hb : decide (0 ≤ r ∧ r ≤ 998) = b) (w : World) : Calls Tryz.prog 93 #[.int .i64 r] w fun e w' => e = .returned (.bool b) ∧ w' = w := by
  have HB := Lib.hid hb
  clear hb
  by_cases h0 : 0 ≤ r
  · by_cases h1 : r < 999
    · go_enter Tryz.func93, Tryz.ntmps93
      go_wp2
      go_ret
      exact ⟨ret_bool (by rw [← HB.out]; simp; omega), rfl⟩
    · go_enter Tryz.func93, Tryz.ntmps93
      go_wp2
      go_ret
      exact ⟨ret_bool (by rw [← HB.out]; simp; omega), rfl⟩
  · have hd : decide (0 ≤ r) = false := by simpa using h0
    go_enter Tryz.func93, Tryz.ntmps93
    go_wp2
    go_ret
    exact ⟨ret_bool (by rw [← HB.out]; simp; omega), rfl⟩
set_option maxRecDepth 100000 in
set_option maxHeartbeats 1000000 in
theorem mayCol_c (r : Int) (b : Bool) (hb : decide (0 ≤ r ∧ r ≤ 701) = b) (w : World) : Calls Tryz.prog 94 #[.int .i64 r] w fun e w' => e = .returned (.bool b) ∧ w' = w := by
  have HB := Lib.hid hb
  clear hb
  by_cases h0 : 0 ≤ r
  · by_cases h1 : r < 702
    · go_enter Tryz.func94, Tryz.ntmps94
      go_wp2
      go_ret
      exact ⟨ret_bool (by rw [← HB.out]; simp; omega), rfl⟩
    · go_enter Tryz.func94, Tryz.ntmps94
      go_wp2
      go_ret
      exact ⟨ret_bool (by rw [← HB.out]; simp; omega), rfl⟩
  · have hd : decide (0 ≤ r) = false := by simpa using h0
    go_enter Tryz.func94, Tryz.ntmps94
    go_wp2
    go_ret
    exact ⟨ret_bool (by rw [← HB.out]; simp; omega), rfl⟩
theorem may_split (r c : Int) : mayB r c = (decide (0 ≤ r ∧ r ≤ 998) && decide (0 ≤ c ∧ c ≤ 701)) := by
  unfold mayB
  rw [← Bool.decide_and]
  exact decide_eq_decide.2 ⟨fun ⟨a, b, c, d⟩ => ⟨⟨a, b⟩, c, d⟩, fun ⟨⟨a, b⟩, c, d⟩ => ⟨a, b, c, d⟩⟩
set_option maxRecDepth 100000 in
set_option maxHeartbeats 1000000 in
theorem may_c (r c : Int) (b : Bool) (hb : mayB r c = b) (w : World) : Calls Tryz.prog 68 #[.agg #[.int .i64 r, .int .i64 c]] w fun e w' => e = .returned (.bool b) ∧ Below w.heap.size w w' := by
  rw [may_split] at hb
  cases h1 : decide (0 ≤ r ∧ r ≤ 998) with
  | false =>
    have H1 := Lib.hid (fun w1 => mayRow_c r false h1 w1)
    rw [h1] at hb
    subst hb
    clear h1
    go_enter Tryz.func68, Tryz.ntmps68
    go_wp2_with (go_at_call 93; refine (H1.out _).mono ?_; rintro e w' ⟨rfl, rfl⟩)
    go_ret
    exact ⟨rfl, below1 _ _⟩
  | true =>
    have H1 := Lib.hid (fun w1 => mayRow_c r true h1 w1)
    rw [h1, Bool.true_and] at hb
    have H2 := Lib.hid (fun w1 => mayCol_c c b hb w1)
    clear h1 hb
    go_enter Tryz.func68, Tryz.ntmps68
    go_wp2_with (first | (go_at_call 93; refine (H1.out _).mono ?_; rintro e w' ⟨rfl, rfl⟩) | (go_at_call 94; refine (H2.out _).mono ?_; rintro e w' ⟨rfl, rfl⟩))
    go_ret
    exact ⟨rfl, below1 _ _⟩
set_option maxRecDepth 100000 in
set_option maxHeartbeats 1000000 in
theorem rmay_c (r c : Int) (b : Bool) (hb : mayB r c = b) (w : World) : Calls Tryz.prog 64 #[.agg #[.int .i64 r, .int .i64 c]] w fun e w' => e = .returned (.bool b) ∧ Below w.heap.size w w' := by
  have HB := Lib.hid hb
  clear hb
  by_cases h0 : 0 ≤ r
  · by_cases h1 : r ≤ 998
    · by_cases h2 : 0 ≤ c
      · by_cases h3 : c ≤ 701
        · go_enter Tryz.func64, Tryz.ntmps64
          go_wp2
          go_ret
          exact ⟨ret_bool (by rw [← HB.out]; simp [mayB]; omega), below1 _ _⟩
        · go_enter Tryz.func64, Tryz.ntmps64
          go_wp2
          go_ret
          exact ⟨ret_bool (by rw [← HB.out]; simp [mayB]; omega), below1 _ _⟩
      · have hd : decide (0 ≤ c) = false := by simpa using h2
        go_enter Tryz.func64, Tryz.ntmps64
        go_wp2
        go_ret
        exact ⟨ret_bool (by rw [← HB.out]; simp [mayB]; omega), below1 _ _⟩
    · have hd : decide (r ≤ 998) = false := by simpa using h1
      go_enter Tryz.func64, Tryz.ntmps64
      go_wp2
      go_ret
      exact ⟨ret_bool (by rw [← HB.out]; simp [mayB]; omega), below1 _ _⟩
  · have hd : decide (0 ≤ r) = false := by simpa using h0
    go_enter Tryz.func64, Tryz.ntmps64
    go_wp2
    go_ret
    exact ⟨ret_bool (by rw [← HB.out]; simp [mayB]; omega), below1 _ _⟩
end Go.Proofs.YtmlmanlcomfhbaaGreatDoor.Addr
namespace Go.Proofs.YtmlmanlcomfhbaaGreatDoor.Addr
open Go.RowKit Kit

theorem enc_letter : ∀ x, x < 26 → Utf8.encode ((65 + x : Nat) : Int) = ⟨#[UInt8.ofNat (65 + x)]⟩ := by decide +kernel
theorem conv_letter (x : Nat) (hx : x < 26) (z : Int) (hz : z = ((65 + x : Nat) : Int)) (w : World) : (convert 21 9 (.int .i32 z)).run Tryz.prog w = .ok (.string ⟨#[UInt8.ofNat (65 + x)]⟩) w := by
  subst hz
  rw [run_convert_int_string w _ _ _ _ (by kernel_rfl) Tryz.underlying9, enc_letter x hx]
theorem let_lo : ∀ k, k < 26 → [65 + UInt8.ofNat (k % 26)] ++ [] = letN k := by decide +kernel
theorem let_hi : ∀ k, k < 702 → 26 ≤ k → [65 + UInt8.ofNat ((k / 26 - 1) % 26)] ++ ([65 + UInt8.ofNat (k % 26)] ++ []) = letN k := by decide +kernel
set_option maxRecDepth 100000 in
set_option maxHeartbeats 1000000 in
theorem letters_1 (k : Nat) (hk : k < 26) (w : World) : Calls Tryz.prog 69 #[.int .i64 k] w fun e w' => e = .returned (.string ⟨(letN k).toArray⟩) ∧ w' = w := by
  have H1 := Lib.hid (fun w1 => mayCol_c (k : Int) true (by simp; omega) w1)
  have h1 := fun w1 => conv_letter (k % 26) (by omega) (65 + (k : Int) % 26) (by omega) w1
  have hd : decide (0 ≤ (k : Int) / 26 - 1) = false := by simp; omega
  go_enter Tryz.func69, Tryz.ntmps69
  go_wp2_with (go_at_call 94; refine (H1.out _).mono ?_; rintro e w' ⟨rfl, rfl⟩)
  refine wp_loop_rounds 2 ?_
  rw [rounds_succ]
  go_wp2
  rw [rounds_succ]
  go_wp2
  go_ret
  exact ⟨congrArg (fun x => Ending.returned (.string x)) ((cat [65 + UInt8.ofNat (k % 26)] []).trans (by rw [let_lo k hk])), rfl⟩
set_option maxRecDepth 100000 in
set_option maxHeartbeats 1000000 in
theorem letters_2 (k : Nat) (h26 : 26 ≤ k) (hk : k ≤ 701) (w : World) : Calls Tryz.prog 69 #[.int .i64 k] w fun e w' => e = .returned (.string ⟨(letN k).toArray⟩) ∧ w' = w := by
  have H1 := Lib.hid (fun w1 => mayCol_c (k : Int) true (by simp; omega) w1)
  have h1 := fun w1 => conv_letter (k % 26) (by omega) (65 + (k : Int) % 26) (by omega) w1
  have h2 := fun w1 => conv_letter ((k / 26 - 1) % 26) (by omega) (65 + ((k : Int) / 26 - 1) % 26) (by omega) w1
  have hd1 : decide (0 ≤ (k : Int) / 26 - 1) = true := by simp; omega
  have hd2 : decide (0 ≤ ((k : Int) / 26 - 1) / 26 - 1) = false := by simp; omega
  go_enter Tryz.func69, Tryz.ntmps69
  go_wp2_with (go_at_call 94; refine (H1.out _).mono ?_; rintro e w' ⟨rfl, rfl⟩)
  refine wp_loop_rounds 3 ?_
  rw [rounds_succ]
  go_wp2
  rw [rounds_succ]
  go_wp2
  rw [rounds_succ]
  go_wp2
  go_ret
  refine ⟨congrArg (fun x => Ending.returned (.string x)) ?_, rfl⟩
  rw [show (⟨#[65 + UInt8.ofNat (k % 26)]⟩ : ByteArray) ++ ⟨#[]⟩ = ⟨([65 + UInt8.ofNat (k % 26)] ++ []).toArray⟩ from cat [65 + UInt8.ofNat (k % 26)] []]
  exact (cat [65 + UInt8.ofNat ((k / 26 - 1) % 26)] ([65 + UInt8.ofNat (k % 26)] ++ [])).trans (by rw [let_hi k (by omega) h26])
set_option maxRecDepth 100000 in
set_option maxHeartbeats 1000000 in
theorem letters_out (c : Int) (h : c < 0 ∨ 701 < c) (w : World) : Calls Tryz.prog 69 #[.int .i64 c] w fun e w' => e = .returned (.string ⟨#[]⟩) ∧ w' = w := by
  have H1 := Lib.hid (fun w1 => mayCol_c c false (by simp; omega) w1)
  clear h
  go_enter Tryz.func69, Tryz.ntmps69
  go_wp2_with (go_at_call 94; refine (H1.out _).mono ?_; rintro e w' ⟨rfl, rfl⟩)
  go_ret
  exact ⟨rfl, rfl⟩
theorem letters_nat (k : Nat) (hk : k ≤ 701) (w : World) : Calls Tryz.prog 69 #[.int .i64 k] w fun e w' => e = .returned (.string ⟨(letN k).toArray⟩) ∧ w' = w := by
  by_cases h : k < 26
  · exact letters_1 k h w
  · exact letters_2 k (by omega) hk w
theorem letters_c (c : Int) (w : World) : Calls Tryz.prog 69 #[.int .i64 c] w fun e w' => e = .returned (.string ⟨(colT c).toArray⟩) ∧ w' = w := by
  unfold colT
  by_cases h : c < 0 ∨ 701 < c
  · rw [if_pos h]; exact letters_out c h w
  · rw [if_neg h]
    obtain ⟨k, rfl⟩ := Int.eq_ofNat_of_zero_le (show 0 ≤ c by omega)
    exact letters_nat k (by omega) w

/-- a slice of bytes, as a string -/
theorem conv_one (w : World) (g : Nat) (hg : g = w.heap.size) (x : Int) :
    (convert 54 9 (.slice (some ⟨g, 0, none⟩) 1 1)).run Tryz.prog (w.alloc (.cells #[.int .u8 x] 5)) = .ok (.string ⟨#[UInt8.ofNat x.toNat]⟩) (w.alloc (.cells #[.int .u8 x] 5)) := by
  subst hg
  rw [run_convert_bytes_string _ _ _ _ _ _ _ Tryz.underlying54 Tryz.underlying5 Tryz.underlying9]
  refine (run_bytesToString _ _ 1 1 [x] ?_).trans ?_
  · have hc : (w.alloc (.cells #[.int .u8 x] 5)).cell? ⟨w.heap.size, 0, none⟩ = some (.int .u8 x) := by
      rw [World.cell?_alloc_at _ _ _ _ rfl]; rfl
    simp [loadCells, loadCellsFrom, hc, Addr.add]
  · rfl
theorem conv_two (w : World) (g : Nat) (hg : g = w.heap.size) (x y : Int) :
    (convert 54 9 (.slice (some ⟨g, 0, none⟩) 2 2)).run Tryz.prog (w.alloc (.cells #[.int .u8 x, .int .u8 y] 5)) = .ok (.string ⟨#[UInt8.ofNat x.toNat, UInt8.ofNat y.toNat]⟩) (w.alloc (.cells #[.int .u8 x, .int .u8 y] 5)) := by
  subst hg
  rw [run_convert_bytes_string _ _ _ _ _ _ _ Tryz.underlying54 Tryz.underlying5 Tryz.underlying9]
  refine (run_bytesToString _ _ 2 2 [x, y] ?_).trans ?_
  · have hc : (w.alloc (.cells #[.int .u8 x, .int .u8 y] 5)).cell? ⟨w.heap.size, 0, none⟩ = some (.int .u8 x) := by
      rw [World.cell?_alloc_at _ _ _ _ rfl]; rfl
    have hd : (w.alloc (.cells #[.int .u8 x, .int .u8 y] 5)).cell? ⟨w.heap.size, 1, none⟩ = some (.int .u8 y) := by
      rw [World.cell?_alloc_at _ _ _ _ rfl]; rfl
    simp [loadCells, loadCellsFrom, hc, hd, Addr.add]
  · rfl
set_option maxRecDepth 100000 in
set_option maxHeartbeats 1000000 in
theorem rletters_1 (k : Nat) (hk : k < 26) (w : World) : Calls Tryz.prog 73 #[.int .i64 k] w fun e w' => e = .returned (.string ⟨(letN k).toArray⟩) ∧ Below w.heap.size w w' := by
  have h1 := conv_one w w.heap.size rfl (65 + (k : Int))
  go_enter Tryz.func73, Tryz.ntmps73
  go_wp2
  go_ret
  exact ⟨ret_str (a := [UInt8.ofNat (65 + k)]) (by rw [letN, if_pos hk]), below1 _ _⟩
set_option maxRecDepth 100000 in
set_option maxHeartbeats 1000000 in
theorem rletters_2 (k : Nat) (h26 : 26 ≤ k) (hk : k ≤ 701) (w : World) : Calls Tryz.prog 73 #[.int .i64 k] w fun e w' => e = .returned (.string ⟨(letN k).toArray⟩) ∧ Below w.heap.size w w' := by
  have h1 := conv_two w w.heap.size rfl (64 + (k : Int) / 26) (65 + (k : Int) % 26)
  go_enter Tryz.func73, Tryz.ntmps73
  go_wp2
  go_ret
  exact ⟨ret_str (a := [UInt8.ofNat (64 + k / 26), UInt8.ofNat (65 + k % 26)]) (by rw [letN, if_neg (by omega)]), below1 _ _⟩
set_option maxRecDepth 100000 in
set_option maxHeartbeats 1000000 in
theorem rletters_out (c : Int) (h : c < 0 ∨ 701 < c) (w : World) : Calls Tryz.prog 73 #[.int .i64 c] w fun e w' => e = .returned (.string ⟨#[]⟩) ∧ Below w.heap.size w w' := by
  by_cases h0 : c < 0
  · go_enter Tryz.func73, Tryz.ntmps73
    go_wp2
    go_ret
    exact ⟨rfl, Below.refl _ _⟩
  · have hd : decide (c < 0) = false := by simpa using h0
    have h1 : 701 < c := by omega
    clear h
    go_enter Tryz.func73, Tryz.ntmps73
    go_wp2
    go_ret
    exact ⟨rfl, Below.refl _ _⟩
theorem rletters_nat (k : Nat) (hk : k ≤ 701) (w : World) : Calls Tryz.prog 73 #[.int .i64 k] w fun e w' => e = .returned (.string ⟨(letN k).toArray⟩) ∧ Below w.heap.size w w' := by
  by_cases h : k < 26
  · exact rletters_1 k h w
  · exact rletters_2 k (by omega) hk w
theorem rletters_c (c : Int) (w : World) : Calls Tryz.prog 73 #[.int .i64 c] w fun e w' => e = .returned (.string ⟨(colT c).toArray⟩) ∧ Below w.heap.size w w' := by
  unfold colT
  by_cases h : c < 0 ∨ 701 < c
  · rw [if_pos h]; exact rletters_out c h w
  · rw [if_neg h]
    obtain ⟨k, rfl⟩ := Int.eq_ofNat_of_zero_le (show 0 ≤ c by omega)
    exact rletters_nat k (by omega) w
end Go.Proofs.YtmlmanlcomfhbaaGreatDoor.Addr
namespace Go.Proofs.YtmlmanlcomfhbaaGreatDoor.Addr
open Go.RowKit Kit

theorem ddigs_1 : ∀ c, c < 10 → [UInt8.ofNat (48 + c % 10)] = d3 c := by decide +kernel
theorem ddigs_2 : ∀ c, c < 100 → 10 ≤ c → [48 + UInt8.ofNat (c / 10 % 10)] ++ [48 + UInt8.ofNat (c % 10)] = d3 c := by decide +kernel
theorem ddigs_3 : ∀ c, c < 1000 → 100 ≤ c → [48 + UInt8.ofNat (c / 10 / 10 % 10)] ++ ([48 + UInt8.ofNat (c / 10 % 10)] ++ [48 + UInt8.ofNat (c % 10)]) = d3 c := by decide +kernel
set_option maxRecDepth 100000 in
set_option maxHeartbeats 1000000 in
theorem ddigits_1 (c : Nat) (hc : c < 10) (w : World) : Calls Tryz.prog 31 #[.int .i64 c] w fun e w' => e = .returned (.string ⟨(d3 c).toArray⟩) ∧ Below w.heap.size w w' := by
  have h1 := conv_one w w.heap.size rfl (48 + (c : Int) % 10)
  go_enter Tryz.func31, Tryz.ntmps31
  go_wp2
  refine wp_loop_rounds 1 ?_
  rw [rounds_succ]
  go_wp2
  go_ret
  exact ⟨ret_str (ddigs_1 c hc), below1 _ _⟩
set_option maxRecDepth 100000 in
set_option maxHeartbeats 1000000 in
theorem ddigits_2 (c : Nat) (h10 : 10 ≤ c) (hc : c < 100) (w : World) : Calls Tryz.prog 31 #[.int .i64 c] w fun e w' => e = .returned (.string ⟨(d3 c).toArray⟩) ∧ Below w.heap.size w w' := by
  have h1 := conv_one w w.heap.size rfl (48 + (c : Int) % 10)
  have h2 := conv_one (w.alloc (.cells #[.int .u8 (48 + (c : Int) % 10)] 5)) (w.heap.size + 1) (by simp) (48 + (c : Int) / 10 % 10)
  go_enter Tryz.func31, Tryz.ntmps31
  go_wp2
  refine wp_loop_rounds 2 ?_
  rw [rounds_succ]
  go_wp2
  rw [rounds_succ]
  go_wp2
  go_ret
  exact ⟨ret_str (ddigs_2 c hc h10), below2 _ _ _⟩
set_option maxRecDepth 100000 in
set_option maxHeartbeats 1000000 in
theorem ddigits_3 (c : Nat) (h10 : 100 ≤ c) (hc : c < 1000) (w : World) : Calls Tryz.prog 31 #[.int .i64 c] w fun e w' => e = .returned (.string ⟨(d3 c).toArray⟩) ∧ Below w.heap.size w w' := by
  have h1 := conv_one w w.heap.size rfl (48 + (c : Int) % 10)
  have h2 := conv_one (w.alloc (.cells #[.int .u8 (48 + (c : Int) % 10)] 5)) (w.heap.size + 1) (by simp) (48 + (c : Int) / 10 % 10)
  have h3 := conv_one ((w.alloc (.cells #[.int .u8 (48 + (c : Int) % 10)] 5)).alloc (.cells #[.int .u8 (48 + (c : Int) / 10 % 10)] 5)) (w.heap.size + 2) (by simp) (48 + (c : Int) / 10 / 10 % 10)
  go_enter Tryz.func31, Tryz.ntmps31
  go_wp2
  refine wp_loop_rounds 3 ?_
  rw [rounds_succ]
  go_wp2
  rw [rounds_succ]
  go_wp2
  rw [rounds_succ]
  go_wp2
  go_ret
  exact ⟨ret_str (ddigs_3 c hc h10), below3 _ _ _ _⟩
theorem ddigits_c (c : Nat) (hc : c < 1000) (w : World) : Calls Tryz.prog 31 #[.int .i64 c] w fun e w' => e = .returned (.string ⟨(d3 c).toArray⟩) ∧ Below w.heap.size w w' := by
  by_cases h : c < 10
  · exact ddigits_1 c h w
  · by_cases h2 : c < 100
    · exact ddigits_2 c (by omega) h2 w
    · exact ddigits_3 c (by omega) hc w
/-- the number of row n -/
theorem rnum_c (n : Nat) (hn : n ≤ 998) (z : Int) (hz : z = (n : Int) + 1) (w : World) : Calls Tryz.prog 31 #[.int .i64 z] w fun e w' => e = .returned (.string ⟨(numN n).toArray⟩) ∧ Below w.heap.size w w' := by
  have h := ddigits_c (n + 1) (by omega) w
  have e : (((n + 1 : Nat) : Int)) = z := by omega
  rw [e] at h
  exact h

/-- a reader's answer: a number, and whether there is one -/
def PlaceEnd (p : Int → Bool → Prop) (w : World) (e : Ending) (w' : World) : Prop := ∃ (n : Int) (b : Bool), e = .returned (.agg #[.int .i64 n, .bool b]) ∧ p n b ∧ Below w.heap.size w w'
set_option maxRecDepth 100000 in
set_option maxHeartbeats 1000000 in
theorem rcolumn_c (t : ByteArray) (w : World) : Calls Tryz.prog 105 #[.string t] w (PlaceEnd (ColIs t.data.toList) w) := by
  have h0 : NoCol t.data.toList 0 := fun k hk => absurd hk (Nat.not_lt_zero k)
  go_enter Tryz.func105, Tryz.ntmps105
  go_wp2
  go_loopw [3] (fun i wr => ∃ n : Nat, n ≤ 702 ∧ i = .int .i64 n ∧ NoCol t.data.toList n ∧ Below (w.alloc (.cells #[.int .i64 0, .bool false] 100)).heap.size (w.alloc (.cells #[.int .i64 0, .bool false] 100)) wr) (fun i _ => 702 - (intOf i).toNat)
  case atStart => exact ⟨0, by omega, rfl, h0, Below.refl _ _⟩
  case round =>
    clear h0
    obtain ⟨n, hn, rfl, hN, hb⟩ := hrel
    by_cases hlt : n ≤ 701
    · have Hd := Lib.hid (fun w1 => rletters_nat n hlt w1)
      cases hq : (letN n == t.toList)
      · have hnext := hN.next (by rw [← Lib.toList_data]; simpa using hq)
        go_wp2_with fail
        refine (Hd.out _).mono ?_
        rintro e w2 ⟨rfl, hb2⟩
        have hb3 := on hb hb2
        clear hb hb2 hN
        go_wp2
        go_roundw
        case rel => exact ⟨n + 1, by omega, by go_num, hnext, hb3⟩
        case measure => simp [intOf]; omega
      · have HL := Lib.hid (ColIs.here hlt (t := t.data.toList) (by rw [← Lib.toList_data]; simpa using hq))
        go_wp2_with fail
        refine (Hd.out _).mono ?_
        rintro e w2 ⟨rfl, hb2⟩
        obtain ⟨hc, hw⟩ := slot (on hb hb2)
        obtain ⟨c0, c1, f0, f1⟩ := hc.two
        obtain ⟨e0, e1⟩ := two_set (u := .int .i64 n) (v := .bool true) c0 c1
        clear hb hb2 hN hc
        go_wp2
        exact bodyPost_ret (v := .agg #[.int .i64 n, .bool true]) (by simp [results, Tryz.results105, go_sem, e0, e1]) rfl ⟨_, _, rfl, HL.out, set2 hw (Nat.le_refl _) _ _⟩
    · obtain rfl : n = 702 := by omega
      have HL := Lib.hid hN.done
      obtain ⟨hc, hw⟩ := slot hb
      obtain ⟨c0, c1, f0, f1⟩ := hc.two
      obtain ⟨e0, e1⟩ := two_set (u := .int .i64 0) (v := .bool false) c0 c1
      clear hb hN hc
      go_wp2
      exact bodyPost_ret (v := .agg #[.int .i64 0, .bool false]) (by simp [results, Tryz.results105, go_sem, e0, e1]) rfl ⟨_, _, rfl, HL.out, set2 hw (Nat.le_refl _) _ _⟩
set_option maxRecDepth 100000 in
set_option maxHeartbeats 1000000 in
theorem rnumber_c (t : ByteArray) (w : World) : Calls Tryz.prog 58 #[.string t] w (PlaceEnd (NumIs t.data.toList) w) := by
  have h0 : NoNum t.data.toList 0 := fun k hk => absurd hk (Nat.not_lt_zero k)
  go_enter Tryz.func58, Tryz.ntmps58
  go_wp2
  go_loopw [3] (fun i wr => ∃ n : Nat, n ≤ 999 ∧ i = .int .i64 n ∧ NoNum t.data.toList n ∧ Below (w.alloc (.cells #[.int .i64 0, .bool false] 100)).heap.size (w.alloc (.cells #[.int .i64 0, .bool false] 100)) wr) (fun i _ => 999 - (intOf i).toNat)
  case atStart => exact ⟨0, by omega, rfl, h0, Below.refl _ _⟩
  case round =>
    clear h0
    obtain ⟨n, hn, rfl, hN, hb⟩ := hrel
    by_cases hlt : n ≤ 998
    · have Hd := Lib.hid (fun w1 => rnum_c n hlt ((n : Int) + 1) rfl w1)
      cases hq : (numN n == t.toList)
      · have hnext := hN.next (by rw [← Lib.toList_data]; simpa using hq)
        go_wp2_with fail
        refine (Hd.out _).mono ?_
        rintro e w2 ⟨rfl, hb2⟩
        have hb3 := on hb hb2
        clear hb hb2 hN
        go_wp2
        go_roundw
        case rel => exact ⟨n + 1, by omega, by go_num, hnext, hb3⟩
        case measure => simp [intOf]; omega
      · have HL := Lib.hid (NumIs.here hlt (t := t.data.toList) (by rw [← Lib.toList_data]; simpa using hq))
        go_wp2_with fail
        refine (Hd.out _).mono ?_
        rintro e w2 ⟨rfl, hb2⟩
        obtain ⟨hc, hw⟩ := slot (on hb hb2)
        obtain ⟨c0, c1, f0, f1⟩ := hc.two
        obtain ⟨e0, e1⟩ := two_set (u := .int .i64 n) (v := .bool true) c0 c1
        clear hb hb2 hN hc
        go_wp2
        exact bodyPost_ret (v := .agg #[.int .i64 n, .bool true]) (by simp [results, Tryz.results58, go_sem, e0, e1]) rfl ⟨_, _, rfl, HL.out, set2 hw (Nat.le_refl _) _ _⟩
    · obtain rfl : n = 999 := by omega
      have HL := Lib.hid hN.done
      obtain ⟨hc, hw⟩ := slot hb
      obtain ⟨c0, c1, f0, f1⟩ := hc.two
      obtain ⟨e0, e1⟩ := two_set (u := .int .i64 0) (v := .bool false) c0 c1
      clear hb hN hc
      go_wp2
      exact bodyPost_ret (v := .agg #[.int .i64 0, .bool false]) (by simp [results, Tryz.results58, go_sem, e0, e1]) rfl ⟨_, _, rfl, HL.out, set2 hw (Nat.le_refl _) _ _⟩

set_option maxRecDepth 100000 in
set_option maxHeartbeats 2000000 in
theorem rname_in (i j : Nat) (hi : i ≤ 998) (hj : j ≤ 701) (w : World) : Calls Tryz.prog 51 #[.agg #[.int .i64 i, .int .i64 j]] w fun e w' => e = .returned (.string ⟨(nameN i j).toArray⟩) ∧ Below w.heap.size w w' := by
  have Hm := Lib.hid (fun w1 => rmay_c i j true (mayB_nat hi hj) w1)
  have Hl := Lib.hid (fun w1 => rletters_nat j hj w1)
  have Hn := Lib.hid (fun w1 => rnum_c i hi ((i : Int) + 1) rfl w1)
  have HC := Lib.hid (cat (letN j) (numN i))
  obtain ⟨l1, l2⟩ := let_len1 j
  obtain ⟨n1, n2⟩ := num_length i
  unfold nameN
  generalize letN j = L at *
  generalize numN i = M at *
  go_enter Tryz.func51, Tryz.ntmps51
  go_wp2_with fail
  refine (Hm.out _).mono ?_
  rintro e w1 ⟨rfl, hb0⟩
  obtain ⟨hc, hbw⟩ := slot (w := w) (cs := [.int .i64 i, .int .i64 j]) hb0
  obtain ⟨c0, c1, _, _⟩ := hc.two
  have C0 := fun d os => cell_regrown c0 d os
  have C1 := fun d os => cell_regrown c1 d os
  clear hc hb0 c0 c1
  go_wp2_with fail
  refine wp_region_quiet_below (by kernel_rfl) (by kernel_rfl) ?_
  repeat (go_big_quiet_step (first | (go_at_call 73; with_reducible exact Calls.regrown_of (Hl.out _)) | (go_at_call 31; with_reducible exact Calls.regrown_of (Hn.out _))))
  refine wpQuiet_nil ?_
  intro _ hw'
  obtain ⟨⟨dq, osq⟩, hw''⟩ := hw'
  subst hw''
  go_wp2
  go_ret
  exact ⟨congrArg (fun x => Ending.returned (.string x)) HC.out, on hbw (below_regrown w1 dq osq)⟩
set_option maxRecDepth 100000 in
set_option maxHeartbeats 1000000 in
theorem rname_out (r c : Int) (h : mayB r c = false) (w : World) : Calls Tryz.prog 51 #[.agg #[.int .i64 r, .int .i64 c]] w fun e w' => e = .returned (.string ⟨#[]⟩) ∧ Below w.heap.size w w' := by
  have Hm := Lib.hid (fun w1 => rmay_c r c false h w1)
  clear h
  go_enter Tryz.func51, Tryz.ntmps51
  go_wp2_with fail
  refine (Hm.out _).mono ?_
  rintro e w1 ⟨rfl, hb0⟩
  obtain ⟨_, hbw⟩ := slot (w := w) (cs := [.int .i64 r, .int .i64 c]) hb0
  clear hb0
  go_wp2
  go_ret
  exact ⟨rfl, hbw⟩
theorem rname_c (r c : Int) (w : World) : Calls Tryz.prog 51 #[.agg #[.int .i64 r, .int .i64 c]] w fun e w' => e = .returned (.string ⟨(nameI r c).toArray⟩) ∧ Below w.heap.size w w' := by
  cases h : mayB r c with
  | false => rw [nameI, h, if_neg (by decide)]; exact rname_out r c h w
  | true =>
    obtain ⟨i, j, rfl, rfl, hi, hj⟩ := of_mayB h
    rw [nameI_nat hi hj]
    exact rname_in i j hi hj w
end Go.Proofs.YtmlmanlcomfhbaaGreatDoor.Addr
namespace Go.Proofs.YtmlmanlcomfhbaaGreatDoor.Addr
open Go.RowKit Kit

/-- a reader's answer: a cell, and whether there is one -/
def FoundEnd (t : List UInt8) (w : World) (e : Ending) (w' : World) : Prop := ∃ (r c : Int) (b : Bool), e = .returned (.agg #[.int .i64 r, .int .i64 c, .bool b]) ∧ CellIs t r c b ∧ Below w.heap.size w w'
theorem ext_take (t : ByteArray) (k : Nat) : (t.extract 0 k).data.toList = t.data.toList.take k := by
  rw [Lib.extract_data, List.drop_zero, Nat.sub_zero]
theorem ext_drop (t : ByteArray) (k : Nat) : (t.extract k t.size).data.toList = t.data.toList.drop k := by
  rw [Lib.extract_data, List.take_of_length_le (by rw [List.length_drop, Lib.size_eq]; omega)]
set_option maxRecDepth 100000 in
set_option maxHeartbeats 2000000 in
theorem rparse_c (t : ByteArray) (w : World) : Calls Tryz.prog 83 #[.string t] w (FoundEnd t.data.toList w) := by
  have h0 := NoCut.one t.data.toList
  have hts := Lib.size_eq t
  go_enter Tryz.func83, Tryz.ntmps83
  go_wp2
  go_loopw [3] (fun i wr => ∃ k : Nat, 1 ≤ k ∧ k ≤ 3 ∧ i = .int .i64 k ∧ NoCut t.data.toList k ∧ Below (w.alloc (.cells #[.int .i64 0, .int .i64 0, .bool false] 126)).heap.size (w.alloc (.cells #[.int .i64 0, .int .i64 0, .bool false] 126)) wr) (fun i _ => 3 - (intOf i).toNat)
  case atStart => exact ⟨1, by omega, by omega, rfl, h0, Below.refl _ _⟩
  case round =>
    clear h0
    obtain ⟨k, hk1, hk3, rfl, hN, hb⟩ := hrel
    by_cases hlt : k ≤ 2
    · by_cases hle : k ≤ t.size
      · have Hc := Lib.hid (fun w1 => rcolumn_c (t.extract 0 k) w1)
        have Hn := Lib.hid (fun w1 => rnumber_c (t.extract k t.size) w1)
        rw [ext_take] at Hc
        rw [ext_drop] at Hn
        clear hts
        go_wp2_with fail
        refine (Hc.out _).mono ?_
        rintro e w2 ⟨n, b, rfl, hcol, hb2⟩
        have hb3 := on hb hb2
        have hq := CellsAt.new w2 [.int .i64 n, .bool b] 100
        clear hb hb2 Hc
        go_wp2_with fail
        refine (Hn.out _).mono ?_
        rintro e w3 ⟨m, c, rfl, hnum, hb4⟩
        have hq1 := (hq.on hb4).on_alloc (.cells #[.int .i64 m, .bool c] 100)
        have hz : w2.heap.size < w3.heap.size := (hq.on hb4).1
        have hr1 := CellsAt.new w3 [.int .i64 m, .bool c] 100
        have hb5 := on_alloc (on (on_alloc hb3 (.cells #[.int .i64 n, .bool b] 100)) hb4) (.cells #[.int .i64 m, .bool c] 100)
        clear hb3 hb4 hq Hn
        obtain ⟨p0, p1, _, _⟩ := hq1.two
        obtain ⟨r0, r1, _, _⟩ := hr1.two
        clear hq1 hr1
        cases b with
        | false =>
          have hnext := hN.col hcol
          clear hN hcol hnum
          go_wp2
          go_roundw
          case rel => exact ⟨k + 1, by omega, by omega, by go_num, hnext, hb5⟩
          case measure => simp [intOf]; omega
        | true =>
          cases c with
          | false =>
            have hnext := hN.num hnum
            clear hN hcol hnum
            go_wp2
            go_roundw
            case rel => exact ⟨k + 1, by omega, by omega, by go_num, hnext, hb5⟩
            case measure => simp [intOf]; omega
          | true =>
            have HL := Lib.hid (CellIs.both hcol hnum)
            obtain ⟨hc, hw⟩ := slot (cs := [.int .i64 0, .int .i64 0, .bool false]) hb5
            obtain ⟨c0, c1, c2, f0, f1, f2⟩ := hc.three
            obtain ⟨e0, e1, e2⟩ := three_set (u := .int .i64 m) (v := .int .i64 n) (r := .bool true) c0 c1 c2
            clear hb5 hc hcol hnum hN
            go_wp2
            exact bodyPost_ret (v := .agg #[.int .i64 m, .int .i64 n, .bool true]) (by simp [results, Tryz.results83, go_sem, e0, e1, e2]) rfl ⟨_, _, _, rfl, HL.out, set3 hw (Nat.le_refl _) _ _ _⟩
      · have HL := Lib.hid (hN.done (.inr (by omega)))
        obtain ⟨hc, hw⟩ := slot (cs := [.int .i64 0, .int .i64 0, .bool false]) hb
        obtain ⟨c0, c1, c2, f0, f1, f2⟩ := hc.three
        obtain ⟨e0, e1, e2⟩ := three_set (u := .int .i64 0) (v := .int .i64 0) (r := .bool false) c0 c1 c2
        clear hb hc hN hts
        go_wp2
        exact bodyPost_ret (v := .agg #[.int .i64 0, .int .i64 0, .bool false]) (by simp [results, Tryz.results83, go_sem, e0, e1, e2]) rfl ⟨_, _, _, rfl, HL.out, set3 hw (Nat.le_refl _) _ _ _⟩
    · have HL := Lib.hid (hN.done (.inl (by omega)))
      obtain ⟨hc, hw⟩ := slot (cs := [.int .i64 0, .int .i64 0, .bool false]) hb
      obtain ⟨c0, c1, c2, f0, f1, f2⟩ := hc.three
      obtain ⟨e0, e1, e2⟩ := three_set (u := .int .i64 0) (v := .int .i64 0) (r := .bool false) c0 c1 c2
      clear hb hc hN hts
      go_wp2
      exact bodyPost_ret (v := .agg #[.int .i64 0, .int .i64 0, .bool false]) (by simp [results, Tryz.results83, go_sem, e0, e1, e2]) rfl ⟨_, _, _, rfl, HL.out, set3 hw (Nat.le_refl _) _ _ _⟩
end Go.Proofs.YtmlmanlcomfhbaaGreatDoor.Addr
