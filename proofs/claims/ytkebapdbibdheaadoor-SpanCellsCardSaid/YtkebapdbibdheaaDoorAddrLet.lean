/- What the program's and the reference's Letters answer: for every number. -/
import Derived.Test.YtkebapdbibdheaaDoorAddrLeaf
namespace Go.Proofs.YtkebapdbibdheaaDoor.Addr
open Go.RowKit Kit

theorem enc_letter : ∀ x, x < 26 → Utf8.encode ((65 + x : Nat) : Int) = ⟨#[UInt8.ofNat (65 + x)]⟩ := by decide +kernel
theorem conv_letter (x : Nat) (hx : x < 26) (z : Int) (hz : z = ((65 + x : Nat) : Int)) (w : World) : (convert 21 9 (.int .i32 z)).run Tryd.prog w = .ok (.string ⟨#[UInt8.ofNat (65 + x)]⟩) w := by
  subst hz
  rw [run_convert_int_string w _ _ _ _ (by kernel_rfl) Tryd.underlying9, enc_letter x hx]
theorem let_lo : ∀ k, k < 26 → [65 + UInt8.ofNat (k % 26)] ++ [] = letN k := by decide +kernel
theorem let_hi : ∀ k, k < 702 → 26 ≤ k → [65 + UInt8.ofNat ((k / 26 - 1) % 26)] ++ ([65 + UInt8.ofNat (k % 26)] ++ []) = letN k := by decide +kernel
set_option maxRecDepth 100000 in
set_option maxHeartbeats 1000000 in
theorem letters_1 (k : Nat) (hk : k < 26) (w : World) : Calls Tryd.prog 49 #[.int .i64 k] w fun e w' => e = .returned (.string ⟨(letN k).toArray⟩) ∧ w' = w := by
  have H1 := Lib.hid (fun w1 => mayCol_c (k : Int) true (by simp; omega) w1)
  have h1 := fun w1 => conv_letter (k % 26) (by omega) (65 + (k : Int) % 26) (by omega) w1
  have hd : decide (0 ≤ (k : Int) / 26 - 1) = false := by simp; omega
  go_enter Tryd.func49, Tryd.ntmps49
  go_wp2_with (go_at_call 44; refine (H1.out _).mono ?_; rintro e w' ⟨rfl, rfl⟩)
  refine wp_loop_rounds 2 ?_
  rw [rounds_succ]
  go_wp2
  rw [rounds_succ]
  go_wp2
  go_ret
  exact ⟨congrArg (fun x => Ending.returned (.string x)) ((cat [65 + UInt8.ofNat (k % 26)] []).trans (by rw [let_lo k hk])), rfl⟩
set_option maxRecDepth 100000 in
set_option maxHeartbeats 1000000 in
theorem letters_2 (k : Nat) (h26 : 26 ≤ k) (hk : k ≤ 701) (w : World) : Calls Tryd.prog 49 #[.int .i64 k] w fun e w' => e = .returned (.string ⟨(letN k).toArray⟩) ∧ w' = w := by
  have H1 := Lib.hid (fun w1 => mayCol_c (k : Int) true (by simp; omega) w1)
  have h1 := fun w1 => conv_letter (k % 26) (by omega) (65 + (k : Int) % 26) (by omega) w1
  have h2 := fun w1 => conv_letter ((k / 26 - 1) % 26) (by omega) (65 + ((k : Int) / 26 - 1) % 26) (by omega) w1
  have hd1 : decide (0 ≤ (k : Int) / 26 - 1) = true := by simp; omega
  have hd2 : decide (0 ≤ ((k : Int) / 26 - 1) / 26 - 1) = false := by simp; omega
  go_enter Tryd.func49, Tryd.ntmps49
  go_wp2_with (go_at_call 44; refine (H1.out _).mono ?_; rintro e w' ⟨rfl, rfl⟩)
  refine wp_loop_rounds 3 ?_
  rw [rounds_succ]
  go_wp2
  rw [rounds_succ]
  go_wp2
  rw [rounds_succ]
  go_wp2
  go_ret
  refine ⟨congrArg (fun x => Ending.returned (.string x)) ?_, rfl⟩
  rw [show (⟨#[65 + UInt8.ofNat (k % 26)]⟩ : ByteArray) ++ ⟨#[]⟩ = ⟨([65 + UInt8.ofNat (k % 26)] ++ []).toArray⟩ from cat [65 + UInt8.ofNat (k % 26)] []]
  exact (cat [65 + UInt8.ofNat ((k / 26 - 1) % 26)] ([65 + UInt8.ofNat (k % 26)] ++ [])).trans (by rw [let_hi k (by omega) h26])
set_option maxRecDepth 100000 in
set_option maxHeartbeats 1000000 in
theorem letters_out (c : Int) (h : c < 0 ∨ 701 < c) (w : World) : Calls Tryd.prog 49 #[.int .i64 c] w fun e w' => e = .returned (.string ⟨#[]⟩) ∧ w' = w := by
  have H1 := Lib.hid (fun w1 => mayCol_c c false (by simp; omega) w1)
  clear h
  go_enter Tryd.func49, Tryd.ntmps49
  go_wp2_with (go_at_call 44; refine (H1.out _).mono ?_; rintro e w' ⟨rfl, rfl⟩)
  go_ret
  exact ⟨rfl, rfl⟩
theorem letters_nat (k : Nat) (hk : k ≤ 701) (w : World) : Calls Tryd.prog 49 #[.int .i64 k] w fun e w' => e = .returned (.string ⟨(letN k).toArray⟩) ∧ w' = w := by
  by_cases h : k < 26
  · exact letters_1 k h w
  · exact letters_2 k (by omega) hk w
theorem letters_c (c : Int) (w : World) : Calls Tryd.prog 49 #[.int .i64 c] w fun e w' => e = .returned (.string ⟨(colT c).toArray⟩) ∧ w' = w := by
  unfold colT
  by_cases h : c < 0 ∨ 701 < c
  · rw [if_pos h]; exact letters_out c h w
  · rw [if_neg h]
    obtain ⟨k, rfl⟩ := Int.eq_ofNat_of_zero_le (show 0 ≤ c by omega)
    exact letters_nat k (by omega) w

/-- a slice of bytes, as a string -/
theorem conv_one (w : World) (g : Nat) (hg : g = w.heap.size) (x : Int) :
    (convert 79 9 (.slice (some ⟨g, 0, none⟩) 1 1)).run Tryd.prog (w.alloc (.cells #[.int .u8 x] 5)) = .ok (.string ⟨#[UInt8.ofNat x.toNat]⟩) (w.alloc (.cells #[.int .u8 x] 5)) := by
  subst hg
  rw [run_convert_bytes_string _ _ _ _ _ _ _ Tryd.underlying79 Tryd.underlying5 Tryd.underlying9]
  refine (run_bytesToString _ _ 1 1 [x] ?_).trans ?_
  · have hc : (w.alloc (.cells #[.int .u8 x] 5)).cell? ⟨w.heap.size, 0, none⟩ = some (.int .u8 x) := by
      rw [World.cell?_alloc_at _ _ _ _ rfl]; rfl
    simp [loadCells, loadCellsFrom, hc, Addr.add]
  · rfl
theorem conv_two (w : World) (g : Nat) (hg : g = w.heap.size) (x y : Int) :
    (convert 79 9 (.slice (some ⟨g, 0, none⟩) 2 2)).run Tryd.prog (w.alloc (.cells #[.int .u8 x, .int .u8 y] 5)) = .ok (.string ⟨#[UInt8.ofNat x.toNat, UInt8.ofNat y.toNat]⟩) (w.alloc (.cells #[.int .u8 x, .int .u8 y] 5)) := by
  subst hg
  rw [run_convert_bytes_string _ _ _ _ _ _ _ Tryd.underlying79 Tryd.underlying5 Tryd.underlying9]
  refine (run_bytesToString _ _ 2 2 [x, y] ?_).trans ?_
  · have hc : (w.alloc (.cells #[.int .u8 x, .int .u8 y] 5)).cell? ⟨w.heap.size, 0, none⟩ = some (.int .u8 x) := by
      rw [World.cell?_alloc_at _ _ _ _ rfl]; rfl
    have hd : (w.alloc (.cells #[.int .u8 x, .int .u8 y] 5)).cell? ⟨w.heap.size, 1, none⟩ = some (.int .u8 y) := by
      rw [World.cell?_alloc_at _ _ _ _ rfl]; rfl
    simp [loadCells, loadCellsFrom, hc, hd, Addr.add]
  · rfl
set_option maxRecDepth 100000 in
set_option maxHeartbeats 1000000 in
theorem rletters_1 (k : Nat) (hk : k < 26) (w : World) : Calls Tryd.prog 53 #[.int .i64 k] w fun e w' => e = .returned (.string ⟨(letN k).toArray⟩) ∧ Below w.heap.size w w' := by
  have h1 := conv_one w w.heap.size rfl (65 + (k : Int))
  go_enter Tryd.func53, Tryd.ntmps53
  go_wp2
  go_ret
  exact ⟨ret_str (a := [UInt8.ofNat (65 + k)]) (by rw [letN, if_pos hk]), below1 _ _⟩
set_option maxRecDepth 100000 in
set_option maxHeartbeats 1000000 in
theorem rletters_2 (k : Nat) (h26 : 26 ≤ k) (hk : k ≤ 701) (w : World) : Calls Tryd.prog 53 #[.int .i64 k] w fun e w' => e = .returned (.string ⟨(letN k).toArray⟩) ∧ Below w.heap.size w w' := by
  have h1 := conv_two w w.heap.size rfl (64 + (k : Int) / 26) (65 + (k : Int) % 26)
  go_enter Tryd.func53, Tryd.ntmps53
  go_wp2
  go_ret
  exact ⟨ret_str (a := [UInt8.ofNat (64 + k / 26), UInt8.ofNat (65 + k % 26)]) (by rw [letN, if_neg (by omega)]), below1 _ _⟩
set_option maxRecDepth 100000 in
set_option maxHeartbeats 1000000 in
theorem rletters_out (c : Int) (h : c < 0 ∨ 701 < c) (w : World) : Calls Tryd.prog 53 #[.int .i64 c] w fun e w' => e = .returned (.string ⟨#[]⟩) ∧ Below w.heap.size w w' := by
  by_cases h0 : c < 0
  · go_enter Tryd.func53, Tryd.ntmps53
    go_wp2
    go_ret
    exact ⟨rfl, Below.refl _ _⟩
  · have hd : decide (c < 0) = false := by simpa using h0
    have h1 : 701 < c := by omega
    clear h
    go_enter Tryd.func53, Tryd.ntmps53
    go_wp2
    go_ret
    exact ⟨rfl, Below.refl _ _⟩
theorem rletters_nat (k : Nat) (hk : k ≤ 701) (w : World) : Calls Tryd.prog 53 #[.int .i64 k] w fun e w' => e = .returned (.string ⟨(letN k).toArray⟩) ∧ Below w.heap.size w w' := by
  by_cases h : k < 26
  · exact rletters_1 k h w
  · exact rletters_2 k (by omega) hk w
theorem rletters_c (c : Int) (w : World) : Calls Tryd.prog 53 #[.int .i64 c] w fun e w' => e = .returned (.string ⟨(colT c).toArray⟩) ∧ Below w.heap.size w w' := by
  unfold colT
  by_cases h : c < 0 ∨ 701 < c
  · rw [if_pos h]; exact rletters_out c h w
  · rw [if_neg h]
    obtain ⟨k, rfl⟩ := Int.eq_ofNat_of_zero_le (show 0 ≤ c by omega)
    exact rletters_nat k (by omega) w
end Go.Proofs.YtkebapdbibdheaaDoor.Addr
