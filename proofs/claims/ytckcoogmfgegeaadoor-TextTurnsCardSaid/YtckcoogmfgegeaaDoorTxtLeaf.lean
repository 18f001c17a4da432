/- What the program's isGreat, isSmall, isLetter, turned, fits and the reference's letter, up, down, room answer (over the landed text of package text). -/
import Derived.Test.YtckcoogmfgegeaaDoorTxtMath
import Derived.Test.YtckcoogmfgegeaaDoorKit4
import Derived.Test.YtckcoogmfgegeaaDoorBytes
import Derived.WalkSmall
namespace Go.Proofs.YtckcoogmfgegeaaDoor.Txt
open Go.RowKit Kit Reg

theorem len (t : ByteArray) : t.data.toList.length = t.size := (Lib.size_eq t).symm
theorem bytes_eq {a b : ByteArray} (h : a.data.toList = b.data.toList) : a = b := ByteArray.ext (Array.toList_inj.1 h)
theorem str_is {t : ByteArray} {l : List UInt8} (h : t.data.toList = l) : t = ⟨l.toArray⟩ := bytes_eq (by simp [h])
theorem up_val (c : UInt8) : (isS c = true → ((upB c).toNat : Int) = (c.toNat : Int) - 97 + 65) ∧ (isS c = false → upB c = c) := by
  have h := all_bytes (p := fun c => !(isS c) || (decide ((upB c).toNat + 97 = c.toNat + 65))) (by decide +kernel) c
  refine ⟨fun hs => ?_, fun hs => ?_⟩
  · rw [hs] at h
    have := of_decide_eq_true (show decide ((upB c).toNat + 97 = c.toNat + 65) = true by simpa using h)
    omega
  · unfold upB; rw [hs]; rfl
theorem down_val (c : UInt8) : (isG c = true → ((downB c).toNat : Int) = (c.toNat : Int) - 65 + 97) ∧ (isG c = false → downB c = c) := by
  have h := all_bytes (p := fun c => !(isG c) || (decide ((downB c).toNat + 65 = c.toNat + 97))) (by decide +kernel) c
  refine ⟨fun hs => ?_, fun hs => ?_⟩
  · rw [hs] at h
    have := of_decide_eq_true (show decide ((downB c).toNat + 65 = c.toNat + 97) = true by simpa using h)
    omega
  · unfold downB; rw [hs]; rfl
theorem isG_iff (c : UInt8) : isG c = true ↔ 65 ≤ c.toNat ∧ c.toNat ≤ 90 := by simp [isG]
theorem isS_iff (c : UInt8) : isS c = true ↔ 97 ≤ c.toNat ∧ c.toNat ≤ 122 := by simp [isS]
/-- how a byte lies to two bounds -/
theorem range_ways (c : UInt8) (a b : Nat) (x y : Int) (hx : x = a) (hy : y = b) : (¬ a ≤ c.toNat ∧ decide (x ≤ (c.toNat : Int)) = false) ∨ (a ≤ c.toNat ∧ ¬ c.toNat ≤ b ∧ decide (x ≤ (c.toNat : Int)) = true ∧ decide ((c.toNat : Int) ≤ y) = false) ∨
    (a ≤ c.toNat ∧ c.toNat ≤ b ∧ decide (x ≤ (c.toNat : Int)) = true ∧ decide ((c.toNat : Int) ≤ y) = true) := by
  by_cases h1 : a ≤ c.toNat
  · by_cases h2 : c.toNat ≤ b
    · exact .inr (.inr ⟨h1, h2, decide_eq_true (by omega), decide_eq_true (by omega)⟩)
    · exact .inr (.inl ⟨h1, h2, decide_eq_true (by omega), decide_eq_false (by omega)⟩)
  · exact .inl ⟨h1, decide_eq_false (by omega)⟩
set_option maxRecDepth 100000 in
set_option maxHeartbeats 400000 in
theorem great_c (c : UInt8) (b : Bool) (hb : isG c = b) (w : World) : Calls Tryd.prog 66 #[.int .u8 (c.toNat : Int)] w fun e w' => e = .returned (.bool b) ∧ w = w' := by
  have hi := isG_iff c
  rcases range_ways c 65 90 65 90 rfl rfl with ⟨h1, d1⟩ | ⟨h1, h2, d1, d2⟩ | ⟨h1, h2, d1, d2⟩
  · obtain rfl : false = b := by rw [← hb]; cases h : isG c <;> simp_all
    clear hi hb
    go_enter Tryd.func66, Tryd.ntmps66
    go_wp2
    go_ret
    exact ⟨rfl, rfl⟩
  · obtain rfl : false = b := by rw [← hb]; cases h : isG c <;> simp_all
    clear hi hb
    go_enter Tryd.func66, Tryd.ntmps66
    go_wp2
    go_ret
    exact ⟨rfl, rfl⟩
  · obtain rfl : true = b := by rw [← hb, hi.2 ⟨h1, h2⟩]
    clear hi hb
    go_enter Tryd.func66, Tryd.ntmps66
    go_wp2
    go_ret
    exact ⟨rfl, rfl⟩
set_option maxRecDepth 100000 in
set_option maxHeartbeats 400000 in
theorem small_c (c : UInt8) (b : Bool) (hb : isS c = b) (w : World) : Calls Tryd.prog 65 #[.int .u8 (c.toNat : Int)] w fun e w' => e = .returned (.bool b) ∧ w = w' := by
  have hi := isS_iff c
  rcases range_ways c 97 122 97 122 rfl rfl with ⟨h1, d1⟩ | ⟨h1, h2, d1, d2⟩ | ⟨h1, h2, d1, d2⟩
  · obtain rfl : false = b := by rw [← hb]; cases h : isS c <;> simp_all
    clear hi hb
    go_enter Tryd.func65, Tryd.ntmps65
    go_wp2
    go_ret
    exact ⟨rfl, rfl⟩
  · obtain rfl : false = b := by rw [← hb]; cases h : isS c <;> simp_all
    clear hi hb
    go_enter Tryd.func65, Tryd.ntmps65
    go_wp2
    go_ret
    exact ⟨rfl, rfl⟩
  · obtain rfl : true = b := by rw [← hb, hi.2 ⟨h1, h2⟩]
    clear hi hb
    go_enter Tryd.func65, Tryd.ntmps65
    go_wp2
    go_ret
    exact ⟨rfl, rfl⟩
set_option maxRecDepth 100000 in
set_option maxHeartbeats 400000 in
theorem letter_c (c : UInt8) (b : Bool) (hb : isL c = b) (w : World) : Calls Tryd.prog 41 #[.int .u8 (c.toNat : Int)] w fun e w' => e = .returned (.bool b) ∧ w = w' := by
  unfold isL at hb
  have HS := Lib.hid (fun b hb w => small_c c b hb w)
  cases h : isG c
  · have HG := Lib.hid (fun w => great_c c false h w)
    rw [h, Bool.false_or] at hb
    have HS2 := Lib.hid (fun w => HS.out b hb w)
    clear HS h hb
    go_enter Tryd.func41, Tryd.ntmps41
    go_wp2_with (first
      | (go_at_call 66; refine (HG.out _).mono ?_; rintro e w' ⟨rfl, rfl⟩)
      | (go_at_call 65; refine (HS2.out _).mono ?_; rintro e w' ⟨rfl, rfl⟩))
    go_ret
    exact ⟨rfl, rfl⟩
  · have HG := Lib.hid (fun w => great_c c true h w)
    rw [h, Bool.true_or] at hb
    subst hb
    clear HS h
    go_enter Tryd.func41, Tryd.ntmps41
    go_wp2_with (go_at_call 66; refine (HG.out _).mono ?_; rintro e w' ⟨rfl, rfl⟩)
    go_ret
    exact ⟨rfl, rfl⟩
set_option maxRecDepth 100000 in
set_option maxHeartbeats 400000 in
theorem turned0_c (c : UInt8) (w : World) : Calls Tryd.prog 40 #[.int .u8 (c.toNat : Int), .int .i64 0] w fun e w' => e = .returned (.int .u8 ((upB c).toNat : Int)) ∧ w = w' := by
  obtain ⟨u1, u2⟩ := up_val c
  have hc := c.toNat_lt
  cases h : isS c
  · have HS := Lib.hid (fun w => small_c c false h w)
    rw [u2 h]
    clear u1 u2 h
    go_enter Tryd.func40, Tryd.ntmps40
    go_wp2_with (go_at_call 65; refine (HS.out _).mono ?_; rintro e w' ⟨rfl, rfl⟩)
    go_ret
    exact ⟨rfl, rfl⟩
  · have HS := Lib.hid (fun w => small_c c true h w)
    have hi := (isS_iff c).1 h
    have HU := Lib.hid (u1 h)
    clear u1 u2 h
    go_enter Tryd.func40, Tryd.ntmps40
    go_wp2_with (go_at_call 65; refine (HS.out _).mono ?_; rintro e w' ⟨rfl, rfl⟩)
    go_ret
    exact ⟨by rw [HU.out] <;> rfl, rfl⟩
set_option maxRecDepth 100000 in
set_option maxHeartbeats 400000 in
theorem turned1_c (c : UInt8) (w : World) : Calls Tryd.prog 40 #[.int .u8 (c.toNat : Int), .int .i64 1] w fun e w' => e = .returned (.int .u8 ((downB c).toNat : Int)) ∧ w = w' := by
  obtain ⟨u1, u2⟩ := down_val c
  have hc := c.toNat_lt
  cases h : isG c
  · have HS := Lib.hid (fun w => great_c c false h w)
    rw [u2 h]
    clear u1 u2 h
    go_enter Tryd.func40, Tryd.ntmps40
    go_wp2_with (go_at_call 66; refine (HS.out _).mono ?_; rintro e w' ⟨rfl, rfl⟩)
    go_ret
    exact ⟨rfl, rfl⟩
  · have HS := Lib.hid (fun w => great_c c true h w)
    have hi := (isG_iff c).1 h
    have HU := Lib.hid (u1 h)
    clear u1 u2 h
    go_enter Tryd.func40, Tryd.ntmps40
    go_wp2_with (go_at_call 66; refine (HS.out _).mono ?_; rintro e w' ⟨rfl, rfl⟩)
    go_ret
    exact ⟨by rw [HU.out] <;> rfl, rfl⟩
theorem turned_c (c : UInt8) (k : Nat) (hk : k ≤ 1) (w : World) : Calls Tryd.prog 40 #[.int .u8 (c.toNat : Int), .int .i64 (k : Int)] w fun e w' => e = .returned (.int .u8 ((wayB k c).toNat : Int)) ∧ w = w' := by
  obtain rfl | rfl : k = 0 ∨ k = 1 := by omega
  · exact turned0_c c w
  · exact turned1_c c w
/-- do they fit? -/
def fitsB (s : Nat) (n left : Int) : Bool := decide (0 ≤ left) && (decide (n = 0) || decide ((s : Int) * n ≤ left))
theorem fits_div (s : Nat) (n l : Int) (hn : 0 < n) (hl : 0 ≤ l) : decide ((s : Int) ≤ l.tdiv n) = decide ((s : Int) * n ≤ l) := by
  rw [Int.tdiv_eq_ediv_of_nonneg hl]
  by_cases h : (s : Int) * n ≤ l
  · rw [decide_eq_true h, decide_eq_true ((Int.le_ediv_iff_mul_le hn).2 h)]
  · rw [decide_eq_false h, decide_eq_false (fun e => h ((Int.le_ediv_iff_mul_le hn).1 e))]
set_option maxRecDepth 100000 in
set_option maxHeartbeats 400000 in
theorem fits_c (s : Nat) (n left : Int) (b : Bool) (hb : fitsB s n left = b) (n0 : 0 ≤ n) (n9 : n ≤ 9223372036854775807) (l9 : left ≤ 9223372036854775807) (w : World) :
    Calls Tryd.prog 29 #[.int .i64 (s : Int), .int .i64 n, .int .i64 left] w fun e w' => e = .returned (.bool b) ∧ w = w' := by
  unfold fitsB at hb
  by_cases h1 : 0 ≤ left
  · rw [decide_eq_true h1, Bool.true_and] at hb
    by_cases h2 : n = 0
    · subst h2
      rw [decide_eq_true rfl, Bool.true_or] at hb
      subst hb
      go_enter Tryd.func29, Tryd.ntmps29
      go_wp2
      go_ret
      exact ⟨rfl, rfl⟩
    · rw [decide_eq_false h2, Bool.false_or, ← fits_div s n left (by omega) h1] at hb
      have hz : (n == 0) = false := by simpa using h2
      obtain ⟨q, hq⟩ : ∃ q, left.tdiv n = q := ⟨_, rfl⟩
      rw [hq] at hb
      have hq1 : 0 ≤ q := by rw [← hq]; exact Int.tdiv_nonneg h1 n0
      have hq2 : q ≤ left := by
        rw [← hq, Int.tdiv_eq_ediv_of_nonneg h1]
        exact Int.ediv_le_self n h1
      go_enter Tryd.func29, Tryd.ntmps29
      go_wp2
      go_ret
      exact ⟨rfl, rfl⟩
  · rw [decide_eq_false h1, Bool.false_and] at hb
    subst hb
    go_enter Tryd.func29, Tryd.ntmps29
    go_wp2
    go_ret
    exact ⟨rfl, rfl⟩

/- the reference's -/
set_option maxRecDepth 100000 in
set_option maxHeartbeats 400000 in
theorem rletter_c (c : UInt8) (b : Bool) (hb : isL c = b) (w : World) : Calls Tryd.prog 25 #[.int .u8 (c.toNat : Int)] w fun e w' => e = .returned (.bool b) ∧ w = w' := by
  have hi := isG_iff c
  have hj := isS_iff c
  unfold isL at hb
  rcases range_ways c 65 90 65 90 rfl rfl with ⟨h1, d1⟩ | ⟨h1, h2, d1, d2⟩ | ⟨h1, h2, d1, d2⟩
  · rcases range_ways c 97 122 97 122 rfl rfl with ⟨h3, d3⟩ | ⟨h3, h4, d3, d4⟩ | ⟨h3, h4, d3, d4⟩
    · obtain rfl : false = b := by rw [← hb]; cases h : isG c <;> cases k : isS c <;> simp_all
      clear hi hj hb
      go_enter Tryd.func25, Tryd.ntmps25
      go_wp2
      go_ret
      exact ⟨rfl, rfl⟩
    · omega
    · omega
  · rcases range_ways c 97 122 97 122 rfl rfl with ⟨h3, d3⟩ | ⟨h3, h4, d3, d4⟩ | ⟨h3, h4, d3, d4⟩
    · obtain rfl : false = b := by rw [← hb]; cases h : isG c <;> cases k : isS c <;> simp_all
      clear hi hj hb
      go_enter Tryd.func25, Tryd.ntmps25
      go_wp2
      go_ret
      exact ⟨rfl, rfl⟩
    · obtain rfl : false = b := by rw [← hb]; cases h : isG c <;> cases k : isS c <;> simp_all
      clear hi hj hb
      go_enter Tryd.func25, Tryd.ntmps25
      go_wp2
      go_ret
      exact ⟨rfl, rfl⟩
    · obtain rfl : true = b := by rw [← hb, hj.2 ⟨h3, h4⟩, Bool.or_true]
      clear hi hj hb
      go_enter Tryd.func25, Tryd.ntmps25
      go_wp2
      go_ret
      exact ⟨rfl, rfl⟩
  · obtain rfl : true = b := by rw [← hb, hi.2 ⟨h1, h2⟩, Bool.true_or]
    clear hi hj hb
    go_enter Tryd.func25, Tryd.ntmps25
    go_wp2
    go_ret
    exact ⟨rfl, rfl⟩
theorem up_val2 (c : UInt8) (h : isS c = true) : ((upB c).toNat : Int) = (c.toNat : Int) - 32 := by have := (up_val c).1 h; omega
theorem down_val2 (c : UInt8) (h : isG c = true) : ((downB c).toNat : Int) = (c.toNat : Int) + 32 := by have := (down_val c).1 h; omega
set_option maxRecDepth 100000 in
set_option maxHeartbeats 400000 in
theorem rup_c (c : UInt8) (w : World) : Calls Tryd.prog 27 #[.int .u8 (c.toNat : Int)] w fun e w' => e = .returned (.int .u8 ((upB c).toNat : Int)) ∧ w = w' := by
  have hi := isS_iff c
  have hc := c.toNat_lt
  rcases range_ways c 97 122 97 122 rfl rfl with ⟨h1, d1⟩ | ⟨h1, h2, d1, d2⟩ | ⟨h1, h2, d1, d2⟩
  · rw [(up_val c).2 (by cases h : isS c <;> simp_all)]
    clear hi
    go_enter Tryd.func27, Tryd.ntmps27
    go_wp2
    go_ret
    exact ⟨rfl, rfl⟩
  · rw [(up_val c).2 (by cases h : isS c <;> simp_all)]
    clear hi
    go_enter Tryd.func27, Tryd.ntmps27
    go_wp2
    go_ret
    exact ⟨rfl, rfl⟩
  · have HU := Lib.hid (up_val2 c (hi.2 ⟨h1, h2⟩))
    clear hi
    go_enter Tryd.func27, Tryd.ntmps27
    go_wp2
    go_ret
    exact ⟨by rw [HU.out] <;> rfl, rfl⟩
set_option maxRecDepth 100000 in
set_option maxHeartbeats 400000 in
theorem rdown_c (c : UInt8) (w : World) : Calls Tryd.prog 26 #[.int .u8 (c.toNat : Int)] w fun e w' => e = .returned (.int .u8 ((downB c).toNat : Int)) ∧ w = w' := by
  have hi := isG_iff c
  have hc := c.toNat_lt
  rcases range_ways c 65 90 65 90 rfl rfl with ⟨h1, d1⟩ | ⟨h1, h2, d1, d2⟩ | ⟨h1, h2, d1, d2⟩
  · rw [(down_val c).2 (by cases h : isG c <;> simp_all)]
    clear hi
    go_enter Tryd.func26, Tryd.ntmps26
    go_wp2
    go_ret
    exact ⟨rfl, rfl⟩
  · rw [(down_val c).2 (by cases h : isG c <;> simp_all)]
    clear hi
    go_enter Tryd.func26, Tryd.ntmps26
    go_wp2
    go_ret
    exact ⟨rfl, rfl⟩
  · have HU := Lib.hid (down_val2 c (hi.2 ⟨h1, h2⟩))
    clear hi
    go_enter Tryd.func26, Tryd.ntmps26
    go_wp2
    go_ret
    exact ⟨by rw [HU.out] <;> rfl, rfl⟩
/-- a text, or that there is none, as the reference tells it -/
def GotS (m : List UInt8) (b : Bool) (w : World) : Ending → World → Prop := fun e w' => e = .returned (.agg #[.string ⟨m.toArray⟩, .bool b]) ∧ Below w.heap.size w w'
set_option maxRecDepth 100000 in
set_option maxHeartbeats 400000 in
theorem room_c (s : ByteArray) (h9 : s.size ≤ 1000000) (m : List UInt8) (b : Bool) (hr : roomD s.data.toList = (m, b)) (w : World) : Calls Tryd.prog 31 #[.string s] w (GotS m b w) := by
  by_cases h : 256 < s.size
  · rw [room_out (by rw [len]; exact h)] at hr
    obtain ⟨rfl, rfl⟩ := Prod.mk.inj hr
    have d1 : decide ((256 : Int) < (s.size : Int)) = true := decide_eq_true (by omega)
    go_enter Tryd.func31, Tryd.ntmps31
    go_wp2
    exact bodyPost_ret (v := .agg #[.string ⟨#[]⟩, .bool false]) (by simp [results, Tryd.results31, go_sem]) rfl ⟨rfl, below1 _ _⟩
  · rw [room_in (by rw [len]; omega)] at hr
    obtain ⟨rfl, rfl⟩ := Prod.mk.inj hr
    have d1 : decide ((256 : Int) < (s.size : Int)) = false := decide_eq_false (by omega)
    go_enter Tryd.func31, Tryd.ntmps31
    go_wp2
    exact bodyPost_ret (v := .agg #[.string s, .bool true]) (by simp [results, Tryd.results31, go_sem]) rfl ⟨by rw [← str_is (t := s) rfl], below1 _ _⟩
end Go.Proofs.YtckcoogmfgegeaaDoor.Txt
