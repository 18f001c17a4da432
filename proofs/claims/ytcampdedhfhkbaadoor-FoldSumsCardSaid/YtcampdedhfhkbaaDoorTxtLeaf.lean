/- What the program's isGreat, isSmall, isLetter, turned, fits and the reference's letter, up, down, room answer (over the landed text of package text). -/
import Derived.WalkSmall
import Derived.Test.YtcampdedhfhkbaaDoorTxtMath
import Derived.Test.YtcampdedhfhkbaaDoorKit4
import Derived.Test.YtcampdedhfhkbaaDoorBytes
namespace Go.Proofs.YtcampdedhfhkbaaDoor.Txt
open Go.RowKit Kit Reg

theorem len (t : ByteArray) : t.data.toList.length = t.size := (Lib.size_eq t).symm
theorem bytes_eq {a b : ByteArray} (h : a.data.toList = b.data.toList) : a = b := ByteArray.ext (Array.toList_inj.1 h)
theorem str_is {t : ByteArray} {l : List UInt8} (h : t.data.toList = l) : t = ⟨l.toArray⟩ := bytes_eq (by simp [h])
theorem up_val (c : UInt8) : (isS c = true → ((upB c).toNat : Int) = (c.toNat : Int) - 97 + 65) ∧ (isS c = false → upB c = c) := by
  have h := all_bytes (p := fun c => !(isS c) || (decide ((upB c).toNat + 97 = c.toNat + 65))) (by decide +kernel) c
  refine ⟨fun hs => ?_, fun hs => ?_⟩
  · rw [hs] at h
    have := of_decide_eq_true (show decide ((upB c).toNat + 97 = c.toNat + 65) = true by simpa using h)
    omega
  · unfold upB; rw [hs]; rfl
theorem down_val (c : UInt8) : (isG c = true → ((downB c).toNat : Int) = (c.toNat : Int) - 65 + 97) ∧ (isG c = false → downB c = c) := by
  have h := all_bytes (p := fun c => !(isG c) || (decide ((downB c).toNat + 65 = c.toNat + 97))) (by decide +kernel) c
  refine ⟨fun hs => ?_, fun hs => ?_⟩
  · rw [hs] at h
    have := of_decide_eq_true (show decide ((downB c).toNat + 65 = c.toNat + 97) = true by simpa using h)
    omega
  · unfold downB; rw [hs]; rfl
theorem isG_iff (c : UInt8) : isG c = true ↔ 65 ≤ c.toNat ∧ c.toNat ≤ 90 := by simp [isG]
theorem isS_iff (c : UInt8) : isS c = true ↔ 97 ≤ c.toNat ∧ c.toNat ≤ 122 := by simp [isS]
/-- how a byte lies to two bounds -/
theorem range_ways (c : UInt8) (a b : Nat) (x y : Int) (hx : x = a) (hy : y = b) : (¬ a ≤ c.toNat ∧ decide (x ≤ (c.toNat : Int)) = false) ∨ (a ≤ c.toNat ∧ ¬ c.toNat ≤ b ∧ decide (x ≤ (c.toNat : Int)) = true ∧ decide ((c.toNat : Int) ≤ y) = false) ∨
    (a ≤ c.toNat ∧ c.toNat ≤ b ∧ decide (x ≤ (c.toNat : Int)) = true ∧ decide ((c.toNat : Int) ≤ y) = true) := by
  by_cases h1 : a ≤ c.toNat
  · by_cases h2 : c.toNat ≤ b
    · exact .inr (.inr ⟨h1, h2, decide_eq_true (by omega), decide_eq_true (by omega)⟩)
    · exact .inr (.inl ⟨h1, h2, decide_eq_true (by omega), decide_eq_false (by omega)⟩)
  · exact .inl ⟨h1, decide_eq_false (by omega)⟩
/-- do they fit? -/
def fitsB (s : Nat) (n left : Int) : Bool := decide (0 ≤ left) && (decide (n = 0) || decide ((s : Int) * n ≤ left))
theorem fits_div (s : Nat) (n l : Int) (hn : 0 < n) (hl : 0 ≤ l) : decide ((s : Int) ≤ l.tdiv n) = decide ((s : Int) * n ≤ l) := by
  rw [Int.tdiv_eq_ediv_of_nonneg hl]
  by_cases h : (s : Int) * n ≤ l
  · rw [decide_eq_true h, decide_eq_true ((Int.le_ediv_iff_mul_le hn).2 h)]
  · rw [decide_eq_false h, decide_eq_false (fun e => h ((Int.le_ediv_iff_mul_le hn).1 e))]
set_option maxRecDepth 100000 in
set_option maxHeartbeats 400000 in
theorem fits_c (s : Nat) (n left : Int) (b : Bool) (hb : fitsB s n left = b) (n0 : 0 ≤ n) (n9 : n ≤ 9223372036854775807) (l9 : left ≤ 9223372036854775807) (w : World) :
    Calls Tryd.prog 68 #[.int .i64 (s : Int), .int .i64 n, .int .i64 left] w fun e w' => e = .returned (.bool b) ∧ w = w' := by
  unfold fitsB at hb
  by_cases h1 : 0 ≤ left
  · rw [decide_eq_true h1, Bool.true_and] at hb
    by_cases h2 : n = 0
    · subst h2
      rw [decide_eq_true rfl, Bool.true_or] at hb
      subst hb
      go_enter Tryd.func68, Tryd.ntmps68
      go_wp2
      go_ret
      exact ⟨rfl, rfl⟩
    · rw [decide_eq_false h2, Bool.false_or, ← fits_div s n left (by omega) h1] at hb
      have hz : (n == 0) = false := by simpa using h2
      obtain ⟨q, hq⟩ : ∃ q, left.tdiv n = q := ⟨_, rfl⟩
      rw [hq] at hb
      have hq1 : 0 ≤ q := by rw [← hq]; exact Int.tdiv_nonneg h1 n0
      have hq2 : q ≤ left := by
        rw [← hq, Int.tdiv_eq_ediv_of_nonneg h1]
        exact Int.ediv_le_self n h1
      go_enter Tryd.func68, Tryd.ntmps68
      go_wp2
      go_ret
      exact ⟨rfl, rfl⟩
  · rw [decide_eq_false h1, Bool.false_and] at hb
    subst hb
    go_enter Tryd.func68, Tryd.ntmps68
    go_wp2
    go_ret
    exact ⟨rfl, rfl⟩

/- the reference's -/
theorem up_val2 (c : UInt8) (h : isS c = true) : ((upB c).toNat : Int) = (c.toNat : Int) - 32 := by have := (up_val c).1 h; omega
theorem down_val2 (c : UInt8) (h : isG c = true) : ((downB c).toNat : Int) = (c.toNat : Int) + 32 := by have := (down_val c).1 h; omega
/-- a text, or that there is none, as the reference tells it -/
def GotS (m : List UInt8) (b : Bool) (w : World) : Ending → World → Prop := fun e w' => e = .returned (.agg #[.string ⟨m.toArray⟩, .bool b]) ∧ Below w.heap.size w w'
set_option maxRecDepth 100000 in
set_option maxHeartbeats 400000 in
theorem room_c (s : ByteArray) (h9 : s.size ≤ 1000000) (m : List UInt8) (b : Bool) (hr : roomD s.data.toList = (m, b)) (w : World) : Calls Tryd.prog 70 #[.string s] w (GotS m b w) := by
  by_cases h : 256 < s.size
  · rw [room_out (by rw [len]; exact h)] at hr
    obtain ⟨rfl, rfl⟩ := Prod.mk.inj hr
    have d1 : decide ((256 : Int) < (s.size : Int)) = true := decide_eq_true (by omega)
    go_enter Tryd.func70, Tryd.ntmps70
    go_wp2
    exact bodyPost_ret (v := .agg #[.string ⟨#[]⟩, .bool false]) (by simp [results, Tryd.results70, go_sem]) rfl ⟨rfl, below1 _ _⟩
  · rw [room_in (by rw [len]; omega)] at hr
    obtain ⟨rfl, rfl⟩ := Prod.mk.inj hr
    have d1 : decide ((256 : Int) < (s.size : Int)) = false := decide_eq_false (by omega)
    go_enter Tryd.func70, Tryd.ntmps70
    go_wp2
    exact bodyPost_ret (v := .agg #[.string s, .bool true]) (by simp [results, Tryd.results70, go_sem]) rfl ⟨by rw [← str_is (t := s) rfl], below1 _ _⟩
end Go.Proofs.YtcampdedhfhkbaaDoor.Txt
