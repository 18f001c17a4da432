/- What the reference's Less answers, and what a byte of a text is.
   What package crit's fits and Like answer: for every pattern and every text of at most a thousand bytes.
   Whether a table may be: package look's shaped and May, the reference's Right and May, at every table of at most 1200 values. Written by wip/gen18a.py. -/
import Derived.Test.YtebjedbppiphgaaGreatDoorKtu28
import Derived.BigQuiet
import Derived.Lib.IndexBytes
import Derived.Test.YtebjedbppiphgaaGreatDoorKtu01
import Derived.Test.YtebjedbppiphgaaGreatDoorKtu12
import Derived.Test.YtebjedbppiphgaaGreatDoorKtu17
import Derived.Test.YtebjedbppiphgaaGreatDoorKtu26
import Derived.Test.YtebjedbppiphgaaGreatDoorKtu11
namespace Go.Proofs.YtebjedbppiphgaaGreatDoor.Fnm
open Go.RowKit Kit Reg
theorem len (t : ByteArray) : t.data.toList.length = t.size := (Lib.size_eq t).symm
theorem bytes_eq {a b : ByteArray} (h : a.data.toList = b.data.toList) : a = b := ByteArray.ext (Array.toList_inj.1 h)
theorem lt_at {α : Type} {l : List α} {k : Nat} {x : α} (h : l[k]? = some x) : k < l.length := (List.getElem?_eq_some_iff.1 h).1
theorem like_at (p : ByteArray) (k : Nat) (x : UInt8) (h : p.data.toList[k]? = some x) : ∃ hk : k < p.size, p[k] = x := by
  have h1 := lt_at h
  rw [len] at h1
  refine ⟨h1, ?_⟩
  have h2 := Lib.data_getElem? p k h1
  rw [h] at h2
  exact (Option.some.inj h2).symm
theorem drop_at {α : Type} {l : List α} {k : Nat} {x : α} (h : l[k]? = some x) : l.drop k = x :: l.drop (k + 1) := by
  obtain ⟨hk, rfl⟩ := List.getElem?_eq_some_iff.1 h
  rw [List.drop_eq_getElem_cons hk]
end Go.Proofs.YtebjedbppiphgaaGreatDoor.Fnm
namespace Go.Proofs.YtebjedbppiphgaaGreatDoor.Crt
open Go.RowKit Kit Reg Dec Dig
theorem byte_eq {c : UInt8} {n : Nat} (hn : n < 256) : (c.toNat : Int) = n ↔ c = UInt8.ofNat n := by
  have h1 : (UInt8.ofNat n).toNat = n := by rw [UInt8.toNat_ofNat']; omega
  constructor
  · intro h; exact UInt8.toNat_inj.1 (by omega)
  · rintro rfl; omega
set_option maxRecDepth 100000 in
set_option maxHeartbeats 1000000 in
theorem fits_c (c b : UInt8) (r : Bool) (h : hitB c b = r) (w : World) : Calls Tryz.prog 360 #[.int .u8 (c.toNat : Int), .int .u8 (b.toNat : Int)] w fun e w' => e = .returned (.bool r) ∧ w = w' := by
  by_cases h1 : c = 63
  · subst h1
    obtain rfl : r = true := by rw [← h]; simp [hitB]
    have q1 : (((63 : UInt8).toNat : Int) == 63) = true := rfl
    clear h
    go_enter Tryz.func360, Tryz.ntmps360
    go_wp2
    go_ret
    exact ⟨rfl, rfl⟩
  · have q1 : ((c.toNat : Int) == 63) = false := by
      rw [beq_eq_false_iff_ne]
      intro e
      exact h1 ((byte_eq (n := 63) (by omega)).1 e)
    have q2 : (c.toNat == b.toNat) = r := by
      rw [← h, Bool.eq_iff_iff]
      simp [hitB, h1, UInt8.toNat_inj]
    have q3 : ((c.toNat : Int) == (b.toNat : Int)) = r := by
      rw [← q2, Bool.eq_iff_iff, beq_iff_eq, beq_iff_eq]
      constructor <;> intro e <;> omega
    clear h
    go_enter Tryz.func360, Tryz.ntmps360
    go_wp2
    go_ret
    exact ⟨by first | rfl | rw [q3] | rw [q2] | simp [q3], rfl⟩
theorem like_at (p : ByteArray) (k : Nat) (x : UInt8) (h : p.data.toList[k]? = some x) : ∃ hk : k < p.size, p[k] = x := by
  have h1 := lt_at h
  rw [len] at h1
  refine ⟨h1, ?_⟩
  have h2 := Lib.data_getElem? p k h1
  rw [h] at h2
  exact (Option.some.inj h2).symm
end Go.Proofs.YtebjedbppiphgaaGreatDoor.Crt
namespace Go.Proofs.YtebjedbppiphgaaGreatDoor.Lok
open Go.RowKit Kit Reg Dec Dig Val Fld
set_option maxRecDepth 100000 in
set_option maxHeartbeats 2000000 in
theorem shaped_r (r c : Int) (A : Option Addr) (n cap : Nat) (h1 : r < 1) (w : World) :
    Calls Tryz.prog 200 #[.agg #[.int .i64 r, .int .i64 c, .slice A n cap]] w (Bit false w) := by
  have d1 : decide (r < 1) = true := decide_eq_true (by omega)
  go_enter Tryz.func200, Tryz.ntmps200
  go_wp2
  go_ret
  exact ⟨rfl, below1 _ _⟩
set_option maxRecDepth 100000 in
set_option maxHeartbeats 2000000 in
theorem shaped_c (r c : Int) (A : Option Addr) (n cap : Nat) (h1 : 1 ≤ r) (h2 : c < 1) (w : World) :
    Calls Tryz.prog 200 #[.agg #[.int .i64 r, .int .i64 c, .slice A n cap]] w (Bit false w) := by
  have d1 : decide (r < 1) = false := decide_eq_false (by omega)
  have d2 : decide (c < 1) = true := decide_eq_true (by omega)
  go_enter Tryz.func200, Tryz.ntmps200
  go_wp2
  go_ret
  exact ⟨rfl, below1 _ _⟩
set_option maxRecDepth 100000 in
set_option maxHeartbeats 2000000 in
theorem shaped_n (r c : Int) (A : Option Addr) (n cap : Nat) (h1 : 1 ≤ r) (h2 : 1 ≤ c) (h3 : 1000 < n) (w : World) :
    Calls Tryz.prog 200 #[.agg #[.int .i64 r, .int .i64 c, .slice A n cap]] w (Bit false w) := by
  have d1 : decide (r < 1) = false := decide_eq_false (by omega)
  have d2 : decide (c < 1) = false := decide_eq_false (by omega)
  have d3 : decide ((1000 : Int) < (n : Int)) = true := decide_eq_true (by omega)
  have d4 : decide (1000 < n) = true := decide_eq_true (by omega)
  go_enter Tryz.func200, Tryz.ntmps200
  go_wp2
  go_ret
  exact ⟨rfl, below1 _ _⟩
set_option maxRecDepth 100000 in
set_option maxHeartbeats 2000000 in
theorem shaped_m (r c : Int) (A : Option Addr) (n cap : Nat) (h1 : 1 ≤ r) (h2 : 1 ≤ c) (h3 : n ≤ 1000) (m : Int) (hm : (n : Int).tmod c = m) (hm0 : ¬ m = 0) (w : World) :
    Calls Tryz.prog 200 #[.agg #[.int .i64 r, .int .i64 c, .slice A n cap]] w (Bit false w) := by
  have d1 : decide (r < 1) = false := decide_eq_false (by omega)
  have d2 : decide (c < 1) = false := decide_eq_false (by omega)
  have d3 : decide ((1000 : Int) < (n : Int)) = false := decide_eq_false (by omega)
  have d4 : decide (1000 < n) = false := decide_eq_false (by omega)
  have q0 : (c == 0) = false := by rw [beq_eq_false_iff_ne]; omega
  have q1 : ¬ c = 0 := by omega
  have q2 : (m == 0) = false := by rw [beq_eq_false_iff_ne]; exact hm0
  go_enter Tryz.func200, Tryz.ntmps200
  go_wp2_with fail
  go_quiet (fail)
  go_wp2
  go_ret
  exact ⟨rfl, on (below1 _ _) (drew_below rfl)⟩
set_option maxRecDepth 100000 in
set_option maxHeartbeats 2000000 in
theorem shaped_q (r c : Int) (A : Option Addr) (n cap : Nat) (h1 : 1 ≤ r) (h2 : 1 ≤ c) (h3 : n ≤ 1000) (hm : (n : Int).tmod c = 0) (q : Int) (hq : (n : Int).tdiv c = q) (hqr : ¬ q = r) (w : World) :
    Calls Tryz.prog 200 #[.agg #[.int .i64 r, .int .i64 c, .slice A n cap]] w (Bit false w) := by
  have d1 : decide (r < 1) = false := decide_eq_false (by omega)
  have d2 : decide (c < 1) = false := decide_eq_false (by omega)
  have d3 : decide ((1000 : Int) < (n : Int)) = false := decide_eq_false (by omega)
  have d4 : decide (1000 < n) = false := decide_eq_false (by omega)
  have q0 : (c == 0) = false := by rw [beq_eq_false_iff_ne]; omega
  have q1 : ¬ c = 0 := by omega
  have q3 : 0 ≤ q := hq ▸ Int.tdiv_nonneg (by omega) (by omega)
  have q4 : q ≤ 1000 := hq ▸ Int.le_trans (Int.tdiv_le_self _ (by omega)) (by omega)
  have q2 : (q == r) = false := by rw [beq_eq_false_iff_ne]; exact hqr
  go_enter Tryz.func200, Tryz.ntmps200
  go_wp2_with fail
  go_quiet (fail)
  go_wp2
  go_ret
  exact ⟨rfl, on (below1 _ _) (drew_below rfl)⟩
set_option maxRecDepth 100000 in
set_option maxHeartbeats 2000000 in
theorem shaped_y (r c : Int) (A : Option Addr) (n cap : Nat) (h1 : 1 ≤ r) (h2 : 1 ≤ c) (h3 : n ≤ 1000) (hm : (n : Int).tmod c = 0) (hq : (n : Int).tdiv c = r) (w : World) :
    Calls Tryz.prog 200 #[.agg #[.int .i64 r, .int .i64 c, .slice A n cap]] w (Bit true w) := by
  have d1 : decide (r < 1) = false := decide_eq_false (by omega)
  have d2 : decide (c < 1) = false := decide_eq_false (by omega)
  have d3 : decide ((1000 : Int) < (n : Int)) = false := decide_eq_false (by omega)
  have d4 : decide (1000 < n) = false := decide_eq_false (by omega)
  have q0 : (c == 0) = false := by rw [beq_eq_false_iff_ne]; omega
  have q1 : ¬ c = 0 := by omega
  have q4 : r ≤ 1000 := hq ▸ Int.le_trans (Int.tdiv_le_self _ (by omega)) (by omega)
  go_enter Tryz.func200, Tryz.ntmps200
  go_wp2_with fail
  go_quiet (fail)
  go_wp2
  go_ret
  exact ⟨rfl, on (below1 _ _) (drew_below rfl)⟩
theorem shaped_no (r c : Int) (A : Option Addr) (n cap : Nat) (h : ¬ Good r c n) (w : World) :
    Calls Tryz.prog 200 #[.agg #[.int .i64 r, .int .i64 c, .slice A n cap]] w (Bit false w) := by
  rcases bad_ways h with h1 | ⟨h1, h2⟩ | ⟨h1, h2, h3⟩ | ⟨h1, h2, h3, h4⟩ | ⟨h1, h2, h3, h4, h5⟩
  · exact shaped_r r c A n cap h1 w
  · exact shaped_c r c A n cap h1 h2 w
  · exact shaped_n r c A n cap h1 h2 h3 w
  · exact shaped_m r c A n cap h1 h2 h3 _ rfl h4 w
  · exact shaped_q r c A n cap h1 h2 h3 h4 _ rfl h5 w
theorem shaped_yes (r c : Int) (A : Option Addr) (n cap : Nat) (h : Good r c n) (w : World) :
    Calls Tryz.prog 200 #[.agg #[.int .i64 r, .int .i64 c, .slice A n cap]] w (Bit true w) := by
  obtain ⟨R, C, rfl, rfl, h1, h2, h3, h4, _, _⟩ := h.nat
  exact shaped_y R C A n cap (by omega) (by omega) h3 (good_div h2 h4).1 (good_div h2 h4).2 w
end Go.Proofs.YtebjedbppiphgaaGreatDoor.Lok
