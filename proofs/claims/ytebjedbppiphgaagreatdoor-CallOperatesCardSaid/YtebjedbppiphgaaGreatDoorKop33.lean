/- What the reference's Less answers, and what a byte of a text is.
   What package crit's fits and Like answer: for every pattern and every text of at most a thousand bytes.
   Whether a table may be: package look's shaped and May, the reference's Right and May, at every table of at most 1200 values. Written by wip/gen18a.py. -/
import Derived.Test.YtebjedbppiphgaaGreatDoorKop32
import Derived.BigQuiet
import Derived.Lib.IndexBytes
import Derived.Test.YtebjedbppiphgaaGreatDoorKop01
import Derived.Test.YtebjedbppiphgaaGreatDoorKop12
import Derived.Test.YtebjedbppiphgaaGreatDoorKop16
import Derived.Test.YtebjedbppiphgaaGreatDoorKop31
import Derived.Test.YtebjedbppiphgaaGreatDoorKop11
namespace Go.Proofs.YtebjedbppiphgaaGreatDoor.Fnm
open Go.RowKit Kit Reg
theorem len (t : ByteArray) : t.data.toList.length = t.size := (Lib.size_eq t).symm
theorem bytes_eq {a b : ByteArray} (h : a.data.toList = b.data.toList) : a = b := ByteArray.ext (Array.toList_inj.1 h)
theorem lt_at {α : Type} {l : List α} {k : Nat} {x : α} (h : l[k]? = some x) : k < l.length := (List.getElem?_eq_some_iff.1 h).1
theorem like_at (p : ByteArray) (k : Nat) (x : UInt8) (h : p.data.toList[k]? = some x) : ∃ hk : k < p.size, p[k] = x := by
  have h1 := lt_at h
  rw [len] at h1
  refine ⟨h1, ?_⟩
  have h2 := Lib.data_getElem? p k h1
  rw [h] at h2
  exact (Option.some.inj h2).symm
theorem drop_at {α : Type} {l : List α} {k : Nat} {x : α} (h : l[k]? = some x) : l.drop k = x :: l.drop (k + 1) := by
  obtain ⟨hk, rfl⟩ := List.getElem?_eq_some_iff.1 h
  rw [List.drop_eq_getElem_cons hk]
theorem less_cons_eq (x : UInt8) (a b : List UInt8) : lessL (x :: a) (x :: b) = lessL a b := by
  have h : ¬ x < x := UInt8.lt_irrefl x
  simp [lessL, Lib.compareBytes, h]
theorem less_cons_ne {x y : UInt8} (h : ¬ x = y) (a b : List UInt8) : lessL (x :: a) (y :: b) = decide (x < y) := by
  by_cases h1 : x < y
  · simp [lessL, Lib.compareBytes, h1]
  · have h2 : y < x := UInt8.lt_of_le_of_ne (UInt8.not_lt.1 h1) (Ne.symm h)
    simp [lessL, Lib.compareBytes, h1, h2]
theorem less_short {a b : List UInt8} (h : a = [] ∨ b = []) : lessL a b = decide (a.length < b.length) := by
  rcases a with _ | ⟨x, a⟩ <;> rcases b with _ | ⟨y, b⟩ <;> simp_all [lessL, Lib.compareBytes]
theorem less_step {S T : List UInt8} {k : Nat} {x y : UInt8} (hx : S[k]? = some x) (hy : T[k]? = some y) (h : x = y) : lessL (S.drop k) (T.drop k) = lessL (S.drop (k + 1)) (T.drop (k + 1)) := by
  rw [drop_at hx, drop_at hy, h, less_cons_eq]
theorem less_here {S T : List UInt8} {k : Nat} {x y : UInt8} (hx : S[k]? = some x) (hy : T[k]? = some y) (h : ¬ x = y) : lessL (S.drop k) (T.drop k) = decide (x < y) := by
  rw [drop_at hx, drop_at hy, less_cons_ne h]
theorem less_end {S T : List UInt8} {k : Nat} (hk1 : k ≤ S.length) (hk2 : k ≤ T.length) (h : S.length ≤ k ∨ T.length ≤ k) : lessL (S.drop k) (T.drop k) = decide (S.length < T.length) := by
  rw [less_short (by rcases h with h | h; exact .inl (List.drop_of_length_le h); exact .inr (List.drop_of_length_le h)), List.length_drop, List.length_drop]
  rw [decide_eq_decide]
  omega
set_option maxRecDepth 100000 in
set_option maxHeartbeats 2000000 in
theorem rless_c (s t : ByteArray) (hs : s.size ≤ 1000) (ht : t.size ≤ 1000) (r : Bool) (hr : lessL s.data.toList t.data.toList = r) (w : World) :
    Calls Tryz.prog 197 #[.string s, .string t] w fun e w' => e = .returned (.bool r) ∧ Below w.heap.size w w' := by
  have HR := Lib.hid hr
  have HSA := Lib.hid (fun k x h => like_at s k x h)
  have HTA := Lib.hid (fun k x h => like_at t k x h)
  have HLS := Lib.hid (len s)
  have HLT := Lib.hid (len t)
  have H0 : Hid (lessL (s.data.toList.drop 0) (t.data.toList.drop 0) = r) := Lib.hid (by simpa using hr)
  clear hr
  go_enter Tryz.func197, Tryz.ntmps197
  go_wp2
  go_loopw [5] (fun i wr => ∃ k : Nat, k ≤ s.size ∧ k ≤ t.size ∧ i = .int .i64 k ∧ Hid (lessL (s.data.toList.drop k) (t.data.toList.drop k) = r) ∧ Below w.heap.size w wr) (fun i _ => s.size - (intOf i).toNat)
  case atStart => exact ⟨0, by omega, by omega, rfl, H0, Below.refl _ _⟩
  case round =>
    clear H0
    obtain ⟨k, hk1, hk2, rfl, hl, hb⟩ := hrel
    by_cases h1 : k < s.size
    · have d1 : decide (k < s.size) = true := decide_eq_true h1
      obtain ⟨x, hx⟩ : ∃ x, s.data.toList[k]? = some x := ⟨_, List.getElem?_eq_getElem (by rw [HLS.out]; exact h1)⟩
      obtain ⟨hxs, hxx⟩ := HSA.out k x hx
      by_cases h2 : k < t.size
      · have d2 : decide (k < t.size) = true := decide_eq_true h2
        obtain ⟨y, hy⟩ : ∃ y, t.data.toList[k]? = some y := ⟨_, List.getElem?_eq_getElem (by rw [HLT.out]; exact h2)⟩
        obtain ⟨hyt, hyy⟩ := HTA.out k y hy
        by_cases hxy : x = y
        · have HN : Hid (lessL (s.data.toList.drop (k + 1)) (t.data.toList.drop (k + 1)) = r) := Lib.hid ((less_step hx hy hxy).symm.trans hl.out)
          have q1 : (x.toNat == y.toNat) = true := by rw [hxy]; simp
          have q2 : ((x.toNat : Int) == (y.toNat : Int)) = true := by rw [hxy]; simp
          have q3 : ((x.toNat : Int) != (y.toNat : Int)) = false := by rw [hxy]; simp
          have q4 : (x.toNat != y.toNat) = false := by rw [hxy]; simp
          clear hxy hx hy hl HR HSA HTA HLS HLT
          go_wp2_with fail
          go_quiet (fail)
          go_wp2
          go_roundw
          case rel => exact ⟨k + 1, by omega, by omega, by go_num, HN, on hb (drew_below rfl)⟩
          case measure => simp [intOf]; omega
        · have hne : ¬ x.toNat = y.toNat := fun e => hxy (UInt8.toNat_inj.1 e)
          have q1 : (x.toNat == y.toNat) = false := by rw [beq_eq_false_iff_ne]; exact hne
          have q2 : ((x.toNat : Int) == (y.toNat : Int)) = false := by rw [beq_eq_false_iff_ne]; omega
          have q3 : ((x.toNat : Int) != (y.toNat : Int)) = true := by rw [bne_iff_ne]; omega
          have q4 : (x.toNat != y.toNat) = true := by rw [bne_iff_ne]; exact hne
          have HN := Lib.hid ((less_here hx hy hxy).symm.trans hl.out)
          have e1 : decide (x.toNat < y.toNat) = r := by rw [← HN.out, decide_eq_decide, UInt8.lt_iff_toNat_lt]
          have e2 : decide ((x.toNat : Int) < (y.toNat : Int)) = r := by rw [← e1, decide_eq_decide]; omega
          clear hxy hne hx hy hl HR HSA HTA HLS HLT HN
          cases r
          all_goals
            go_wp2_with fail
            go_quiet (fail)
            go_wp2_with fail
            go_quiet (fail)
            go_wp2
            go_ret
            exact ⟨by first | rfl | simp_all, on (on hb (drew_below rfl)) (drew_below rfl)⟩
      · have d2 : decide (k < t.size) = false := decide_eq_false h2
        have HN := Lib.hid ((less_end (by rw [HLS.out]; omega) (by rw [HLT.out]; omega) (.inr (by rw [HLT.out]; omega))).symm.trans hl.out)
        rw [HLS.out, HLT.out] at HN
        have e1 := HN.out
        clear hl HR HSA HTA HLS HLT HN hxx hx
        cases r
        all_goals
          go_wp2
          go_ret
          exact ⟨by first | rfl | simp_all, hb⟩
    · have d1 : decide (k < s.size) = false := decide_eq_false h1
      have HN := Lib.hid ((less_end (by rw [HLS.out]; omega) (by rw [HLT.out]; omega) (.inl (by rw [HLS.out]; omega))).symm.trans hl.out)
      rw [HLS.out, HLT.out] at HN
      have e1 := HN.out
      clear hl HR HSA HTA HLS HLT HN
      cases r
      all_goals
        go_wp2
        go_ret
        exact ⟨by first | rfl | simp_all, hb⟩
end Go.Proofs.YtebjedbppiphgaaGreatDoor.Fnm
namespace Go.Proofs.YtebjedbppiphgaaGreatDoor.Crt
open Go.RowKit Kit Reg Dec Dig
theorem byte_eq {c : UInt8} {n : Nat} (hn : n < 256) : (c.toNat : Int) = n ↔ c = UInt8.ofNat n := by
  have h1 : (UInt8.ofNat n).toNat = n := by rw [UInt8.toNat_ofNat']; omega
  constructor
  · intro h; exact UInt8.toNat_inj.1 (by omega)
  · rintro rfl; omega
set_option maxRecDepth 100000 in
set_option maxHeartbeats 1000000 in
theorem fits_c (c b : UInt8) (r : Bool) (h : hitB c b = r) (w : World) : Calls Tryz.prog 360 #[.int .u8 (c.toNat : Int), .int .u8 (b.toNat : Int)] w fun e w' => e = .returned (.bool r) ∧ w = w' := by
  by_cases h1 : c = 63
  · subst h1
    obtain rfl : r = true := by rw [← h]; simp [hitB]
    have q1 : (((63 : UInt8).toNat : Int) == 63) = true := rfl
    clear h
    go_enter Tryz.func360, Tryz.ntmps360
    go_wp2
    go_ret
    exact ⟨rfl, rfl⟩
  · have q1 : ((c.toNat : Int) == 63) = false := by
      rw [beq_eq_false_iff_ne]
      intro e
      exact h1 ((byte_eq (n := 63) (by omega)).1 e)
    have q2 : (c.toNat == b.toNat) = r := by
      rw [← h, Bool.eq_iff_iff]
      simp [hitB, h1, UInt8.toNat_inj]
    have q3 : ((c.toNat : Int) == (b.toNat : Int)) = r := by
      rw [← q2, Bool.eq_iff_iff, beq_iff_eq, beq_iff_eq]
      constructor <;> intro e <;> omega
    clear h
    go_enter Tryz.func360, Tryz.ntmps360
    go_wp2
    go_ret
    exact ⟨by first | rfl | rw [q3] | rw [q2] | simp [q3], rfl⟩
theorem like_at (p : ByteArray) (k : Nat) (x : UInt8) (h : p.data.toList[k]? = some x) : ∃ hk : k < p.size, p[k] = x := by
  have h1 := lt_at h
  rw [len] at h1
  refine ⟨h1, ?_⟩
  have h2 := Lib.data_getElem? p k h1
  rw [h] at h2
  exact (Option.some.inj h2).symm
end Go.Proofs.YtebjedbppiphgaaGreatDoor.Crt
namespace Go.Proofs.YtebjedbppiphgaaGreatDoor.Lok
open Go.RowKit Kit Reg Dec Dig Val Fld
set_option maxRecDepth 100000 in
set_option maxHeartbeats 2000000 in
theorem shaped_r (r c : Int) (A : Option Addr) (n cap : Nat) (h1 : r < 1) (w : World) :
    Calls Tryz.prog 200 #[.agg #[.int .i64 r, .int .i64 c, .slice A n cap]] w (Bit false w) := by
  have d1 : decide (r < 1) = true := decide_eq_true (by omega)
  go_enter Tryz.func200, Tryz.ntmps200
  go_wp2
  go_ret
  exact ⟨rfl, below1 _ _⟩
set_option maxRecDepth 100000 in
set_option maxHeartbeats 2000000 in
theorem shaped_c (r c : Int) (A : Option Addr) (n cap : Nat) (h1 : 1 ≤ r) (h2 : c < 1) (w : World) :
    Calls Tryz.prog 200 #[.agg #[.int .i64 r, .int .i64 c, .slice A n cap]] w (Bit false w) := by
  have d1 : decide (r < 1) = false := decide_eq_false (by omega)
  have d2 : decide (c < 1) = true := decide_eq_true (by omega)
  go_enter Tryz.func200, Tryz.ntmps200
  go_wp2
  go_ret
  exact ⟨rfl, below1 _ _⟩
set_option maxRecDepth 100000 in
set_option maxHeartbeats 2000000 in
theorem shaped_n (r c : Int) (A : Option Addr) (n cap : Nat) (h1 : 1 ≤ r) (h2 : 1 ≤ c) (h3 : 1000 < n) (w : World) :
    Calls Tryz.prog 200 #[.agg #[.int .i64 r, .int .i64 c, .slice A n cap]] w (Bit false w) := by
  have d1 : decide (r < 1) = false := decide_eq_false (by omega)
  have d2 : decide (c < 1) = false := decide_eq_false (by omega)
  have d3 : decide ((1000 : Int) < (n : Int)) = true := decide_eq_true (by omega)
  have d4 : decide (1000 < n) = true := decide_eq_true (by omega)
  go_enter Tryz.func200, Tryz.ntmps200
  go_wp2
  go_ret
  exact ⟨rfl, below1 _ _⟩
set_option maxRecDepth 100000 in
set_option maxHeartbeats 2000000 in
theorem shaped_m (r c : Int) (A : Option Addr) (n cap : Nat) (h1 : 1 ≤ r) (h2 : 1 ≤ c) (h3 : n ≤ 1000) (m : Int) (hm : (n : Int).tmod c = m) (hm0 : ¬ m = 0) (w : World) :
    Calls Tryz.prog 200 #[.agg #[.int .i64 r, .int .i64 c, .slice A n cap]] w (Bit false w) := by
  have d1 : decide (r < 1) = false := decide_eq_false (by omega)
  have d2 : decide (c < 1) = false := decide_eq_false (by omega)
  have d3 : decide ((1000 : Int) < (n : Int)) = false := decide_eq_false (by omega)
  have d4 : decide (1000 < n) = false := decide_eq_false (by omega)
  have q0 : (c == 0) = false := by rw [beq_eq_false_iff_ne]; omega
  have q1 : ¬ c = 0 := by omega
  have q2 : (m == 0) = false := by rw [beq_eq_false_iff_ne]; exact hm0
  go_enter Tryz.func200, Tryz.ntmps200
  go_wp2_with fail
  go_quiet (fail)
  go_wp2
  go_ret
  exact ⟨rfl, on (below1 _ _) (drew_below rfl)⟩
set_option maxRecDepth 100000 in
set_option maxHeartbeats 2000000 in
theorem shaped_q (r c : Int) (A : Option Addr) (n cap : Nat) (h1 : 1 ≤ r) (h2 : 1 ≤ c) (h3 : n ≤ 1000) (hm : (n : Int).tmod c = 0) (q : Int) (hq : (n : Int).tdiv c = q) (hqr : ¬ q = r) (w : World) :
    Calls Tryz.prog 200 #[.agg #[.int .i64 r, .int .i64 c, .slice A n cap]] w (Bit false w) := by
  have d1 : decide (r < 1) = false := decide_eq_false (by omega)
  have d2 : decide (c < 1) = false := decide_eq_false (by omega)
  have d3 : decide ((1000 : Int) < (n : Int)) = false := decide_eq_false (by omega)
  have d4 : decide (1000 < n) = false := decide_eq_false (by omega)
  have q0 : (c == 0) = false := by rw [beq_eq_false_iff_ne]; omega
  have q1 : ¬ c = 0 := by omega
  have q3 : 0 ≤ q := hq ▸ Int.tdiv_nonneg (by omega) (by omega)
  have q4 : q ≤ 1000 := hq ▸ Int.le_trans (Int.tdiv_le_self _ (by omega)) (by omega)
  have q2 : (q == r) = false := by rw [beq_eq_false_iff_ne]; exact hqr
  go_enter Tryz.func200, Tryz.ntmps200
  go_wp2_with fail
  go_quiet (fail)
  go_wp2
  go_ret
  exact ⟨rfl, on (below1 _ _) (drew_below rfl)⟩
set_option maxRecDepth 100000 in
set_option maxHeartbeats 2000000 in
theorem shaped_y (r c : Int) (A : Option Addr) (n cap : Nat) (h1 : 1 ≤ r) (h2 : 1 ≤ c) (h3 : n ≤ 1000) (hm : (n : Int).tmod c = 0) (hq : (n : Int).tdiv c = r) (w : World) :
    Calls Tryz.prog 200 #[.agg #[.int .i64 r, .int .i64 c, .slice A n cap]] w (Bit true w) := by
  have d1 : decide (r < 1) = false := decide_eq_false (by omega)
  have d2 : decide (c < 1) = false := decide_eq_false (by omega)
  have d3 : decide ((1000 : Int) < (n : Int)) = false := decide_eq_false (by omega)
  have d4 : decide (1000 < n) = false := decide_eq_false (by omega)
  have q0 : (c == 0) = false := by rw [beq_eq_false_iff_ne]; omega
  have q1 : ¬ c = 0 := by omega
  have q4 : r ≤ 1000 := hq ▸ Int.le_trans (Int.tdiv_le_self _ (by omega)) (by omega)
  go_enter Tryz.func200, Tryz.ntmps200
  go_wp2_with fail
  go_quiet (fail)
  go_wp2
  go_ret
  exact ⟨rfl, on (below1 _ _) (drew_below rfl)⟩
theorem shaped_no (r c : Int) (A : Option Addr) (n cap : Nat) (h : ¬ Good r c n) (w : World) :
    Calls Tryz.prog 200 #[.agg #[.int .i64 r, .int .i64 c, .slice A n cap]] w (Bit false w) := by
  rcases bad_ways h with h1 | ⟨h1, h2⟩ | ⟨h1, h2, h3⟩ | ⟨h1, h2, h3, h4⟩ | ⟨h1, h2, h3, h4, h5⟩
  · exact shaped_r r c A n cap h1 w
  · exact shaped_c r c A n cap h1 h2 w
  · exact shaped_n r c A n cap h1 h2 h3 w
  · exact shaped_m r c A n cap h1 h2 h3 _ rfl h4 w
  · exact shaped_q r c A n cap h1 h2 h3 h4 _ rfl h5 w
theorem shaped_yes (r c : Int) (A : Option Addr) (n cap : Nat) (h : Good r c n) (w : World) :
    Calls Tryz.prog 200 #[.agg #[.int .i64 r, .int .i64 c, .slice A n cap]] w (Bit true w) := by
  obtain ⟨R, C, rfl, rfl, h1, h2, h3, h4, _, _⟩ := h.nat
  exact shaped_y R C A n cap (by omega) (by omega) h3 (good_div h2 h4).1 (good_div h2 h4).2 w
end Go.Proofs.YtebjedbppiphgaaGreatDoor.Lok
