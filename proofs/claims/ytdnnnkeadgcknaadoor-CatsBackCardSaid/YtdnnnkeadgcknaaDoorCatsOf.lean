/- What Same, Of and the reference's Of answer: for any slices of numbers, nil ones too. -/
import Derived.Test.YtdnnnkeadgcknaaDoorCatsList
import Derived.Deep.QuietTactic
import Derived.BigQuiet
import Derived.IntWalk
namespace Go.Proofs.YtdnnnkeadgcknaaDoor.Cats
open Go.RowKit

theorem take_eq_succ {xs ys : List Int} {k : Nat} (hx : k < xs.length) (hy : k < ys.length) (h : xs.take k = ys.take k) (he : xs.getD k 0 = ys.getD k 0) : xs.take (k + 1) = ys.take (k + 1) := by
  rw [List.take_succ_eq_append_getElem hx, List.take_succ_eq_append_getElem hy, h]
  congr 2
  simpa [hx, hy] using he
theorem ne_of_at {xs ys : List Int} {k : Nat} (he : ¬ xs.getD k 0 = ys.getD k 0) : decide (xs = ys) = false := by
  rw [decide_eq_false_iff_not]
  rintro rfl
  exact he rfl
theorem eq_of_take {xs ys : List Int} (hl : xs.length = ys.length) (h : xs.take xs.length = ys.take xs.length) : decide (xs = ys) = true := by
  rw [decide_eq_true_eq]
  rw [List.take_length, hl, List.take_length] at h
  exact h
def TakeEq (xs ys : List Int) (k : Nat) : Prop := xs.take k = ys.take k
def Drawn (w wr : World) : Prop := ∃ q, wr = w.drewN q

set_option maxHeartbeats 1000000 in
theorem same_c (A B : Option Addr) (n m c d : Nat) (xs ys : List Int) (w : World) (hx : Ints w A n xs) (hy : Ints w B m ys) :
    Calls Tryd.prog 10 #[.slice A n c, .slice B m d] w fun e w' => e = .returned (.bool (decide (xs = ys))) ∧ Drawn w w' := by
  by_cases hnm : n = m
  · subst hnm
    have hn := hx.2.1
    unfold maxLen at hn
    go_enter Tryd.func10, Tryd.ntmps10
    go_wp2
    go_loopw [5] (fun i wr => ∃ k : Nat, k ≤ n ∧ i = .int .i64 k ∧ TakeEq xs ys k ∧ Drawn w wr) (fun i _ => n - (intOf i).toNat)
    case atStart => exact ⟨0, Nat.zero_le _, rfl, by simp [TakeEq], 0, rfl⟩
    case round =>
      obtain ⟨k, hk, rfl, ht, q, rfl⟩ := hrel
      by_cases hlt : k < n
      · obtain ⟨b, off, rfl, hc⟩ := hx.at_ hlt
        obtain ⟨b2, off2, rfl, hc2⟩ := hy.at_ hlt
        have hc' : (w.drewN q).cell? ⟨b, off + k, none⟩ = some (.int .i64 (xs.getD k 0)) := hc
        have hc2' : (w.drewN q).cell? ⟨b2, off2 + k, none⟩ = some (.int .i64 (ys.getD k 0)) := hc2
        by_cases he : xs.getD k 0 = ys.getD k 0
        · have hT := take_eq_succ (by rw [hx.1]; exact hlt) (by rw [hy.1]; exact hlt) ht he
          generalize xs.getD k 0 = x at *
          generalize ys.getD k 0 = y at *
          subst he
          go_wp2
          go_quiet (fail)
          go_wp2
          go_roundw
          case rel => exact ⟨k + 1, by omega, by go_num, hT, _, rfl⟩
          case measure => simp [intOf]; omega
        · have hN := Lib.hid (ne_of_at he)
          generalize xs.getD k 0 = x at *
          generalize ys.getD k 0 = y at *
          have he1 : (x == y) = false := by simpa using he
          have he2 : (x != y) = true := by simpa using he
          clear he
          go_wp2
          go_quiet (fail)
          go_wp2
          go_ret
          exact ⟨ret_bool hN.out.symm, _, World.drewN_drewN _ _ _⟩
      · obtain rfl : k = n := by omega
        have hT : decide (xs = ys) = true := eq_of_take (by rw [hx.1, hy.1]) (by rw [hx.1]; exact ht)
        have HT := Lib.hid hT
        clear hT
        go_wp2
        go_ret
        exact ⟨ret_bool HT.out.symm, _, rfl⟩
  · have hN : decide (xs = ys) = false := by
      rw [decide_eq_false_iff_not]
      rintro rfl
      exact hnm (hx.1.symm.trans hy.1)
    have HN := Lib.hid hN
    clear hN
    have he1 : ((n : Int) == (m : Int)) = false := by rw [cast_beq]; simpa using hnm
    have he2 : ((n : Int) != (m : Int)) = true := by simp [bne, he1]
    go_enter Tryd.func10, Tryd.ntmps10
    go_wp2
    go_ret
    exact ⟨ret_bool HN.out.symm, 0, rfl⟩

/-- the set of numbers, as both sides reckon it -/
def ofFrom (s : Nat) : List Int → Nat × Bool
  | [] => (s, true)
  | c :: r => if mayB c then ofFrom (withN s c) r else (0, false)
theorem drop_at {xs : List Int} {k : Nat} (hk : k < xs.length) : xs.drop k = xs.getD k 0 :: xs.drop (k + 1) := by
  rw [List.drop_eq_getElem_cons hk]
  simp [hk]
def OfAt (xs : List Int) (k s : Nat) : Prop := ofFrom 0 xs = ofFrom s (xs.drop k) ∧ U s
theorem OfAt.zero (xs : List Int) : OfAt xs 0 0 := ⟨rfl, U_zero⟩
theorem OfAt.next {xs : List Int} {k s : Nat} (h : OfAt xs k s) (hk : k < xs.length) (hm : mayB (xs.getD k 0) = true) : OfAt xs (k + 1) (withN s (xs.getD k 0)) := by
  refine ⟨?_, U_with h.2⟩
  rw [h.1, drop_at hk]
  simp only [ofFrom, hm, if_true]
theorem OfAt.bad {xs : List Int} {k s : Nat} (h : OfAt xs k s) (hk : k < xs.length) (hm : mayB (xs.getD k 0) = false) : ofFrom 0 xs = (0, false) := by
  rw [h.1, drop_at hk]
  simp only [ofFrom, hm]
  rfl
theorem OfAt.done {xs : List Int} {s : Nat} (h : OfAt xs xs.length s) : ofFrom 0 xs = (s, true) := by
  rw [h.1, List.drop_length]
  rfl
def SetIs (xs : List Int) (S : Nat) (b : Bool) : Prop := ofFrom 0 xs = (S, b)

set_option maxHeartbeats 1000000 in
theorem of_c (A : Option Addr) (n c : Nat) (xs : List Int) (S : Nat) (b : Bool) (w : World) (hx : Ints w A n xs) (hS : SetIs xs S b) :
    Calls Tryd.prog 20 #[.slice A n c] w fun e w' => e = .returned (.tuple #[.int .u64 S, .bool b]) ∧ w = w' := by
  have hn := hx.2.1
  unfold maxLen at hn
  go_enter Tryd.func20, Tryd.ntmps20
  go_wp2
  go_loop [4, 11] (fun s i => ∃ k q : Nat, k ≤ n ∧ i = .int .i64 k ∧ OfAt xs k q ∧ s = .int .u64 q) (fun _ i => n - (intOf i).toNat)
  case atStart => exact ⟨0, 0, Nat.zero_le _, rfl, OfAt.zero xs, rfl⟩
  case round =>
    obtain ⟨k, q, hk, rfl, hq, rfl⟩ := hrel
    by_cases hlt : k < n
    · obtain ⟨bk, off, rfl, hc⟩ := hx.at_ hlt
      have hkl : k < xs.length := by rw [hx.1]; exact hlt
      have hU := hq.2
      cases hm : mayB (xs.getD k 0)
      · have hbad := hq.bad hkl hm
        have HB : Hid ((S, b) = (0, false)) := Lib.hid (hS.symm.trans hbad)
        generalize xs.getD k 0 = x at *
        have HM := Lib.hid hm
        clear hm hkl hbad
        go_wp2_with (go_at_call 7; refine (with_out _ x HM.out _).mono ?_; rintro e w' ⟨rfl, rfl⟩)
        go_ret2
        exact ⟨by have h := HB.out; simp only [Prod.mk.injEq] at h; rw [h.1, h.2]; rfl, rfl⟩
      · have h3 := hq.next hkl hm
        generalize xs.getD k 0 = x at *
        have HM := Lib.hid hm
        clear hm hkl
        have hw := with_c q x hU w
        rw [HM.out] at hw
        have HW := Lib.hid hw
        clear hw
        generalize withN q x = q' at *
        go_wp2_with (go_at_call 7; refine (HW.out).mono ?_; rintro e w' ⟨rfl, rfl⟩)
        go_round
        case rel => exact ⟨k + 1, q', by omega, by go_num, h3, rfl⟩
        case measure => simp [intOf]; omega
    · have e : k = xs.length := by rw [hx.1]; omega
      have hd : OfAt xs xs.length q := by rw [← e]; exact hq
      have HB : Hid ((S, b) = (q, true)) := Lib.hid (hS.symm.trans hd.done)
      clear hd e
      obtain rfl : k = n := by omega
      go_wp2
      go_ret2
      exact ⟨by have h := HB.out; simp only [Prod.mk.injEq] at h; rw [h.1, h.2]; rfl, rfl⟩

theorem withN_nat (q k : Nat) (hk : k < 64) : withN q (k : Int) = q ||| 2 ^ k := by
  unfold withN
  rw [mayB_yes (by omega) (by omega)]
  rfl
set_option maxHeartbeats 1000000 in
theorem rof_c (A : Option Addr) (n c : Nat) (xs : List Int) (S : Nat) (b : Bool) (w : World) (hx : Ints w A n xs) (hS : SetIs xs S b) :
    Calls Tryd.prog 21 #[.slice A n c] w fun e w' => e = .returned (.agg #[.int .u64 S, .bool b]) ∧ Below w.heap.size w w' := by
  have hn := hx.2.1
  unfold maxLen at hn
  go_enter Tryd.func21, Tryd.ntmps21
  go_wp2
  go_loop [3, 4] (fun s i => ∃ k q : Nat, k ≤ n ∧ i = .int .i64 k ∧ OfAt xs k q ∧ s = .int .u64 q) (fun _ i => n - (intOf i).toNat)
  case atStart => exact ⟨0, 0, Nat.zero_le _, rfl, OfAt.zero xs, rfl⟩
  case round =>
    obtain ⟨k, q, hk, rfl, hq, rfl⟩ := hrel
    by_cases hlt : k < n
    · obtain ⟨bk, off, rfl, hb, hc0⟩ := hx.2.2 (by omega)
      have hc : ∀ o, (w.alloc o).cell? ⟨bk, off + k, none⟩ = some (.int .i64 (xs.getD k 0)) := fun o => (World.cell?_alloc_lt w o ⟨bk, off + k, none⟩ hb).trans (hc0 k hlt)
      clear hc0
      have hkl : k < xs.length := by rw [hx.1]; exact hlt
      have hU := hq.2
      cases hm : mayB (xs.getD k 0)
      · have hbad := hq.bad hkl hm
        have HB : Hid ((S, b) = (0, false)) := Lib.hid (hS.symm.trans hbad)
        generalize xs.getD k 0 = x at *
        have h2 := not_mayB hm
        clear hm hkl hbad
        rcases h2 with h2 | h2
        · go_wp2
          refine bodyPost_ret (v := .agg #[.int .u64 0, .bool false]) (by simp [results, Tryd.results21, go_sem]) rfl ⟨?_, (Below.refl _ _).alloc (Nat.le_refl _) _⟩
          have h := HB.out; simp only [Prod.mk.injEq] at h; rw [h.1, h.2]; rfl
        · go_wp2
          refine bodyPost_ret (v := .agg #[.int .u64 0, .bool false]) (by simp [results, Tryd.results21, go_sem]) rfl ⟨?_, (Below.refl _ _).alloc (Nat.le_refl _) _⟩
          have h := HB.out; simp only [Prod.mk.injEq] at h; rw [h.1, h.2]; rfl
      · have h3 := hq.next hkl hm
        obtain ⟨x, hxk⟩ : ∃ x : Nat, xs.getD k 0 = (x : Int) := Int.eq_ofNat_of_zero_le (of_mayB hm).1
        have hx64 : x < 64 := by have := (of_mayB hm).2; omega
        rw [hxk] at h3
        rw [withN_nat q x hx64] at h3
        simp only [hxk] at hc
        clear hm hkl hxk
        have HU := Lib.hid hU
        clear hU
        go_wp2_with (first
          | (go_at_call 16; refine (one_c x hx64 _).mono ?_; rintro e w' ⟨rfl, rfl⟩)
          | (go_at_call 17; refine (join_c q (2 ^ x) HU.out (U_pow hx64) _).mono ?_; rintro e w' ⟨rfl, rfl⟩))
        go_round
        case rel => exact ⟨k + 1, q ||| 2 ^ x, by omega, by go_num, h3, rfl⟩
        case measure => simp [intOf]; omega
    · have e : k = xs.length := by rw [hx.1]; omega
      have hd : OfAt xs xs.length q := by rw [← e]; exact hq
      have HB : Hid ((S, b) = (q, true)) := Lib.hid (hS.symm.trans hd.done)
      clear hd e
      obtain rfl : k = n := by omega
      go_wp2
      refine bodyPost_ret (v := .agg #[.int .u64 q, .bool true]) (by simp [results, Tryd.results21, go_sem]) rfl ⟨?_, (Below.refl _ _).alloc (Nat.le_refl _) _⟩
      have h := HB.out; simp only [Prod.mk.injEq] at h; rw [h.1, h.2]
end Go.Proofs.YtdnnnkeadgcknaaDoor.Cats
