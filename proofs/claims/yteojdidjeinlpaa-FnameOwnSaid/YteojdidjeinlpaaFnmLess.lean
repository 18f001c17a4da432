/- What the reference's Less answers, and what a byte of a text is. -/
import Derived.Test.YteojdidjeinlpaaFnmMath
import Derived.BigQuiet
import Derived.Lib.IndexBytes
namespace Go.Proofs.Yteojdidjeinlpaa.Fnm
open Go.RowKit Kit Reg

theorem len (t : ByteArray) : t.data.toList.length = t.size := (Lib.size_eq t).symm
theorem bytes_eq {a b : ByteArray} (h : a.data.toList = b.data.toList) : a = b := ByteArray.ext (Array.toList_inj.1 h)
theorem lt_at {α : Type} {l : List α} {k : Nat} {x : α} (h : l[k]? = some x) : k < l.length := (List.getElem?_eq_some_iff.1 h).1
theorem like_at (p : ByteArray) (k : Nat) (x : UInt8) (h : p.data.toList[k]? = some x) : ∃ hk : k < p.size, p[k] = x := by
  have h1 := lt_at h
  rw [len] at h1
  refine ⟨h1, ?_⟩
  have h2 := Lib.data_getElem? p k h1
  rw [h] at h2
  exact (Option.some.inj h2).symm
theorem drop_at {α : Type} {l : List α} {k : Nat} {x : α} (h : l[k]? = some x) : l.drop k = x :: l.drop (k + 1) := by
  obtain ⟨hk, rfl⟩ := List.getElem?_eq_some_iff.1 h
  rw [List.drop_eq_getElem_cons hk]
theorem less_cons_eq (x : UInt8) (a b : List UInt8) : lessL (x :: a) (x :: b) = lessL a b := by
  have h : ¬ x < x := UInt8.lt_irrefl x
  simp [lessL, Lib.compareBytes, h]
theorem less_cons_ne {x y : UInt8} (h : ¬ x = y) (a b : List UInt8) : lessL (x :: a) (y :: b) = decide (x < y) := by
  by_cases h1 : x < y
  · simp [lessL, Lib.compareBytes, h1]
  · have h2 : y < x := UInt8.lt_of_le_of_ne (UInt8.not_lt.1 h1) (Ne.symm h)
    simp [lessL, Lib.compareBytes, h1, h2]
theorem less_short {a b : List UInt8} (h : a = [] ∨ b = []) : lessL a b = decide (a.length < b.length) := by
  rcases a with _ | ⟨x, a⟩ <;> rcases b with _ | ⟨y, b⟩ <;> simp_all [lessL, Lib.compareBytes]
theorem less_step {S T : List UInt8} {k : Nat} {x y : UInt8} (hx : S[k]? = some x) (hy : T[k]? = some y) (h : x = y) : lessL (S.drop k) (T.drop k) = lessL (S.drop (k + 1)) (T.drop (k + 1)) := by
  rw [drop_at hx, drop_at hy, h, less_cons_eq]
theorem less_here {S T : List UInt8} {k : Nat} {x y : UInt8} (hx : S[k]? = some x) (hy : T[k]? = some y) (h : ¬ x = y) : lessL (S.drop k) (T.drop k) = decide (x < y) := by
  rw [drop_at hx, drop_at hy, less_cons_ne h]
theorem less_end {S T : List UInt8} {k : Nat} (hk1 : k ≤ S.length) (hk2 : k ≤ T.length) (h : S.length ≤ k ∨ T.length ≤ k) : lessL (S.drop k) (T.drop k) = decide (S.length < T.length) := by
  rw [less_short (by rcases h with h | h; exact .inl (List.drop_of_length_le h); exact .inr (List.drop_of_length_le h)), List.length_drop, List.length_drop]
  rw [decide_eq_decide]
  omega
set_option maxRecDepth 100000 in
set_option maxHeartbeats 2000000 in
theorem rless_c (s t : ByteArray) (hs : s.size ≤ 1000) (ht : t.size ≤ 1000) (r : Bool) (hr : lessL s.data.toList t.data.toList = r) (w : World) :
    Calls Try.prog 15 #[.string s, .string t] w fun e w' => e = .returned (.bool r) ∧ Below w.heap.size w w' := by
  have HR := Lib.hid hr
  have HSA := Lib.hid (fun k x h => like_at s k x h)
  have HTA := Lib.hid (fun k x h => like_at t k x h)
  have HLS := Lib.hid (len s)
  have HLT := Lib.hid (len t)
  have H0 : Hid (lessL (s.data.toList.drop 0) (t.data.toList.drop 0) = r) := Lib.hid (by simpa using hr)
  clear hr
  go_enter Try.func15, Try.ntmps15
  go_wp2
  go_loopw [5] (fun i wr => ∃ k : Nat, k ≤ s.size ∧ k ≤ t.size ∧ i = .int .i64 k ∧ Hid (lessL (s.data.toList.drop k) (t.data.toList.drop k) = r) ∧ Below w.heap.size w wr) (fun i _ => s.size - (intOf i).toNat)
  case atStart => exact ⟨0, by omega, by omega, rfl, H0, Below.refl _ _⟩
  case round =>
    clear H0
    obtain ⟨k, hk1, hk2, rfl, hl, hb⟩ := hrel
    by_cases h1 : k < s.size
    · have d1 : decide (k < s.size) = true := decide_eq_true h1
      obtain ⟨x, hx⟩ : ∃ x, s.data.toList[k]? = some x := ⟨_, List.getElem?_eq_getElem (by rw [HLS.out]; exact h1)⟩
      obtain ⟨hxs, hxx⟩ := HSA.out k x hx
      by_cases h2 : k < t.size
      · have d2 : decide (k < t.size) = true := decide_eq_true h2
        obtain ⟨y, hy⟩ : ∃ y, t.data.toList[k]? = some y := ⟨_, List.getElem?_eq_getElem (by rw [HLT.out]; exact h2)⟩
        obtain ⟨hyt, hyy⟩ := HTA.out k y hy
        by_cases hxy : x = y
        · have HN : Hid (lessL (s.data.toList.drop (k + 1)) (t.data.toList.drop (k + 1)) = r) := Lib.hid ((less_step hx hy hxy).symm.trans hl.out)
          have q1 : (x.toNat == y.toNat) = true := by rw [hxy]; simp
          have q2 : ((x.toNat : Int) == (y.toNat : Int)) = true := by rw [hxy]; simp
          have q3 : ((x.toNat : Int) != (y.toNat : Int)) = false := by rw [hxy]; simp
          have q4 : (x.toNat != y.toNat) = false := by rw [hxy]; simp
          clear hxy hx hy hl HR HSA HTA HLS HLT
          go_wp2_with fail
          go_quiet (fail)
          go_wp2
          go_roundw
          case rel => exact ⟨k + 1, by omega, by omega, by go_num, HN, on hb (drew_below rfl)⟩
          case measure => simp [intOf]; omega
        · have hne : ¬ x.toNat = y.toNat := fun e => hxy (UInt8.toNat_inj.1 e)
          have q1 : (x.toNat == y.toNat) = false := by rw [beq_eq_false_iff_ne]; exact hne
          have q2 : ((x.toNat : Int) == (y.toNat : Int)) = false := by rw [beq_eq_false_iff_ne]; omega
          have q3 : ((x.toNat : Int) != (y.toNat : Int)) = true := by rw [bne_iff_ne]; omega
          have q4 : (x.toNat != y.toNat) = true := by rw [bne_iff_ne]; exact hne
          have HN := Lib.hid ((less_here hx hy hxy).symm.trans hl.out)
          have e1 : decide (x.toNat < y.toNat) = r := by rw [← HN.out, decide_eq_decide, UInt8.lt_iff_toNat_lt]
          have e2 : decide ((x.toNat : Int) < (y.toNat : Int)) = r := by rw [← e1, decide_eq_decide]; omega
          clear hxy hne hx hy hl HR HSA HTA HLS HLT HN
          cases r
          all_goals
            go_wp2_with fail
            go_quiet (fail)
            go_wp2_with fail
            go_quiet (fail)
            go_wp2
            go_ret
            exact ⟨by first | rfl | simp_all, on (on hb (drew_below rfl)) (drew_below rfl)⟩
      · have d2 : decide (k < t.size) = false := decide_eq_false h2
        have HN := Lib.hid ((less_end (by rw [HLS.out]; omega) (by rw [HLT.out]; omega) (.inr (by rw [HLT.out]; omega))).symm.trans hl.out)
        rw [HLS.out, HLT.out] at HN
        have e1 := HN.out
        clear hl HR HSA HTA HLS HLT HN hxx hx
        cases r
        all_goals
          go_wp2
          go_ret
          exact ⟨by first | rfl | simp_all, hb⟩
    · have d1 : decide (k < s.size) = false := decide_eq_false h1
      have HN := Lib.hid ((less_end (by rw [HLS.out]; omega) (by rw [HLT.out]; omega) (.inl (by rw [HLS.out]; omega))).symm.trans hl.out)
      rw [HLS.out, HLT.out] at HN
      have e1 := HN.out
      clear hl HR HSA HTA HLS HLT HN
      cases r
      all_goals
        go_wp2
        go_ret
        exact ⟨by first | rfl | simp_all, hb⟩
end Go.Proofs.Yteojdidjeinlpaa.Fnm
