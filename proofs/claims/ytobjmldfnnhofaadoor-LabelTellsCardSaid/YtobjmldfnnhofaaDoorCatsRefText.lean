/- What the reference's Digits, Text and Parse answer: for every category, every set and every text of at most 300 bytes. -/
import Derived.Test.YtobjmldfnnhofaaDoorCatsTextGo
namespace Go.Proofs.YtobjmldfnnhofaaDoor.Cats
open Go.RowKit

/-- a slice of one byte, as a string -/
theorem conv_one (w : World) (g : Nat) (hg : g = w.heap.size) (x : Int) :
    (convert 66 9 (.slice (some ⟨g, 0, none⟩) 1 1)).run Tryd.prog (w.alloc (.cells #[.int .u8 x] 5)) = .ok (.string ⟨#[UInt8.ofNat x.toNat]⟩) (w.alloc (.cells #[.int .u8 x] 5)) := by
  subst hg
  rw [run_convert_bytes_string _ _ _ _ _ _ _ Tryd.underlying66 Tryd.underlying5 Tryd.underlying9]
  refine (run_bytesToString _ _ 1 1 [x] ?_).trans ?_
  · have hc : (w.alloc (.cells #[.int .u8 x] 5)).cell? ⟨w.heap.size, 0, none⟩ = some (.int .u8 x) := by
      rw [World.cell?_alloc_at _ _ _ _ rfl]; rfl
    simp [loadCells, loadCellsFrom, hc, Addr.add]
  · rfl
theorem ret_str {a b : List UInt8} (h : a = b) : Ending.returned (.string ⟨a.toArray⟩) = .returned (.string ⟨b.toArray⟩) := by rw [h]
set_option maxRecDepth 100000 in
set_option maxHeartbeats 1000000 in
theorem digits_lo (c : Nat) (hc : c < 10) (w : World) : Calls Tryd.prog 32 #[.int .i64 c] w fun e w' => e = .returned (.string ⟨(digs c).toArray⟩) ∧ Below w.heap.size w w' := by
  have h1 := conv_one w w.heap.size rfl (48 + (c : Int) % 10)
  go_enter Tryd.func32, Tryd.ntmps32
  go_wp2
  refine wp_loop_rounds 1 ?_
  rw [rounds_succ]
  go_wp2
  go_ret
  refine ⟨ret_str ?_, (Below.refl _ _).alloc (Nat.le_refl _) _⟩
  unfold digs
  rw [if_pos hc, Nat.mod_eq_of_lt hc]
theorem digs_hi : ∀ c, c < 64 → 10 ≤ c → [48 + UInt8.ofNat (c / 10 % 10)] ++ [48 + UInt8.ofNat (c % 10)] = digs c := by decide +kernel
set_option maxRecDepth 100000 in
set_option maxHeartbeats 1000000 in
theorem digits_hi (c : Nat) (h10 : 10 ≤ c) (hc : c < 64) (w : World) : Calls Tryd.prog 32 #[.int .i64 c] w fun e w' => e = .returned (.string ⟨(digs c).toArray⟩) ∧ Below w.heap.size w w' := by
  have h1 := conv_one w w.heap.size rfl (48 + (c : Int) % 10)
  have h2 := conv_one (w.alloc (.cells #[.int .u8 (48 + (c : Int) % 10)] 5)) (w.heap.size + 1) (by simp) (48 + (c : Int) / 10 % 10)
  go_enter Tryd.func32, Tryd.ntmps32
  go_wp2
  refine wp_loop_rounds 2 ?_
  rw [rounds_succ]
  go_wp2
  rw [rounds_succ]
  go_wp2
  go_ret
  refine ⟨ret_str ?_, ((Below.refl _ _).alloc (Nat.le_refl _) _).alloc (by simp) _⟩
  exact digs_hi c hc h10
theorem digits_c (c : Nat) (hc : c < 64) (w : World) : Calls Tryd.prog 32 #[.int .i64 c] w fun e w' => e = .returned (.string ⟨(digs c).toArray⟩) ∧ Below w.heap.size w w' := by
  by_cases h : c < 10
  · exact digits_lo c h w
  · exact digits_hi c (by omega) hc w

theorem joinC_snoc (ws : List (List UInt8)) (w : List UInt8) (h : ws ≠ []) : joinC (ws ++ [w]) = joinC ws ++ 44 :: w := by
  induction ws with
  | nil => exact absurd rfl h
  | cons x r ih =>
    cases r with
    | nil => rw [List.cons_append, List.nil_append, joinC_cons, joinC_one, joinC_one]
    | cons y ys =>
      rw [List.cons_append, List.cons_append, joinC_cons, joinC_cons, ← List.cons_append, ih (by simp)]
      simp
/-- the text of the first k words -/
def PartIs (ws : List (List UInt8)) (k : Nat) (T : ByteArray) : Prop := T.data.toList = joinC (ws.take k) ∧ T.size ≤ 3 * k
theorem PartIs.first {ws : List (List UInt8)} {T T2 : ByteArray} {w : List UInt8} (h : PartIs ws 0 T) (hw : ws[0]? = some w) (hl : w.length ≤ 2) (h2 : T2.data.toList = T.data.toList ++ w) : PartIs ws 1 T2 := by
  obtain ⟨hk, rfl⟩ := List.getElem?_eq_some_iff.1 hw
  have e : T2.data.toList = ws[0] := by rw [h2, h.1, List.take_zero, joinC_nil, List.nil_append]
  refine ⟨?_, ?_⟩
  · rw [e, List.take_succ_eq_append_getElem hk, List.take_zero, List.nil_append, joinC_one]
  · rw [Lib.size_eq, e]; omega
theorem PartIs.first' {ws : List (List UInt8)} {T T2 : ByteArray} {k : Nat} {w : List UInt8} (h : PartIs ws k T) (hk : ¬ 0 < k) (hw : ws[k]? = some w) (hl : w.length ≤ 2) (h2 : T2.data.toList = T.data.toList ++ w) : PartIs ws (k + 1) T2 := by
  obtain rfl : k = 0 := by omega
  exact h.first hw hl h2
theorem PartIs.next {ws : List (List UInt8)} {T T2 : ByteArray} {k : Nat} {w : List UInt8} (h : PartIs ws k T) (hk0 : 0 < k) (hw : ws[k]? = some w) (hl : w.length ≤ 2) (h2 : T2.data.toList = (T.data.toList ++ [44]) ++ w) : PartIs ws (k + 1) T2 := by
  obtain ⟨hk, rfl⟩ := List.getElem?_eq_some_iff.1 hw
  have hs := h.2
  rw [Lib.size_eq] at hs
  refine ⟨?_, ?_⟩
  · rw [h2, h.1, List.take_succ_eq_append_getElem hk, joinC_snoc _ _ (by
      intro e
      have := congrArg List.length e
      simp only [List.length_take, List.length_nil] at this
      omega)]
    simp
  · rw [Lib.size_eq, h2]
    simp only [List.length_append, List.length_cons, List.length_nil]
    omega
theorem words_at (s : Nat) {k : Nat} (hk : k < (bitsTo s 64).length) : ∃ c : Nat, (intsOf (bitsTo s 64)).getD k 0 = (c : Int) ∧ c < 64 ∧ ((bitsTo s 64).map digs)[k]? = some (digs c) :=
  ⟨(bitsTo s 64)[k], by simp [intsOf, hk], ((rising_bits s).mem _ (List.getElem_mem hk)).2, by simp [hk]⟩

set_option maxRecDepth 100000 in
set_option maxHeartbeats 1000000 in
theorem rtext_core (s n : Nat) (xs : List Int) (ws : List (List UInt8)) (hn : n ≤ 64) (hwl : ws.length = n) (hat : Hid (∀ k, k < n → ∃ c : Nat, xs.getD k 0 = (c : Int) ∧ c < 64 ∧ ws[k]? = some (digs c)))
    (hrlist : Hid (∀ w, Calls Tryd.prog 45 #[.int .u64 s] w fun e w' => ∃ A cap, e = .returned (.slice A n cap) ∧ Ints w' A n xs ∧ Below w.heap.size w w')) (w : World) :
    Calls Tryd.prog 34 #[.int .u64 s] w fun e w' => e = .returned (.string ⟨(joinC ws).toArray⟩) ∧ Below w.heap.size w w' := by
  have HWL := Lib.hid hwl
  clear hwl
  go_enter Tryd.func34, Tryd.ntmps34
  go_wp2_with fail
  refine (hrlist.out _).mono ?_
  rintro e w1 ⟨A, cap, rfl, hx, hb⟩
  have h0 : PartIs ws 0 ⟨#[]⟩ := ⟨rfl, Nat.le_refl _⟩
  go_wp2
  go_loopw [3, 5] (fun o i wr => ∃ (k : Nat) (T : ByteArray), k ≤ n ∧ i = .int .i64 k ∧ o = .string T ∧ PartIs ws k T ∧ Ints wr A n xs ∧ Below w.heap.size w wr) (fun _ i _ => n - (intOf i).toNat)
  case atStart => exact ⟨0, _, Nat.zero_le _, rfl, rfl, h0, hx, hb⟩
  case round =>
    clear h0 hx hb
    obtain ⟨k, T, hk, rfl, rfl, hp, hx, hb⟩ := hrel
    by_cases hlt : k < n
    · obtain ⟨bk, off, rfl, hc⟩ := hx.at_ hlt
      obtain ⟨c, hxc, hc64, hwc⟩ := hat.out k hlt
      rw [hxc] at hc
      have HW := Lib.hid hwc
      clear hxc hwc
      have hsz := hp.2
      have hdl := digs_length c
      by_cases hk0 : 0 < k
      · go_wp2_with fail
        refine (digits_c c hc64 _).mono ?_
        rintro e w2 ⟨rfl, hb2⟩
        have hx2 := hx.keep hb2
        have hb3 := hb.trans (hb2.mono hb.size)
        clear hb2 hx hb hc
        go_wp2
        go_roundw
        case rel => exact ⟨k + 1, _, by omega, by go_num, rfl, hp.next hk0 HW.out (digs_length c) (by simp), hx2, hb3⟩
        case measure => simp [intOf]; omega
      · go_wp2_with fail
        refine (digits_c c hc64 _).mono ?_
        rintro e w2 ⟨rfl, hb2⟩
        have hx2 := hx.keep hb2
        have hb3 := hb.trans (hb2.mono hb.size)
        clear hb2 hx hb hc
        go_wp2
        go_roundw
        case rel => exact ⟨k + 1, _, by omega, by go_num, rfl, hp.first' hk0 HW.out (digs_length c) (by simp), hx2, hb3⟩
        case measure => simp [intOf]; omega
    · obtain rfl : k = n := by omega
      have hT := hp.1
      rw [List.take_of_length_le (by rw [HWL.out]; exact Nat.le_refl _)] at hT
      have HT := Lib.hid hT
      clear hT
      go_wp2
      go_ret
      exact ⟨by rw [← HT.out, Lib.mk_data]; rfl, hb⟩
theorem rtext_c (s : Nat) (hs : U s) (w : World) : Calls Tryd.prog 34 #[.int .u64 s] w fun e w' => e = .returned (.string ⟨(textL s).toArray⟩) ∧ Below w.heap.size w w' := by
  refine rtext_core s (bitsTo s 64).length (intsOf (bitsTo s 64)) ((bitsTo s 64).map digs) (bitsTo_le s 64) (by simp) (Lib.hid fun k hk => words_at s hk) (Lib.hid fun w => ?_) w
  refine (rlist_c s hs w).mono fun e w' ⟨v, he, hr⟩ => ?_
  obtain ⟨A, cap, hv, hi⟩ := hr.ints (Nat.le_refl _)
  exact ⟨A, cap, by rw [he, hv], hi, hr.2⟩
end Go.Proofs.YtobjmldfnnhofaaDoor.Cats
