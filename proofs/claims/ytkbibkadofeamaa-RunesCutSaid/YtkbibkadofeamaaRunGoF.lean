/- What the program's Find, First, Single answer (over the landed text of package runes): for every text of at most a million bytes. -/
import Derived.Test.YtkbibkadofeamaaRunGo
import Derived.Laws.Runes
namespace Go.Proofs.Ytkbibkadofeamaa.Run
open Go.RowKit Kit

/-- is a needle at the rune of a place? -/
def hitB (n l : List UInt8) (k : Nat) : Bool := preB (l.drop (offL l k)) n
/-- what a search has to answer -/
def FindIs (n l : List UInt8) : Option Nat → Prop
  | some k => (n = [] ∧ k = 0) ∨ (n ≠ [] ∧ k < (ps l).length ∧ hitB n l k = true ∧ ∀ j, j < k → hitB n l j = false)
  | none => n ≠ [] ∧ ∀ j, j < (ps l).length → hitB n l j = false
theorem FindIs.unique {n l : List UInt8} : ∀ {a b : Option Nat}, FindIs n l a → FindIs n l b → a = b
  | none, none, _, _ => rfl
  | none, some k, h1, h2 => by
    rcases h2 with ⟨h, _⟩ | ⟨_, h, h3, _⟩
    · exact absurd h h1.1
    · rw [h1.2 k h] at h3; cases h3
  | some k, none, h2, h1 => by
    rcases h2 with ⟨h, _⟩ | ⟨_, h, h3, _⟩
    · exact absurd h h1.1
    · rw [h1.2 k h] at h3; cases h3
  | some k, some j, h1, h2 => by
    rcases h1 with ⟨h, rfl⟩ | ⟨h, h3, h4, h5⟩
    · rcases h2 with ⟨_, rfl⟩ | ⟨h6, _⟩
      · rfl
      · exact absurd h h6
    · rcases h2 with ⟨h6, _⟩ | ⟨_, h6, h7, h8⟩
      · exact absurd h6 h
      · rcases Nat.lt_trichotomy k j with hlt | rfl | hlt
        · rw [h8 k hlt] at h4; cases h4
        · rfl
        · rw [h5 j hlt] at h7; cases h7
/-- a search's answer as two results -/
def foundV : Option Nat → Value
  | some k => .tuple #[.int .i64 k, .bool true]
  | none => .tuple #[.int .i64 0, .bool false]

set_option maxRecDepth 100000 in
set_option maxHeartbeats 2000000 in
theorem find_c (t s : ByteArray) (n l : List UInt8) (ht : t.data.toList = n) (hs : s.data.toList = l) (h8 : t.size ≤ 1000000) (h9 : s.size ≤ 1000000) (w : World) :
    Calls Try.prog 15 #[.string t, .string s] w fun e w' => ∃ r, e = .returned (foundV r) ∧ FindIs n l r ∧ Below w.heap.size w w' := by
  have hl := len_of hs
  have hlen := ps_len l
  have h0 := off_zero l
  by_cases hn : n = []
  · have e0 : (t.toList == []) = true := by rw [Lib.toList_data, ht, hn]; rfl
    clear hs ht
    go_enter Try.func15, Try.ntmps15
    go_wp2
    exact bodyPost_ret (v := .tuple #[.int .i64 0, .bool true]) (by simp [results, Try.results15, go_sem]) rfl ⟨some 0, rfl, .inl ⟨hn, rfl⟩, Below.refl _ _⟩
  · have e0 : (t.toList == []) = false := by rw [Lib.toList_data, ht]; simpa using hn
    have HN := Lib.hid (fun w k p hk h => next_in Try.prog w s l hs k p hk h)
    have HE : Hid (∀ k, ¬ offL l k < s.size → (ps l).length ≤ k) := Lib.hid fun k hk => by
      have := off_lt l k
      omega
    have HP : Hid (∀ k p, offL l k = p → ∀ b, hitB n l k = b → ∀ w, Calls Try.prog 26 #[.string (s.extract p s.size), .string t] w fun e w' => e = .returned (.bool b) ∧ w = w') := Lib.hid fun k p hk b hb w => by
      refine hasPrefix_c _ _ b ?_ ?_ h8 w
      · rw [ext_drop, hs, ht, ← hk]; exact hb
      · rw [ByteArray.size_extract]; omega
    clear hs ht
    go_enter Try.func15, Try.ntmps15
    go_wp2
    go_loopw [6, 7] (fun m _ w' => ∃ (k p : Nat), k ≤ s.size ∧ Hid (offL l k = p) ∧ w' = w.iter s p ∧ m = .int .i64 k ∧ Hid (∀ j, j < k → hitB n l j = false)) (fun _ _ w' => s.size - w'.iterPos w.heap.size)
    case atStart => exact ⟨0, 0, by omega, Lib.hid h0, rfl, rfl, Lib.hid fun j hj => absurd hj (by omega)⟩
    case round =>
      obtain ⟨k, p, hk, hp, rfl, rfl, hno⟩ := hrel
      by_cases hlt : p < s.size
      · obtain ⟨hkn, q, v, hq, hpq, hqs, _, hnx⟩ := HN.out w k p hp.out hlt
        have HQ := Lib.hid hq
        obtain ⟨b, hb⟩ : ∃ b, hitB n l k = b := ⟨_, rfl⟩
        have HC := Lib.hid (HP.out k p hp.out b hb)
        have HK := Lib.hid hb
        clear hq hb
        go_wp2_with fail
        refine (HC.out _).mono ?_
        rintro e w1 ⟨rfl, rfl⟩
        cases b with
        | true =>
          go_wp2
          exact bodyPost_ret (v := .tuple #[.int .i64 k, .bool true]) (by simp [results, Try.results15, go_sem]) rfl ⟨some k, rfl, .inr ⟨hn, hkn, HK.out, hno.out⟩, iter_below _ _ _⟩
        | false =>
          go_wp2
          go_roundw
          case rel =>
            refine ⟨k + 1, q, by omega, HQ, rfl, by go_num, Lib.hid fun j hj => ?_⟩
            rcases Nat.lt_or_ge j k with h | h
            · exact hno.out j h
            · obtain rfl : j = k := by omega
              exact HK.out
          case measure => simp; omega
      · have hnx := fun ty => run_next_end (P := Try.prog) w s p ty hlt
        have hE := HE.out k (by rw [hp.out]; exact hlt)
        go_wp2
        exact bodyPost_ret (v := .tuple #[.int .i64 0, .bool false]) (by simp [results, Try.results15, go_sem]) rfl ⟨none, rfl, ⟨hn, fun j hj => hno.out j (by omega)⟩, iter_below _ _ _⟩
set_option maxRecDepth 100000 in
set_option maxHeartbeats 2000000 in
theorem first_c (s : ByteArray) (l : List UInt8) (hs : s.data.toList = l) (hne : l ≠ []) (v : Nat) (hv : valL l = v) (w : World) :
    Calls Try.prog 21 #[.string s] w fun e w' => e = .returned (.tuple #[.int .i32 v, .bool true]) ∧ Below w.heap.size w w' := by
  have hl := len_of hs
  have hpos : 0 < s.size := by have := List.length_pos_iff.2 hne; omega
  obtain ⟨_, q, v2, hq, _, _, hv2, hnx⟩ := next_in Try.prog w s l hs 0 0 (off_zero l) hpos
  rw [List.drop_zero, hv] at hv2
  subst hv2
  clear hq hs hv
  go_enter Try.func21, Try.ntmps21
  go_wp2
  go_loopw [5] (fun _ w' => w' = w.iter s 0) (fun _ w' => 0)
  case atStart => rfl
  case round =>
    obtain rfl := hrel
    go_wp2
    exact bodyPost_ret (v := .tuple #[.int .i32 v2, .bool true]) (by simp [results, Try.results21, go_sem]) rfl ⟨rfl, iter_below _ _ _⟩
set_option maxRecDepth 100000 in
set_option maxHeartbeats 2000000 in
theorem first_none (s : ByteArray) (hs : s.size = 0) (w : World) :
    Calls Try.prog 21 #[.string s] w fun e w' => e = .returned (.tuple #[.int .i32 0, .bool false]) ∧ Below w.heap.size w w' := by
  have hnx := fun ty => run_next_end (P := Try.prog) w s 0 ty (by omega)
  go_enter Try.func21, Try.ntmps21
  go_wp2
  go_loopw [5] (fun _ w' => w' = w.iter s 0) (fun _ w' => 0)
  case atStart => rfl
  case round =>
    obtain rfl := hrel
    go_wp2
    exact bodyPost_ret (v := .tuple #[.int .i32 0, .bool false]) (by simp [results, Try.results21, go_sem]) rfl ⟨rfl, iter_below _ _ _⟩
/-- is a number a rune? -/
def runeB (n : Int) : Bool := decide (1 ≤ n ∧ n ≤ 1114111 ∧ ¬ (55296 ≤ n ∧ n ≤ 57343))
/-- a rune's bytes -/
def encL (n : Nat) : List UInt8 :=
  if n < 128 then [UInt8.ofNat n]
  else if n < 2048 then [UInt8.ofNat (192 + n / 64), UInt8.ofNat (128 + n % 64)]
  else if n < 65536 then [UInt8.ofNat (224 + n / 4096), UInt8.ofNat (128 + n / 64 % 64), UInt8.ofNat (128 + n % 64)]
  else [UInt8.ofNat (240 + n / 262144), UInt8.ofNat (128 + n / 4096 % 64), UInt8.ofNat (128 + n / 64 % 64), UInt8.ofNat (128 + n % 64)]
def singleL (n : Int) : List UInt8 := if runeB n = true then encL n.toNat else []
theorem encode_is (n : Int) (h : runeB n = true) : (Utf8.encode n).data.toList = encL n.toNat := by
  simp only [runeB, decide_eq_true_eq] at h
  have hv : Utf8.valid n = true := by
    simp only [Utf8.valid, Bool.or_eq_true, Bool.and_eq_true, decide_eq_true_eq]
    omega
  unfold Utf8.encode encL
  rw [hv]
  simp only [if_true]
  repeat' split
  all_goals rfl
theorem enc_at (a : Nat) (h : a < 256) : (UInt8.ofNat a).toNat = a := by simp; omega
set_option maxRecDepth 100000 in
set_option maxHeartbeats 2000000 in
/-- what is told of a rune is read back -/
theorem enc_back (n : Nat) (h : runeB n = true) : valL (encL n) = n ∧ encL n ≠ [] := by
  simp only [runeB, decide_eq_true_eq] at h
  unfold valL szL encL
  by_cases h1 : n < 128
  · rw [if_pos h1]
    simp only [atN, List.length_cons, List.length_nil, List.getD_cons_zero, List.getD_cons_succ]
    rw [enc_at n (by omega)]
    refine ⟨?_, by simp⟩
    unfold szN
    rw [if_neg (by omega), if_neg (by omega), if_neg (by omega), if_neg (by omega), valN, if_neg (by omega), if_neg (by omega), if_neg (by omega), if_pos h1]
  · by_cases h2 : n < 2048
    · rw [if_neg h1, if_pos h2]
      simp only [atN, List.length_cons, List.length_nil, List.getD_cons_zero, List.getD_cons_succ]
      rw [enc_at (192 + n / 64) (by omega), enc_at (128 + n % 64) (by omega)]
      refine ⟨?_, by simp⟩
      unfold szN
      rw [if_pos (by omega), valN, if_pos rfl]
      omega
    · by_cases h3 : n < 65536
      · rw [if_neg h1, if_neg h2, if_pos h3]
        simp only [atN, List.length_cons, List.length_nil, List.getD_cons_zero, List.getD_cons_succ]
        rw [enc_at (224 + n / 4096) (by omega), enc_at (128 + n / 64 % 64) (by omega), enc_at (128 + n % 64) (by omega)]
        refine ⟨?_, by simp⟩
        unfold szN
        rw [if_neg (by omega), if_pos (by omega), valN, if_neg (by omega), if_pos rfl]
        omega
      · rw [if_neg h1, if_neg h2, if_neg h3]
        simp only [atN, List.length_cons, List.length_nil, List.getD_cons_zero, List.getD_cons_succ]
        rw [enc_at (240 + n / 262144) (by omega), enc_at (128 + n / 4096 % 64) (by omega), enc_at (128 + n / 64 % 64) (by omega), enc_at (128 + n % 64) (by omega)]
        refine ⟨?_, by simp⟩
        unfold szN
        rw [if_neg (by omega), if_neg (by omega), if_pos (by omega), valN, if_neg (by omega), if_neg (by omega), if_pos rfl]
        omega
set_option maxRecDepth 100000 in
set_option maxHeartbeats 2000000 in
theorem validRune_c (r : Int) (b : Bool) (hb : decide ((0 ≤ r ∧ r < 55296) ∨ (57343 < r ∧ r ≤ 1114111)) = b) (w : World) : Calls Try.prog 27 #[.int .i32 r] w fun e w' => e = .returned (.bool b) ∧ w' = w := by
  have HB := Lib.hid hb
  clear hb
  go_enter Try.func27, Try.ntmps27
  go_wp2
  all_goals (go_ret; refine ⟨ret_bool ?_, rfl⟩; rw [← HB.out]; first | exact (decide_eq_true (by omega)).symm | exact (decide_eq_false (by omega)).symm)
set_option maxRecDepth 100000 in
set_option maxHeartbeats 2000000 in
theorem single_c (n : Int) (b : Bool) (hb : runeB n = b) (w : World) :
    Calls Try.prog 17 #[.int .i64 n] w fun e w' => ∃ t, e = .returned (.tuple #[.string t, .bool b]) ∧ t.data.toList = singleL n ∧ w = w' := by
  have hw : n < 1 ∨ (¬ n < 1 ∧ 1114111 < n) ∨ ((¬ n < 1 ∧ ¬ 1114111 < n) ∧ 55296 ≤ n ∧ n ≤ 57343) ∨ ((¬ n < 1 ∧ ¬ 1114111 < n) ∧ ¬ (55296 ≤ n ∧ n ≤ 57343)) := by omega
  rcases hw with h1 | ⟨h1, h2⟩ | ⟨⟨h1, h2⟩, h3⟩ | ⟨⟨h1, h2⟩, h3⟩
  · obtain rfl : false = b := by rw [← hb, runeB]; exact (decide_eq_false (by omega)).symm
    have HE : Hid ([] = singleL n) := Lib.hid (by rw [singleL, if_neg (by rw [hb]; simp)])
    clear hb
    have d1 : decide (n < 1) = true := by simpa using h1
    go_enter Try.func17, Try.ntmps17
    go_wp2
    exact bodyPost_ret (v := .tuple #[.string ⟨#[]⟩, .bool false]) (by simp [results, Try.results17, go_sem]) rfl ⟨_, rfl, HE.out, rfl⟩
  · obtain rfl : false = b := by rw [← hb, runeB]; exact (decide_eq_false (by omega)).symm
    have HE : Hid ([] = singleL n) := Lib.hid (by rw [singleL, if_neg (by rw [hb]; simp)])
    clear hb
    have d1 : decide (n < 1) = false := by simpa using h1
    have d2 : decide (1114111 < n) = true := by simpa using h2
    go_enter Try.func17, Try.ntmps17
    go_wp2
    exact bodyPost_ret (v := .tuple #[.string ⟨#[]⟩, .bool false]) (by simp [results, Try.results17, go_sem]) rfl ⟨_, rfl, HE.out, rfl⟩
  · obtain rfl : false = b := by rw [← hb, runeB]; exact (decide_eq_false (by omega)).symm
    have HE : Hid ([] = singleL n) := Lib.hid (by rw [singleL, if_neg (by rw [hb]; simp)])
    have HV := Lib.hid (fun w => validRune_c n false (decide_eq_false (by omega)) w)
    clear hb
    have d1 : decide (n < 1) = false := by simpa using h1
    have d2 : decide (1114111 < n) = false := by simpa using h2
    go_enter Try.func17, Try.ntmps17
    go_wp2_with fail
    refine (HV.out _).mono ?_
    rintro e w1 ⟨rfl, rfl⟩
    go_wp2
    exact bodyPost_ret (v := .tuple #[.string ⟨#[]⟩, .bool false]) (by simp [results, Try.results17, go_sem]) rfl ⟨_, rfl, HE.out, rfl⟩
  · obtain rfl : true = b := by rw [← hb, runeB]; exact (decide_eq_true (by omega)).symm
    have HE : Hid ((Utf8.encode n).data.toList = singleL n) := Lib.hid (by rw [singleL, if_pos hb, encode_is n hb])
    have HV := Lib.hid (fun w => validRune_c n true (decide_eq_true (by omega)) w)
    clear hb
    have d1 : decide (n < 1) = false := by simpa using h1
    have d2 : decide (1114111 < n) = false := by simpa using h2
    have hcv := fun w1 => run_convert_int_string (P := Try.prog) w1 21 9 .i32 n (by kernel_rfl) Try.underlying9
    generalize Utf8.encode n = E at *
    go_enter Try.func17, Try.ntmps17
    go_wp2_with fail
    refine (HV.out _).mono ?_
    rintro e w1 ⟨rfl, rfl⟩
    go_wp2
    exact bodyPost_ret (v := .tuple #[.string E, .bool true]) (by simp [results, Try.results17, go_sem]) rfl ⟨_, rfl, HE.out, rfl⟩
end Go.Proofs.Ytkbibkadofeamaa.Run
