/- What the reference's Parse answers: for every text of at most 2^63 - 3 bytes.
   Labels as text, in plain lists: two labels that may be are never told by one text. No program is named here.
   What the reference's small functions on labels answer: for every two labels. -/
import Derived.Test.YtcgpggknmhlnkaaGreatDoorPt15
import Derived.Deep.RegionHeld3
namespace Go.Proofs.YtcgpggknmhlnkaaGreatDoor.Cats
open Go.RowKit
theorem one_i (m : Int) (h0 : 0 ≤ m) (h1 : m < 64) (w : World) : Calls Tryz.prog 69 #[.int .i64 m] w fun e w' => e = .returned (.int .u64 (2 ^ m.toNat : Nat)) ∧ w = w' := by
  obtain ⟨k, rfl⟩ := Int.eq_ofNat_of_zero_le h0
  exact one_c k (by omega) w
theorem join_i (q : Nat) (m : Int) (hq : U q) (h0 : 0 ≤ m) (h1 : m < 64) (w : World) : Calls Tryz.prog 68 #[.int .u64 q, .int .u64 (2 ^ m.toNat : Nat)] w fun e w' => e = .returned (.int .u64 (q ||| 2 ^ m.toNat : Nat)) ∧ w = w' :=
  join_c q (2 ^ m.toNat) hq (U_pow (by omega)) w

theorem slot_kept {w w2 : World} {x y : Value} {ty : TypeId} (hb : Below (w.alloc (.cells #[x, y] ty)).heap.size (w.alloc (.cells #[x, y] ty)) w2) :
    w2.cell? ⟨w.heap.size, 0, none⟩ = some x ∧ w2.cell? ⟨w.heap.size, 1, none⟩ = some y ∧ w2.frozen? ⟨w.heap.size, 0, none⟩ = false ∧ w2.frozen? ⟨w.heap.size, 1, none⟩ = false ∧ w.heap.size < w2.heap.size := by
  refine ⟨?_, ?_, ?_, ?_, ?_⟩
  · rw [hb.cell (p := ⟨w.heap.size, 0, none⟩) (by simp), World.cell?_alloc_at _ _ _ _ rfl]; rfl
  · rw [hb.cell (p := ⟨w.heap.size, 1, none⟩) (by simp), World.cell?_alloc_at _ _ _ _ rfl]; rfl
  · rw [hb.frozen (p := ⟨w.heap.size, 0, none⟩) (by simp)]; exact World.frozen?_alloc_at _ _ _ _ rfl
  · rw [hb.frozen (p := ⟨w.heap.size, 1, none⟩) (by simp)]; exact World.frozen?_alloc_at _ _ _ _ rfl
  · have := hb.size; simp at this; omega
theorem two_set {w2 : World} {b : Nat} {x y u v : Value} (c0 : w2.cell? ⟨b, 0, none⟩ = some x) (c1 : w2.cell? ⟨b, 1, none⟩ = some y) :
    ((w2.setCell ⟨b, 0, none⟩ u).setCell ⟨b, 1, none⟩ v).cell? ⟨b, 0, none⟩ = some u ∧ ((w2.setCell ⟨b, 0, none⟩ u).setCell ⟨b, 1, none⟩ v).cell? ⟨b, 1, none⟩ = some v := by
  have h0 : (w2.setCell ⟨b, 0, none⟩ u).cell? ⟨b, 0, none⟩ = some u := by simp [go_sem, c0]
  have h1 : (w2.setCell ⟨b, 0, none⟩ u).cell? ⟨b, 1, none⟩ = some y := by simp [go_sem, c1]
  exact ⟨by simp [go_sem, h0], by simp [go_sem, h1]⟩
set_option maxRecDepth 100000 in
set_option maxHeartbeats 2000000 in
theorem rparse_core (t : ByteArray) (ht : t.size ≤ 9223372036854775805) (w : World) :
    Calls Tryz.prog 58 #[.string t] w fun e w' => e = .returned (.agg #[.int .u64 (parseF t.data.toList).1, .bool (parseF t.data.toList).2]) ∧ Below w.heap.size w w' := by
  go_enter Tryz.func58, Tryz.ntmps58
  go_wp2
  go_loop [3, 4, 5] (fun s n i => ∃ (k q : Nat) (m : Int), k ≤ t.size + 1 ∧ i = .int .i64 k ∧ ScanAt t.data.toList k q m ∧ s = .int .u64 q ∧ n = .int .i64 m) (fun _ _ i => t.size + 1 - (intOf i).toNat)
  case atStart => exact ⟨0, 0, -1, by omega, rfl, ScanAt.zero _, rfl, rfl⟩
  case round =>
    obtain ⟨k, q, m, hk, rfl, hs, rfl, rfl⟩ := hrel
    by_cases hlt : k ≤ t.size
    · have hm1 := hs.2.2.1
      have hm2 := hs.2.2.2
      have hU := Lib.hid hs.2.1
      have hsz := Lib.size_eq t
      by_cases hlt2 : k < t.size
      · have hl : k < t.data.toList.length := by omega
        have HD : Hid (48 ≤ (t[k].toNat : Int) → (t[k].toNat : Int) ≤ 57 → m < 100 → ScanAt t.data.toList (k + 1) q (max m 0 * 10 + (t[k].toNat : Int) - 48)) :=
          Lib.hid fun h1 h2 h3 => hs.digit hl (show 48 ≤ t[k].toNat by omega) (show t[k].toNat ≤ 57 by omega) h3
        have hno : (((t[k].toNat : Int) < 48 ∨ 57 < (t[k].toNat : Int)) ∨ 100 ≤ m) → ∀ hk : k < t.data.toList.length, ¬ (48 ≤ t.data.toList[k].toNat ∧ t.data.toList[k].toNat ≤ 57 ∧ m < 100) := by
          intro h hk
          have e : t.data.toList[k].toNat = t[k].toNat := rfl
          rw [e]
          omega
        have HS : Hid ((((t[k].toNat : Int) < 48 ∨ 57 < (t[k].toNat : Int)) ∨ 100 ≤ m) → (m < 0 ∨ 64 ≤ m) → ScanAt t.data.toList (k + 1) q (-1)) := Lib.hid fun h1 h2 => hs.skip (by omega) (hno h1) h2
        have HF : Hid ((((t[k].toNat : Int) < 48 ∨ 57 < (t[k].toNat : Int)) ∨ 100 ≤ m) → 0 ≤ m → m < 64 → ScanAt t.data.toList (k + 1) (q ||| 2 ^ m.toNat) (-1)) := Lib.hid fun h1 h2 h3 => hs.flush (by omega) (hno h1) h2 h3
        clear hno hsz
        go_wp2_with (first
          | (go_at_call 69; refine (one_i m (by omega) (by omega) _).mono ?_; rintro e w' ⟨rfl, rfl⟩)
          | (go_at_call 68; refine (join_i q m hU.out (by omega) (by omega) _).mono ?_; rintro e w' ⟨rfl, rfl⟩))
        all_goals
          go_round
          case rel =>
            first
              | ((refine ⟨k + 1, q ||| 2 ^ m.toNat, -1, ?_, ?_, ?_, ?_, ?_⟩) <;> first | (with_reducible rfl) | omega | go_num | (apply HF.out <;> omega))
              | ((refine ⟨k + 1, q, -1, ?_, ?_, ?_, ?_, ?_⟩) <;> first | (with_reducible rfl) | omega | go_num | (apply HS.out <;> omega))
              | ((refine ⟨k + 1, q, max m 0 * 10 + (t[k].toNat : Int) - 48, ?_, ?_, ?_, ?_, ?_⟩) <;> first | (with_reducible rfl) | omega | go_num | (apply HD.out <;> omega))
          case measure => simp [intOf]; omega
      · have hno : ∀ hk : k < t.data.toList.length, ¬ (48 ≤ t.data.toList[k].toNat ∧ t.data.toList[k].toNat ≤ 57 ∧ m < 100) := fun hk => by omega
        have HS : Hid ((m < 0 ∨ 64 ≤ m) → ScanAt t.data.toList (k + 1) q (-1)) := Lib.hid fun h2 => hs.skip (by omega) hno h2
        have HF : Hid (0 ≤ m → m < 64 → ScanAt t.data.toList (k + 1) (q ||| 2 ^ m.toNat) (-1)) := Lib.hid fun h2 h3 => hs.flush (by omega) hno h2 h3
        clear hno hsz
        go_wp2_with (first
          | (go_at_call 69; refine (one_i m (by omega) (by omega) _).mono ?_; rintro e w' ⟨rfl, rfl⟩)
          | (go_at_call 68; refine (join_i q m hU.out (by omega) (by omega) _).mono ?_; rintro e w' ⟨rfl, rfl⟩))
        all_goals
          go_round
          case rel =>
            first
              | ((refine ⟨k + 1, q ||| 2 ^ m.toNat, -1, ?_, ?_, ?_, ?_, ?_⟩) <;> first | (with_reducible rfl) | omega | go_num | (apply HF.out <;> omega))
              | ((refine ⟨k + 1, q, -1, ?_, ?_, ?_, ?_, ?_⟩) <;> first | (with_reducible rfl) | omega | go_num | (apply HS.out <;> omega))
          case measure => simp [intOf]; omega
    · obtain rfl : k = t.size + 1 := by omega
      rw [Lib.size_eq] at hs
      obtain ⟨hq, hU⟩ := hs.done
      have hp := scan_parse (t := t.data.toList) (by rw [hq]; exact hU)
      rw [hq] at hp
      have HU := Lib.hid hU
      clear hU hq hs
      cases hd : (textL q == t.data.toList)
      · have hne : ¬ textL q = t.data.toList := by simpa using hd
        rw [if_neg hne] at hp
        have HP := Lib.hid hp
        have hd2 : (textL q == t.toList) = false := by rw [Lib.toList_data]; exact hd
        clear hd hne hp
        go_wp2_with fail
        refine (rtext_c q HU.out _).mono ?_
        rintro e w2 ⟨rfl, hb⟩
        obtain ⟨c0, c1, f0, f1, hz⟩ := slot_kept (w := w) (x := .int .u64 0) (y := .bool false) hb
        obtain ⟨e0, e1⟩ := two_set (u := .int .u64 0) (v := .bool false) c0 c1
        go_wp2
        refine bodyPost_ret (v := .agg #[.int .u64 0, .bool false]) ?_ rfl ⟨?_, ?_⟩
        · simp [results, Tryz.results58, go_sem, e0, e1]
        · rw [HP.out]; rfl
        · exact (((Below.refl w.heap.size w).alloc (Nat.le_refl _) _).trans (hb.mono (by simp))).setCell (p := ⟨w.heap.size, 0, none⟩) (Nat.le_refl _) _ |>.setCell (p := ⟨w.heap.size, 1, none⟩) (Nat.le_refl _) _
      · have hne : textL q = t.data.toList := by simpa using hd
        rw [if_pos hne] at hp
        have HP := Lib.hid hp
        have hd2 : (textL q == t.toList) = true := by rw [Lib.toList_data]; exact hd
        clear hd hne hp
        go_wp2_with fail
        refine (rtext_c q HU.out _).mono ?_
        rintro e w2 ⟨rfl, hb⟩
        obtain ⟨c0, c1, f0, f1, hz⟩ := slot_kept (w := w) (x := .int .u64 0) (y := .bool false) hb
        obtain ⟨e0, e1⟩ := two_set (u := .int .u64 q) (v := .bool true) c0 c1
        go_wp2
        refine bodyPost_ret (v := .agg #[.int .u64 q, .bool true]) ?_ rfl ⟨?_, ?_⟩
        · simp [results, Tryz.results58, go_sem, e0, e1]
        · rw [HP.out]
        · exact (((Below.refl w.heap.size w).alloc (Nat.le_refl _) _).trans (hb.mono (by simp))).setCell (p := ⟨w.heap.size, 0, none⟩) (Nat.le_refl _) _ |>.setCell (p := ⟨w.heap.size, 1, none⟩) (Nat.le_refl _) _
end Go.Proofs.YtcgpggknmhlnkaaGreatDoor.Cats
namespace Go.Proofs.YtcgpggknmhlnkaaGreatDoor.Cats
/-- the set of all categories -/
def allN : Nat := 18446744073709551615
theorem U_all : U allN := by unfold U allN; omega
/-- a label as text -/
def labT (l : Int) (s : Nat) : List UInt8 :=
  if l < 0 ∨ 15 < l then [] else if l = 15 ∧ s = allN then [116, 111, 112] else if s = 0 then digs l.toNat else digs l.toNat ++ 58 :: textL s
/-- what a reader of labels' texts has to answer -/
def LabIs (t : List UInt8) (l : Int) (s : Nat) (b : Bool) : Prop :=
  (b = true ∧ 0 ≤ l ∧ l ≤ 15 ∧ U s ∧ labT l s = t) ∨ (b = false ∧ l = 0 ∧ s = 0 ∧ ∀ (k : Nat) (r : Nat), k ≤ 15 → U r → labT (k : Int) r ≠ t)
theorem labT_nat {k s : Nat} (hk : k ≤ 15) : labT (k : Int) s = if k = 15 ∧ s = allN then [116, 111, 112] else if s = 0 then digs k else digs k ++ 58 :: textL s := by
  unfold labT
  rw [if_neg (by omega), Int.toNat_natCast]
  by_cases h : k = 15 ∧ s = allN
  · rw [if_pos h, if_pos ⟨by omega, h.2⟩]
  · rw [if_neg h, if_neg fun h2 => h ⟨by omega, h2.2⟩]
theorem digs_clean : ∀ k, k < 64 → (58 : UInt8) ∉ digs k ∧ (116 : UInt8) ∉ digs k ∧ digs k ≠ [] := by decide +kernel
theorem digs_inj : ∀ a, a < 16 → ∀ b, b < 16 → digs a = digs b → a = b := by decide +kernel
theorem textL_inj {a b : Nat} (ha : U a) (hb : U b) (h : textL a = textL b) : a = b := by
  have h1 := parse_text ha
  have h2 := parse_text hb
  rw [h, h2] at h1
  simp only [Prod.mk.injEq, and_true] at h1
  exact h1.symm
/-- the text ahead of the first colon -/
theorem cut_at {a b x y : List UInt8} (ha : (58 : UInt8) ∉ a) (hb : (58 : UInt8) ∉ b) (h : a ++ 58 :: x = b ++ 58 :: y) : a = b ∧ x = y := by
  induction a generalizing b with
  | nil =>
    cases b with
    | nil => simpa using h
    | cons c r =>
      simp only [List.nil_append, List.cons_append, List.cons.injEq] at h
      exact absurd (by simp [h.1]) hb
  | cons c r ih =>
    cases b with
    | nil =>
      simp only [List.nil_append, List.cons_append, List.cons.injEq] at h
      exact absurd (by simp [h.1]) ha
    | cons d q =>
      simp only [List.cons_append, List.cons.injEq] at h
      obtain ⟨h1, h2⟩ := ih (fun hh => ha (by simp [hh])) (fun hh => hb (by simp [hh])) h.2
      exact ⟨by rw [h.1, h1], h2⟩
theorem labT_inj {k j s r : Nat} (hk : k ≤ 15) (hj : j ≤ 15) (hs : U s) (hr : U r) (h : labT (k : Int) s = labT (j : Int) r) : k = j ∧ s = r := by
  rw [labT_nat hk, labT_nat hj] at h
  obtain ⟨ck, tk, _⟩ := digs_clean k (by omega)
  obtain ⟨cj, tj, _⟩ := digs_clean j (by omega)
  have top_ne : ∀ (a : List UInt8), (116 : UInt8) ∉ a → [116, 111, 112] ≠ a := fun a ha e => ha (by rw [← e]; simp)
  have top_ne2 : ∀ (a x : List UInt8), (116 : UInt8) ∉ a → a ≠ [] → [116, 111, 112] ≠ a ++ 58 :: x := by
    intro a x ha hne e
    cases a with
    | nil => exact hne rfl
    | cons c q =>
      simp only [List.cons_append, List.cons.injEq] at e
      exact ha (by simp [← e.1])
  have colon : ∀ (a b x : List UInt8), (58 : UInt8) ∉ a → a ≠ b ++ 58 :: x := fun a b x ha e => ha (by rw [e]; simp)
  by_cases h1 : k = 15 ∧ s = allN
  · rw [if_pos h1] at h
    by_cases h2 : j = 15 ∧ r = allN
    · omega
    · rw [if_neg h2] at h
      by_cases h3 : r = 0
      · rw [if_pos h3] at h; exact absurd h (top_ne _ tj)
      · rw [if_neg h3] at h; exact absurd h (top_ne2 _ _ tj (digs_clean j (by omega)).2.2)
  · rw [if_neg h1] at h
    by_cases h2 : j = 15 ∧ r = allN
    · rw [if_pos h2] at h
      by_cases h3 : s = 0
      · rw [if_pos h3] at h; exact absurd h.symm (top_ne _ tk)
      · rw [if_neg h3] at h; exact absurd h.symm (top_ne2 _ _ tk (digs_clean k (by omega)).2.2)
    · rw [if_neg h2] at h
      by_cases h3 : s = 0
      · rw [if_pos h3] at h
        by_cases h4 : r = 0
        · rw [if_pos h4] at h
          exact ⟨digs_inj k (by omega) j (by omega) h, by omega⟩
        · rw [if_neg h4] at h; exact absurd h (colon _ _ _ ck)
      · rw [if_neg h3] at h
        by_cases h4 : r = 0
        · rw [if_pos h4] at h; exact absurd h.symm (colon _ _ _ cj)
        · rw [if_neg h4] at h
          obtain ⟨h5, h6⟩ := cut_at ck cj h
          exact ⟨digs_inj k (by omega) j (by omega) h5, textL_inj hs hr h6⟩
theorem LabIs.unique {t : List UInt8} {l l' : Int} {s s' : Nat} {b b' : Bool} (h : LabIs t l s b) (h' : LabIs t l' s' b') : l = l' ∧ s = s' ∧ b = b' := by
  rcases h with ⟨rfl, h0, h1, hu, ht⟩ | ⟨rfl, rfl, rfl, hn⟩
  · rcases h' with ⟨rfl, h0', h1', hu', ht'⟩ | ⟨rfl, _, _, hn'⟩
    · obtain ⟨k, rfl⟩ := Int.eq_ofNat_of_zero_le h0
      obtain ⟨j, rfl⟩ := Int.eq_ofNat_of_zero_le h0'
      obtain ⟨e1, e2⟩ := labT_inj (by omega) (by omega) hu hu' (ht.trans ht'.symm)
      exact ⟨by rw [e1], e2, rfl⟩
    · obtain ⟨k, rfl⟩ := Int.eq_ofNat_of_zero_le h0
      exact absurd ht (hn' k s (by omega) hu)
  · rcases h' with ⟨rfl, h0', h1', hu', ht'⟩ | ⟨rfl, rfl, rfl, _⟩
    · obtain ⟨j, rfl⟩ := Int.eq_ofNat_of_zero_le h0'
      exact absurd ht' (hn j s' (by omega) hu')
    · exact ⟨rfl, rfl, rfl⟩

/-- the reference's rounds: no level below n tells t -/
def NoneBelow (t : List UInt8) (n : Nat) : Prop := t ≠ [116, 111, 112] ∧ ∀ k, k < n → k ≤ 15 → ∀ r, U r → labT (k : Int) r ≠ t
theorem NoneBelow.zero {t : List UInt8} (h : t ≠ [116, 111, 112]) : NoneBelow t 0 := ⟨h, fun k hk => by omega⟩
theorem NoneBelow.done {t : List UInt8} (h : NoneBelow t 16) : LabIs t 0 0 false := .inr ⟨rfl, rfl, rfl, fun k r hk hr => h.2 k (by omega) hk r hr⟩
theorem NoneBelow.bare {t : List UInt8} {n : Nat} (hn : n ≤ 15) (h : t = digs n) : LabIs t (n : Int) 0 true := by
  refine .inl ⟨rfl, by omega, by omega, U_zero, ?_⟩
  rw [labT_nat hn, if_neg (by unfold allN; omega), if_pos rfl, h]
theorem NoneBelow.next {t : List UInt8} {n : Nat} (h : NoneBelow t n) (hn : n ≤ 15) (hno : ∀ r, U r → r ≠ 0 → ¬ (n = 15 ∧ r = allN) → t ≠ digs n ++ 58 :: textL r) (hd : t ≠ digs n) : NoneBelow t (n + 1) := by
  refine ⟨h.1, fun k hk hk15 r hr => ?_⟩
  by_cases hkn : k < n
  · exact h.2 k hkn hk15 r hr
  · obtain rfl : k = n := by omega
    rw [labT_nat hn]
    by_cases h1 : k = 15 ∧ r = allN
    · rw [if_pos h1]; exact fun e => h.1 e.symm
    · rw [if_neg h1]
      by_cases h2 : r = 0
      · rw [if_pos h2]; exact fun e => hd e.symm
      · rw [if_neg h2]; exact fun e => hno r hr h2 h1 e.symm
/-- a round in which the text does not go on as it would have to -/
theorem NoneBelow.odd {t : List UInt8} {n : Nat} (h : NoneBelow t n) (hn : n ≤ 15) (hd : t ≠ digs n) (hno : ∀ x, t ≠ digs n ++ 58 :: x) : NoneBelow t (n + 1) := h.next hn (fun _ _ _ _ => hno _) hd
theorem NoneBelow.bad {t x : List UInt8} {n S : Nat} (h : NoneBelow t n) (hn : n ≤ 15) (hd : t ≠ digs n) (hx : t = digs n ++ 58 :: x) (hp : parseF x = (S, false)) : NoneBelow t (n + 1) :=
  h.next hn (fun r hr _ _ e => by
    have e2 : x = textL r := by
      rw [hx] at e
      simpa using e
    rw [e2, parse_text hr] at hp
    simp at hp) hd
theorem NoneBelow.other {t x : List UInt8} {n S : Nat} (h : NoneBelow t n) (hn : n ≤ 15) (hd : t ≠ digs n) (hx : t = digs n ++ 58 :: x) (hp : parseF x = (S, true)) (hne : labT (n : Int) S ≠ t) : NoneBelow t (n + 1) :=
  h.next hn (fun r hr h0 h15 e => by
    have e2 : x = textL r := by
      rw [hx] at e
      simpa using e
    rw [e2, parse_text hr] at hp
    simp only [Prod.mk.injEq, and_true] at hp
    subst hp
    apply hne
    rw [labT_nat hn, if_neg h15, if_neg h0, e]) hd
theorem NoneBelow.found {t x : List UInt8} {n S : Nat} (hn : n ≤ 15) (hp : parseF x = (S, true)) (he : labT (n : Int) S = t) : LabIs t (n : Int) S true :=
  .inl ⟨rfl, by omega, by omega, (text_parse hp).2, he⟩
end Go.Proofs.YtcgpggknmhlnkaaGreatDoor.Cats
namespace Go.Proofs.YtcgpggknmhlnkaaGreatDoor.Cats
open Go.RowKit
theorem below1 (w : World) (a : Obj) : Below w.heap.size w (w.alloc a) := (Below.refl _ _).alloc (Nat.le_refl _) a
theorem below2 (w : World) (a b : Obj) : Below w.heap.size w ((w.alloc a).alloc b) := (below1 w a).alloc (by simp) b
theorem below3 (w : World) (a b c : Obj) : Below w.heap.size w (((w.alloc a).alloc b).alloc c) := (below2 w a b).alloc (by simp; omega) c
def EvAt (k q : Nat) : Prop := q + 1 = 2 ^ k
theorem EvAt.U {k q : Nat} (h : EvAt k q) (hk : k ≤ 64) : U q := by
  have : 2 ^ k ≤ 2 ^ 64 := Nat.pow_le_pow_right (by decide) hk
  unfold EvAt at h
  exact U.of (by omega)
theorem EvAt.next {k q : Nat} (h : EvAt k q) : EvAt (k + 1) (q * 2 + 1) := by
  unfold EvAt at *
  rw [Nat.pow_succ]
  omega
theorem EvAt.done {q : Nat} (h : EvAt 64 q) : q = allN := by unfold EvAt at h; unfold allN; omega
theorem ev_slot (q : Nat) (h : U (q * 2 + 1)) : Value.int .u64 (IntKind.u64.wrap (IntKind.u64.wrap ((q : Int) * 2) + 1)) = .int .u64 ((q * 2 + 1 : Nat) : Int) := by
  have h2 : U (q * 2) := by unfold U at *; omega
  rw [dbl_u64 q h2, show ((q * 2 : Nat) : Int) + 1 = ((q * 2 + 1 : Nat) : Int) from rfl, wrap_small h]
set_option maxRecDepth 100000 in
set_option maxHeartbeats 1000000 in
theorem every_c (w : World) : Calls Tryz.prog 67 #[] w fun e w' => e = .returned (.int .u64 (allN : Nat)) ∧ w = w' := by
  go_enter Tryz.func67, Tryz.ntmps67
  go_wp2
  go_loop [1, 2] (fun s i => ∃ k q : Nat, k ≤ 64 ∧ i = .int .i64 k ∧ EvAt k q ∧ s = .int .u64 q) (fun _ i => 64 - (intOf i).toNat)
  case atStart => exact ⟨0, 0, by omega, rfl, rfl, rfl⟩
  case round =>
    obtain ⟨k, q, hk, rfl, hq, rfl⟩ := hrel
    by_cases hlt : k < 64
    · go_wp2
      go_round
      case rel => exact ⟨k + 1, q * 2 + 1, by omega, by go_num, hq.next, ev_slot q (hq.next.U (by omega))⟩
      case measure => simp [intOf]; omega
    · obtain rfl : k = 64 := by omega
      go_wp2
      go_ret
      exact ⟨ret_u64 (by rw [hq.done]), rfl⟩
set_option maxRecDepth 100000 in
set_option maxHeartbeats 1000000 in
theorem rtop_c (w : World) : Calls Tryz.prog 56 #[] w fun e w' => e = .returned (.agg #[.int .i64 15, .int .u64 (allN : Nat)]) ∧ Below w.heap.size w w' := by
  go_enter Tryz.func56, Tryz.ntmps56
  go_wp2_with (go_at_call 67; refine (every_c _).mono ?_; rintro e w' ⟨rfl, rfl⟩)
  refine bodyPost_ret (v := .agg #[.int .i64 15, .int .u64 (allN : Nat)]) (by simp [results, Tryz.results56, go_sem]) rfl ⟨rfl, ?_⟩
  exact below1 _ _
end Go.Proofs.YtcgpggknmhlnkaaGreatDoor.Cats
