/- What the reference's Parse answers: for every text of at most 300 bytes. -/
import Derived.Test.YtobjmldfnnhofaaDoorCatsRefText
import Derived.Test.YtobjmldfnnhofaaDoorCatsScan
namespace Go.Proofs.YtobjmldfnnhofaaDoor.Cats
open Go.RowKit

theorem one_i (m : Int) (h0 : 0 ≤ m) (h1 : m < 64) (w : World) : Calls Tryd.prog 36 #[.int .i64 m] w fun e w' => e = .returned (.int .u64 (2 ^ m.toNat : Nat)) ∧ w = w' := by
  obtain ⟨k, rfl⟩ := Int.eq_ofNat_of_zero_le h0
  exact one_c k (by omega) w
theorem join_i (q : Nat) (m : Int) (hq : U q) (h0 : 0 ≤ m) (h1 : m < 64) (w : World) : Calls Tryd.prog 22 #[.int .u64 q, .int .u64 (2 ^ m.toNat : Nat)] w fun e w' => e = .returned (.int .u64 (q ||| 2 ^ m.toNat : Nat)) ∧ w = w' :=
  join_c q (2 ^ m.toNat) hq (U_pow (by omega)) w

theorem slot_kept {w w2 : World} {x y : Value} {ty : TypeId} (hb : Below (w.alloc (.cells #[x, y] ty)).heap.size (w.alloc (.cells #[x, y] ty)) w2) :
    w2.cell? ⟨w.heap.size, 0, none⟩ = some x ∧ w2.cell? ⟨w.heap.size, 1, none⟩ = some y ∧ w2.frozen? ⟨w.heap.size, 0, none⟩ = false ∧ w2.frozen? ⟨w.heap.size, 1, none⟩ = false ∧ w.heap.size < w2.heap.size := by
  refine ⟨?_, ?_, ?_, ?_, ?_⟩
  · rw [hb.cell (p := ⟨w.heap.size, 0, none⟩) (by simp), World.cell?_alloc_at _ _ _ _ rfl]; rfl
  · rw [hb.cell (p := ⟨w.heap.size, 1, none⟩) (by simp), World.cell?_alloc_at _ _ _ _ rfl]; rfl
  · rw [hb.frozen (p := ⟨w.heap.size, 0, none⟩) (by simp)]; exact World.frozen?_alloc_at _ _ _ _ rfl
  · rw [hb.frozen (p := ⟨w.heap.size, 1, none⟩) (by simp)]; exact World.frozen?_alloc_at _ _ _ _ rfl
  · have := hb.size; simp at this; omega
theorem two_set {w2 : World} {b : Nat} {x y u v : Value} (c0 : w2.cell? ⟨b, 0, none⟩ = some x) (c1 : w2.cell? ⟨b, 1, none⟩ = some y) :
    ((w2.setCell ⟨b, 0, none⟩ u).setCell ⟨b, 1, none⟩ v).cell? ⟨b, 0, none⟩ = some u ∧ ((w2.setCell ⟨b, 0, none⟩ u).setCell ⟨b, 1, none⟩ v).cell? ⟨b, 1, none⟩ = some v := by
  have h0 : (w2.setCell ⟨b, 0, none⟩ u).cell? ⟨b, 0, none⟩ = some u := by simp [go_sem, c0]
  have h1 : (w2.setCell ⟨b, 0, none⟩ u).cell? ⟨b, 1, none⟩ = some y := by simp [go_sem, c1]
  exact ⟨by simp [go_sem, h0], by simp [go_sem, h1]⟩
set_option maxRecDepth 100000 in
set_option maxHeartbeats 2000000 in
theorem rparse_core (t : ByteArray) (ht : t.size ≤ 300) (w : World) :
    Calls Tryd.prog 33 #[.string t] w fun e w' => e = .returned (.agg #[.int .u64 (parseF t.data.toList).1, .bool (parseF t.data.toList).2]) ∧ Below w.heap.size w w' := by
  go_enter Tryd.func33, Tryd.ntmps33
  go_wp2
  go_loop [3, 4, 5] (fun s n i => ∃ (k q : Nat) (m : Int), k ≤ t.size + 1 ∧ i = .int .i64 k ∧ ScanAt t.data.toList k q m ∧ s = .int .u64 q ∧ n = .int .i64 m) (fun _ _ i => t.size + 1 - (intOf i).toNat)
  case atStart => exact ⟨0, 0, -1, by omega, rfl, ScanAt.zero _, rfl, rfl⟩
  case round =>
    obtain ⟨k, q, m, hk, rfl, hs, rfl, rfl⟩ := hrel
    by_cases hlt : k ≤ t.size
    · have hm1 := hs.2.2.1
      have hm2 := hs.2.2.2
      have hU := Lib.hid hs.2.1
      have hsz := Lib.size_eq t
      by_cases hlt2 : k < t.size
      · have hl : k < t.data.toList.length := by omega
        have HD : Hid (48 ≤ (t[k].toNat : Int) → (t[k].toNat : Int) ≤ 57 → m < 100 → ScanAt t.data.toList (k + 1) q (max m 0 * 10 + (t[k].toNat : Int) - 48)) :=
          Lib.hid fun h1 h2 h3 => hs.digit hl (show 48 ≤ t[k].toNat by omega) (show t[k].toNat ≤ 57 by omega) h3
        have hno : (((t[k].toNat : Int) < 48 ∨ 57 < (t[k].toNat : Int)) ∨ 100 ≤ m) → ∀ hk : k < t.data.toList.length, ¬ (48 ≤ t.data.toList[k].toNat ∧ t.data.toList[k].toNat ≤ 57 ∧ m < 100) := by
          intro h hk
          have e : t.data.toList[k].toNat = t[k].toNat := rfl
          rw [e]
          omega
        have HS : Hid ((((t[k].toNat : Int) < 48 ∨ 57 < (t[k].toNat : Int)) ∨ 100 ≤ m) → (m < 0 ∨ 64 ≤ m) → ScanAt t.data.toList (k + 1) q (-1)) := Lib.hid fun h1 h2 => hs.skip (by omega) (hno h1) h2
        have HF : Hid ((((t[k].toNat : Int) < 48 ∨ 57 < (t[k].toNat : Int)) ∨ 100 ≤ m) → 0 ≤ m → m < 64 → ScanAt t.data.toList (k + 1) (q ||| 2 ^ m.toNat) (-1)) := Lib.hid fun h1 h2 h3 => hs.flush (by omega) (hno h1) h2 h3
        clear hno hsz
        go_wp2_with (first
          | (go_at_call 36; refine (one_i m (by omega) (by omega) _).mono ?_; rintro e w' ⟨rfl, rfl⟩)
          | (go_at_call 22; refine (join_i q m hU.out (by omega) (by omega) _).mono ?_; rintro e w' ⟨rfl, rfl⟩))
        all_goals
          go_round
          case rel =>
            first
              | ((refine ⟨k + 1, q ||| 2 ^ m.toNat, -1, ?_, ?_, ?_, ?_, ?_⟩) <;> first | (with_reducible rfl) | omega | go_num | (apply HF.out <;> omega))
              | ((refine ⟨k + 1, q, -1, ?_, ?_, ?_, ?_, ?_⟩) <;> first | (with_reducible rfl) | omega | go_num | (apply HS.out <;> omega))
              | ((refine ⟨k + 1, q, max m 0 * 10 + (t[k].toNat : Int) - 48, ?_, ?_, ?_, ?_, ?_⟩) <;> first | (with_reducible rfl) | omega | go_num | (apply HD.out <;> omega))
          case measure => simp [intOf]; omega
      · have hno : ∀ hk : k < t.data.toList.length, ¬ (48 ≤ t.data.toList[k].toNat ∧ t.data.toList[k].toNat ≤ 57 ∧ m < 100) := fun hk => by omega
        have HS : Hid ((m < 0 ∨ 64 ≤ m) → ScanAt t.data.toList (k + 1) q (-1)) := Lib.hid fun h2 => hs.skip (by omega) hno h2
        have HF : Hid (0 ≤ m → m < 64 → ScanAt t.data.toList (k + 1) (q ||| 2 ^ m.toNat) (-1)) := Lib.hid fun h2 h3 => hs.flush (by omega) hno h2 h3
        clear hno hsz
        go_wp2_with (first
          | (go_at_call 36; refine (one_i m (by omega) (by omega) _).mono ?_; rintro e w' ⟨rfl, rfl⟩)
          | (go_at_call 22; refine (join_i q m hU.out (by omega) (by omega) _).mono ?_; rintro e w' ⟨rfl, rfl⟩))
        all_goals
          go_round
          case rel =>
            first
              | ((refine ⟨k + 1, q ||| 2 ^ m.toNat, -1, ?_, ?_, ?_, ?_, ?_⟩) <;> first | (with_reducible rfl) | omega | go_num | (apply HF.out <;> omega))
              | ((refine ⟨k + 1, q, -1, ?_, ?_, ?_, ?_, ?_⟩) <;> first | (with_reducible rfl) | omega | go_num | (apply HS.out <;> omega))
          case measure => simp [intOf]; omega
    · obtain rfl : k = t.size + 1 := by omega
      rw [Lib.size_eq] at hs
      obtain ⟨hq, hU⟩ := hs.done
      have hp := scan_parse (t := t.data.toList) (by rw [hq]; exact hU)
      rw [hq] at hp
      have HU := Lib.hid hU
      clear hU hq hs
      cases hd : (textL q == t.data.toList)
      · have hne : ¬ textL q = t.data.toList := by simpa using hd
        rw [if_neg hne] at hp
        have HP := Lib.hid hp
        have hd2 : (textL q == t.toList) = false := by rw [Lib.toList_data]; exact hd
        clear hd hne hp
        go_wp2_with fail
        refine (rtext_c q HU.out _).mono ?_
        rintro e w2 ⟨rfl, hb⟩
        obtain ⟨c0, c1, f0, f1, hz⟩ := slot_kept (w := w) (x := .int .u64 0) (y := .bool false) hb
        obtain ⟨e0, e1⟩ := two_set (u := .int .u64 0) (v := .bool false) c0 c1
        go_wp2
        refine bodyPost_ret (v := .agg #[.int .u64 0, .bool false]) ?_ rfl ⟨?_, ?_⟩
        · simp [results, Tryd.results33, go_sem, e0, e1]
        · rw [HP.out]; rfl
        · exact (((Below.refl w.heap.size w).alloc (Nat.le_refl _) _).trans (hb.mono (by simp))).setCell (p := ⟨w.heap.size, 0, none⟩) (Nat.le_refl _) _ |>.setCell (p := ⟨w.heap.size, 1, none⟩) (Nat.le_refl _) _
      · have hne : textL q = t.data.toList := by simpa using hd
        rw [if_pos hne] at hp
        have HP := Lib.hid hp
        have hd2 : (textL q == t.toList) = true := by rw [Lib.toList_data]; exact hd
        clear hd hne hp
        go_wp2_with fail
        refine (rtext_c q HU.out _).mono ?_
        rintro e w2 ⟨rfl, hb⟩
        obtain ⟨c0, c1, f0, f1, hz⟩ := slot_kept (w := w) (x := .int .u64 0) (y := .bool false) hb
        obtain ⟨e0, e1⟩ := two_set (u := .int .u64 q) (v := .bool true) c0 c1
        go_wp2
        refine bodyPost_ret (v := .agg #[.int .u64 q, .bool true]) ?_ rfl ⟨?_, ?_⟩
        · simp [results, Tryd.results33, go_sem, e0, e1]
        · rw [HP.out]
        · exact (((Below.refl w.heap.size w).alloc (Nat.le_refl _) _).trans (hb.mono (by simp))).setCell (p := ⟨w.heap.size, 0, none⟩) (Nat.le_refl _) _ |>.setCell (p := ⟨w.heap.size, 1, none⟩) (Nat.le_refl _) _
end Go.Proofs.YtobjmldfnnhofaaDoor.Cats
