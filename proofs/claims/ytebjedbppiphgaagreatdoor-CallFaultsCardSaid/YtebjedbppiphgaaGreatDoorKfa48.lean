/- What the program's Call answers, function by function: of a value as it is, of a text and numbers. Written by wip/gen21o.py.
   A fault among the operands is what an operator answers; a fault alone is what a function of one number, one text, or lists answers. Written by wip/gen21q.py. -/
import Derived.Test.YtebjedbppiphgaaGreatDoorKfa45
import Derived.Test.YtebjedbppiphgaaGreatDoorKfa47
namespace Go.Proofs.YtebjedbppiphgaaGreatDoor.Cal
open Go.RowKit Kit Reg Dec Dig Val Fld
/-- one table of one value -/
theorem one_tab {fn : Int} {T : List Tb} {w : World} {A : Option Addr} (h : AccB fn 1 T) (hk : ∀ i : Nat, i < 1 → kdF fn i = 118) (h6 : ∀ t ∈ T, t.n ≤ 60) (hz : TabsR w A 1 T) : ∃ (t : Tb) (a : Vl), T = [t] ∧ t.L = [a] ∧ allL T = [a] := by
  obtain ⟨t, rfl⟩ := List.length_eq_one_iff.1 hz.1
  obtain ⟨a, ha⟩ := len_one (ones_of h hk h6 hz)
  refine ⟨t, a, rfl, ?_, ha⟩
  simpa [allL] using ha
theorem pv_NOT (A : Option Addr) (n : Nat) (cap : Nat) (T : List Tb) (h6 : ∀ t ∈ T, t.n ≤ 60) (hok : ∀ v ∈ allL T, Ok v) (w : World) (hz : TabsR w A n T) : Calls Tryz.prog 17 #[.int .i64 47, .slice A n cap] w (IsV (callV 47 ⟨#[98]⟩ fin_NOT n T) w) := by
  by_cases hacc : AccB 47 n T
  · rw [callV_yes hacc]
    obtain rfl := fit_is (k := 46) (m := 1) (by decide) (by kernel_rfl) (by kernel_rfl) n hacc.1
    obtain ⟨t, a, rfl, hL1, e⟩ := one_tab hacc (kd_is (by kernel_rfl)) h6 hz
    have ha : Ok a := hok a (by rw [e]; simp)
    rw [e, show takenL ⟨#[98]⟩ [a] = [truT a] from rfl, pick_1 (by rw [list_of rfl]; decide)]
    refine pcall_val 47 (by omega) A cap t a (by rw [hL1]; rfl) h6 hacc _ w hz fun w1 _ => ?_
    rcases tru_ways ha with ⟨b, hb⟩ | ⟨c, hc, _⟩
    · rw [if_neg (by rw [hb]; simp [bV])]
      have HT := fun w2 (_ : Below w1.heap.size w1 w2) => tru_c a ha w2
      rw [hb] at HT ⊢
      cases b
      · exact pva_NOTf a.k a.n a.t w1 HT
      · exact pva_NOTt a.k a.n a.t w1 HT
    · rw [if_pos (by rw [hc]; rfl), hc]
      exact pva_NOT0 a.k a.n a.t c w1 fun w2 _ => by have h := tru_c a ha w2; rw [hc] at h; exact h
  · rw [callV_no hacc]
    exact pcall_no 47 A n cap T h6 hacc w hz
end Go.Proofs.YtebjedbppiphgaaGreatDoor.Cal
namespace Go.Proofs.YtebjedbppiphgaaGreatDoor.Cal
open Go.RowKit Kit Reg Dec Dig Val Fld
open Crt (CLibs)
theorem fault_is {a : Vl} (ha : Ok a) (h : a.k = 4) : ∃ n, a = fV n ∧ 1 ≤ n ∧ n ≤ 7 := by
  rcases may_ways ha.1 with rfl | ⟨n, rfl, _⟩ | ⟨t, rfl, _⟩ | rfl | rfl | ⟨n, rfl, h1, h2⟩
  · cases h
  · cases h
  · cases h
  · cases h
  · cases h
  · exact ⟨n, rfl, h1, h2⟩
theorem take_fault (k : Nat) (n : Int) : takeV k (fV n) = fV n := by
  unfold takeV
  split
  · rfl
  · split
    · rfl
    · split <;> rfl
theorem kdn_ways {k : Nat} (hk : k < 12) : kdN k = 110 ∨ kdN k = 115 ∨ kdN k = 120 := by
  have h : k = 0 ∨ k = 1 ∨ k = 2 ∨ k = 3 ∨ k = 4 ∨ k = 5 ∨ k = 6 ∨ k = 7 ∨ k = 8 ∨ k = 9 ∨ k = 10 ∨ k = 11 := by omega
  rcases h with rfl | rfl | rfl | rfl | rfl | rfl | rfl | rfl | rfl | rfl | rfl | rfl
  · exact .inl rfl
  · exact .inl rfl
  · exact .inl rfl
  · exact .inl rfl
  · exact .inl rfl
  · exact .inr (.inl rfl)
  · exact .inr (.inr rfl)
  · exact .inr (.inr rfl)
  · exact .inr (.inr rfl)
  · exact .inr (.inr rfl)
  · exact .inr (.inr rfl)
  · exact .inr (.inr rfl)
theorem bin_f1 {op : Int} (h1 : ¬ op < 1) (h2 : ¬ 12 < op) (n : Int) (b : Vl) : binV op (fV n) b = fV n := by
  obtain ⟨k, rfl⟩ : ∃ k : Nat, op = (k : Int) + 1 := ⟨(op - 1).toNat, by omega⟩
  rw [binV_at (by omega), take_fault]
  exact if_pos rfl
theorem bin_f2 {op : Int} (h1 : ¬ op < 1) (h2 : ¬ 12 < op) {a : Vl} (ha : Ok a) (h4 : ¬ a.k = 4) (n : Int) : binV op a (fV n) = fV n ∨ ∃ m, binV op a (fV n) = fV m ∧ numT a = fV m := by
  obtain ⟨k, rfl⟩ : ∃ k : Nat, op = (k : Int) + 1 := ⟨(op - 1).toNat, by omega⟩
  rw [binV_at (by omega), take_fault]
  by_cases h : (takeV (kdN k) a).k = 4
  · rcases kdn_ways (k := k) (by omega) with e | e | e
    · rw [e, show takeV 110 a = numT a from rfl] at h ⊢
      rw [if_pos h]
      rcases num_ways ha with ⟨x, e, _⟩ | ⟨c, e, _⟩
      · rw [e] at h
        cases h
      · exact .inr ⟨c, e, e⟩
    · rw [e, show takeV 115 a = txtT a from rfl, show txtT a = sV (wordsF a) from if_neg h4] at h
      cases h
    · rw [e] at h
      exact absurd h h4
  · rw [if_neg h]
    exact .inl (if_pos rfl)
theorem first_one {v : Vl} (h : v.k = 4) : FirstF [v] 0 v := ⟨rfl, h, fun i _ hi => absurd hi (Nat.not_lt_zero i)⟩
/-- one value in a table of its own -/
theorem acc_one {fn : Int} {A : Option Addr} {x : Vl} (hf : Fnm.fitsF fn 1 = true) (h : kdF fn 0 = 118 ∨ kdF fn 0 = 108) : AccB fn 1 [oneTb A x] := ⟨hf, fun i v hv => by
  match i, hv with
  | 0, hv =>
    obtain rfl : oneTb A x = v := by simpa using hv
    refine ⟨by rcases h with h | h <;> rw [h] <;> decide, by rcases h with h | h <;> rw [h] <;> decide, by rcases h with h | h <;> rw [h] <;> decide, ⟨?_, ?_, ?_, rfl⟩, fun _ => rfl⟩
    · show (1 : Int) ≤ 1; decide
    · show (1 : Int) ≤ 1; decide
    · show 1 ≤ 1000; decide
  | i + 1, hv => simp at hv⟩
theorem h6_one (A : Option Addr) (x : Vl) : ∀ t ∈ [oneTb A x], t.n ≤ 60 := fun t ht => by
  rw [List.mem_singleton.1 ht]
  show 1 ≤ 60
  decide
theorem ok_fault (n : Int) (hn : 1 ≤ n ∧ n ≤ 7) : Ok (fV n) := fV_ok hn.1 hn.2
theorem ok_one (n : Int) (hn : 1 ≤ n ∧ n ≤ 7) (A : Option Addr) : ∀ v ∈ allL [oneTb A (fV n)], Ok v := fun v hv => by
  rw [show v = fV n from by simpa [allL, oneTb] using hv]
  exact ok_fault n hn
theorem pf_ABS (n : Int) (hn : 1 ≤ n ∧ n ≤ 7) (A : Option Addr) (b : Nat) (w : World) (hz : TabsR w (some ⟨b, 0, none⟩) 1 [oneTb A (fV n)]) (hL : Dig.Libs w) : Calls Tryz.prog 17 #[.int .i64 1, .slice (some ⟨b, 0, none⟩) 1 1] w (IsV (fV n) w) := by
  have h := pv_ABS (some ⟨b, 0, none⟩) 1 1 [oneTb A (fV n)] (h6_one A (fV n)) (ok_one n hn A) w hz hL
  rw [callV_yes (acc_one (by kernel_rfl) (.inl (by kernel_rfl))), show takenL ⟨#[110]⟩ (allL [oneTb A (fV n)]) = [takeV 110 (fV n)] from rfl, take_fault, pick_1 (by rw [list_of rfl]; decide), if_pos (show (fV n).k = 4 from rfl)] at h
  exact h
theorem pf_SIGN (n : Int) (hn : 1 ≤ n ∧ n ≤ 7) (A : Option Addr) (b : Nat) (w : World) (hz : TabsR w (some ⟨b, 0, none⟩) 1 [oneTb A (fV n)]) (hL : Dig.Libs w) : Calls Tryz.prog 17 #[.int .i64 63, .slice (some ⟨b, 0, none⟩) 1 1] w (IsV (fV n) w) := by
  have h := pv_SIGN (some ⟨b, 0, none⟩) 1 1 [oneTb A (fV n)] (h6_one A (fV n)) (ok_one n hn A) w hz hL
  rw [callV_yes (acc_one (by kernel_rfl) (.inl (by kernel_rfl))), show takenL ⟨#[110]⟩ (allL [oneTb A (fV n)]) = [takeV 110 (fV n)] from rfl, take_fault, pick_1 (by rw [list_of rfl]; decide), if_pos (show (fV n).k = 4 from rfl)] at h
  exact h
theorem pf_INT (n : Int) (hn : 1 ≤ n ∧ n ≤ 7) (A : Option Addr) (b : Nat) (w : World) (hz : TabsR w (some ⟨b, 0, none⟩) 1 [oneTb A (fV n)]) (hL : Dig.Libs w) : Calls Tryz.prog 17 #[.int .i64 28, .slice (some ⟨b, 0, none⟩) 1 1] w (IsV (fV n) w) := by
  have h := pv_INT (some ⟨b, 0, none⟩) 1 1 [oneTb A (fV n)] (h6_one A (fV n)) (ok_one n hn A) w hz hL
  rw [callV_yes (acc_one (by kernel_rfl) (.inl (by kernel_rfl))), show takenL ⟨#[110]⟩ (allL [oneTb A (fV n)]) = [takeV 110 (fV n)] from rfl, take_fault, pick_1 (by rw [list_of rfl]; decide), if_pos (show (fV n).k = 4 from rfl)] at h
  exact h
theorem pf_TRUNC (n : Int) (hn : 1 ≤ n ∧ n ≤ 7) (A : Option Addr) (b : Nat) (w : World) (hz : TabsR w (some ⟨b, 0, none⟩) 1 [oneTb A (fV n)]) (hL : Dig.Libs w) : Calls Tryz.prog 17 #[.int .i64 74, .slice (some ⟨b, 0, none⟩) 1 1] w (IsV (fV n) w) := by
  have h := pv_TRUNC (some ⟨b, 0, none⟩) 1 1 [oneTb A (fV n)] (h6_one A (fV n)) (ok_one n hn A) w hz hL
  rw [callV_yes (acc_one (by kernel_rfl) (.inl (by kernel_rfl))), show takenL ⟨#[110]⟩ (allL [oneTb A (fV n)]) = [takeV 110 (fV n)] from rfl, take_fault, pick_1 (by rw [list_of rfl]; decide), if_pos (show (fV n).k = 4 from rfl)] at h
  exact h
theorem pf_EVEN (n : Int) (hn : 1 ≤ n ∧ n ≤ 7) (A : Option Addr) (b : Nat) (w : World) (hz : TabsR w (some ⟨b, 0, none⟩) 1 [oneTb A (fV n)]) (hL : Dig.Libs w) : Calls Tryz.prog 17 #[.int .i64 18, .slice (some ⟨b, 0, none⟩) 1 1] w (IsV (fV n) w) := by
  have h := pv_EVEN (some ⟨b, 0, none⟩) 1 1 [oneTb A (fV n)] (h6_one A (fV n)) (ok_one n hn A) w hz hL
  rw [callV_yes (acc_one (by kernel_rfl) (.inl (by kernel_rfl))), show takenL ⟨#[110]⟩ (allL [oneTb A (fV n)]) = [takeV 110 (fV n)] from rfl, take_fault, pick_1 (by rw [list_of rfl]; decide), if_pos (show (fV n).k = 4 from rfl)] at h
  exact h
theorem pf_ODD (n : Int) (hn : 1 ≤ n ∧ n ≤ 7) (A : Option Addr) (b : Nat) (w : World) (hz : TabsR w (some ⟨b, 0, none⟩) 1 [oneTb A (fV n)]) (hL : Dig.Libs w) : Calls Tryz.prog 17 #[.int .i64 48, .slice (some ⟨b, 0, none⟩) 1 1] w (IsV (fV n) w) := by
  have h := pv_ODD (some ⟨b, 0, none⟩) 1 1 [oneTb A (fV n)] (h6_one A (fV n)) (ok_one n hn A) w hz hL
  rw [callV_yes (acc_one (by kernel_rfl) (.inl (by kernel_rfl))), show takenL ⟨#[110]⟩ (allL [oneTb A (fV n)]) = [takeV 110 (fV n)] from rfl, take_fault, pick_1 (by rw [list_of rfl]; decide), if_pos (show (fV n).k = 4 from rfl)] at h
  exact h
theorem pf_SQRT (n : Int) (hn : 1 ≤ n ∧ n ≤ 7) (A : Option Addr) (b : Nat) (w : World) (hz : TabsR w (some ⟨b, 0, none⟩) 1 [oneTb A (fV n)]) (hL : Dig.Libs w) : Calls Tryz.prog 17 #[.int .i64 65, .slice (some ⟨b, 0, none⟩) 1 1] w (IsV (fV n) w) := by
  have h := pv_SQRT (some ⟨b, 0, none⟩) 1 1 [oneTb A (fV n)] (h6_one A (fV n)) (ok_one n hn A) w hz hL
  rw [callV_yes (acc_one (by kernel_rfl) (.inl (by kernel_rfl))), show takenL ⟨#[110]⟩ (allL [oneTb A (fV n)]) = [takeV 110 (fV n)] from rfl, take_fault, pick_1 (by rw [list_of rfl]; decide), if_pos (show (fV n).k = 4 from rfl)] at h
  exact h
theorem pf_FACT (n : Int) (hn : 1 ≤ n ∧ n ≤ 7) (A : Option Addr) (b : Nat) (w : World) (hz : TabsR w (some ⟨b, 0, none⟩) 1 [oneTb A (fV n)]) (hL : Dig.Libs w) : Calls Tryz.prog 17 #[.int .i64 20, .slice (some ⟨b, 0, none⟩) 1 1] w (IsV (fV n) w) := by
  have h := pv_FACT (some ⟨b, 0, none⟩) 1 1 [oneTb A (fV n)] (h6_one A (fV n)) (ok_one n hn A) w hz hL
  rw [callV_yes (acc_one (by kernel_rfl) (.inl (by kernel_rfl))), show takenL ⟨#[110]⟩ (allL [oneTb A (fV n)]) = [takeV 110 (fV n)] from rfl, take_fault, pick_1 (by rw [list_of rfl]; decide), if_pos (show (fV n).k = 4 from rfl)] at h
  exact h
theorem pf_CHAR (n : Int) (hn : 1 ≤ n ∧ n ≤ 7) (A : Option Addr) (b : Nat) (w : World) (hz : TabsR w (some ⟨b, 0, none⟩) 1 [oneTb A (fV n)]) (hL : Dig.Libs w) : Calls Tryz.prog 17 #[.int .i64 6, .slice (some ⟨b, 0, none⟩) 1 1] w (IsV (fV n) w) := by
  have h := pv_CHAR (some ⟨b, 0, none⟩) 1 1 [oneTb A (fV n)] (h6_one A (fV n)) (ok_one n hn A) w hz hL
  rw [callV_yes (acc_one (by kernel_rfl) (.inl (by kernel_rfl))), show takenL ⟨#[110]⟩ (allL [oneTb A (fV n)]) = [takeV 110 (fV n)] from rfl, take_fault, pick_1 (by rw [list_of rfl]; decide), if_pos (show (fV n).k = 4 from rfl)] at h
  exact h
theorem pf_VALUE (n : Int) (hn : 1 ≤ n ∧ n ≤ 7) (A : Option Addr) (b : Nat) (w : World) (hz : TabsR w (some ⟨b, 0, none⟩) 1 [oneTb A (fV n)]) (hL : Dig.Libs w) : Calls Tryz.prog 17 #[.int .i64 76, .slice (some ⟨b, 0, none⟩) 1 1] w (IsV (fV n) w) := by
  have h := pv_VALUE (some ⟨b, 0, none⟩) 1 1 [oneTb A (fV n)] (h6_one A (fV n)) (ok_one n hn A) w hz hL
  rw [callV_yes (acc_one (by kernel_rfl) (.inl (by kernel_rfl))), show takenL ⟨#[110]⟩ (allL [oneTb A (fV n)]) = [takeV 110 (fV n)] from rfl, take_fault, pick_1 (by rw [list_of rfl]; decide), if_pos (show (fV n).k = 4 from rfl)] at h
  exact h
theorem pf_LEN (n : Int) (hn : 1 ≤ n ∧ n ≤ 7) (A : Option Addr) (b : Nat) (w : World) (hz : TabsR w (some ⟨b, 0, none⟩) 1 [oneTb A (fV n)]) (hL : Dig.Libs w) : Calls Tryz.prog 17 #[.int .i64 37, .slice (some ⟨b, 0, none⟩) 1 1] w (IsV (fV n) w) := by
  have h := pv_LEN (some ⟨b, 0, none⟩) 1 1 [oneTb A (fV n)] (h6_one A (fV n)) (ok_one n hn A) w hz hL
  rw [callV_yes (acc_one (by kernel_rfl) (.inl (by kernel_rfl))), show takenL ⟨#[115]⟩ (allL [oneTb A (fV n)]) = [takeV 115 (fV n)] from rfl, take_fault, pick_1 (by rw [list_of rfl]; decide), if_pos (show (fV n).k = 4 from rfl)] at h
  exact h
theorem pf_LOWER (n : Int) (hn : 1 ≤ n ∧ n ≤ 7) (A : Option Addr) (b : Nat) (w : World) (hz : TabsR w (some ⟨b, 0, none⟩) 1 [oneTb A (fV n)]) (hL : Dig.Libs w) : Calls Tryz.prog 17 #[.int .i64 38, .slice (some ⟨b, 0, none⟩) 1 1] w (IsV (fV n) w) := by
  have h := pv_LOWER (some ⟨b, 0, none⟩) 1 1 [oneTb A (fV n)] (h6_one A (fV n)) (ok_one n hn A) w hz hL
  rw [callV_yes (acc_one (by kernel_rfl) (.inl (by kernel_rfl))), show takenL ⟨#[115]⟩ (allL [oneTb A (fV n)]) = [takeV 115 (fV n)] from rfl, take_fault, pick_1 (by rw [list_of rfl]; decide), if_pos (show (fV n).k = 4 from rfl)] at h
  exact h
theorem pf_UPPER (n : Int) (hn : 1 ≤ n ∧ n ≤ 7) (A : Option Addr) (b : Nat) (w : World) (hz : TabsR w (some ⟨b, 0, none⟩) 1 [oneTb A (fV n)]) (hL : Dig.Libs w) : Calls Tryz.prog 17 #[.int .i64 75, .slice (some ⟨b, 0, none⟩) 1 1] w (IsV (fV n) w) := by
  have h := pv_UPPER (some ⟨b, 0, none⟩) 1 1 [oneTb A (fV n)] (h6_one A (fV n)) (ok_one n hn A) w hz hL
  rw [callV_yes (acc_one (by kernel_rfl) (.inl (by kernel_rfl))), show takenL ⟨#[115]⟩ (allL [oneTb A (fV n)]) = [takeV 115 (fV n)] from rfl, take_fault, pick_1 (by rw [list_of rfl]; decide), if_pos (show (fV n).k = 4 from rfl)] at h
  exact h
theorem pf_PROPER (n : Int) (hn : 1 ≤ n ∧ n ≤ 7) (A : Option Addr) (b : Nat) (w : World) (hz : TabsR w (some ⟨b, 0, none⟩) 1 [oneTb A (fV n)]) (hL : Dig.Libs w) : Calls Tryz.prog 17 #[.int .i64 52, .slice (some ⟨b, 0, none⟩) 1 1] w (IsV (fV n) w) := by
  have h := pv_PROPER (some ⟨b, 0, none⟩) 1 1 [oneTb A (fV n)] (h6_one A (fV n)) (ok_one n hn A) w hz hL
  rw [callV_yes (acc_one (by kernel_rfl) (.inl (by kernel_rfl))), show takenL ⟨#[115]⟩ (allL [oneTb A (fV n)]) = [takeV 115 (fV n)] from rfl, take_fault, pick_1 (by rw [list_of rfl]; decide), if_pos (show (fV n).k = 4 from rfl)] at h
  exact h
theorem pf_TRIM (n : Int) (hn : 1 ≤ n ∧ n ≤ 7) (A : Option Addr) (b : Nat) (w : World) (hz : TabsR w (some ⟨b, 0, none⟩) 1 [oneTb A (fV n)]) (hL : Dig.Libs w) : Calls Tryz.prog 17 #[.int .i64 73, .slice (some ⟨b, 0, none⟩) 1 1] w (IsV (fV n) w) := by
  have h := pv_TRIM (some ⟨b, 0, none⟩) 1 1 [oneTb A (fV n)] (h6_one A (fV n)) (ok_one n hn A) w hz hL
  rw [callV_yes (acc_one (by kernel_rfl) (.inl (by kernel_rfl))), show takenL ⟨#[115]⟩ (allL [oneTb A (fV n)]) = [takeV 115 (fV n)] from rfl, take_fault, pick_1 (by rw [list_of rfl]; decide), if_pos (show (fV n).k = 4 from rfl)] at h
  exact h
theorem pf_REVERSE (n : Int) (hn : 1 ≤ n ∧ n ≤ 7) (A : Option Addr) (b : Nat) (w : World) (hz : TabsR w (some ⟨b, 0, none⟩) 1 [oneTb A (fV n)]) (hL : Dig.Libs w) : Calls Tryz.prog 17 #[.int .i64 56, .slice (some ⟨b, 0, none⟩) 1 1] w (IsV (fV n) w) := by
  have h := pv_REVERSE (some ⟨b, 0, none⟩) 1 1 [oneTb A (fV n)] (h6_one A (fV n)) (ok_one n hn A) w hz hL
  rw [callV_yes (acc_one (by kernel_rfl) (.inl (by kernel_rfl))), show takenL ⟨#[115]⟩ (allL [oneTb A (fV n)]) = [takeV 115 (fV n)] from rfl, take_fault, pick_1 (by rw [list_of rfl]; decide), if_pos (show (fV n).k = 4 from rfl)] at h
  exact h
theorem pf_CODE (n : Int) (hn : 1 ≤ n ∧ n ≤ 7) (A : Option Addr) (b : Nat) (w : World) (hz : TabsR w (some ⟨b, 0, none⟩) 1 [oneTb A (fV n)]) (hL : Dig.Libs w) : Calls Tryz.prog 17 #[.int .i64 8, .slice (some ⟨b, 0, none⟩) 1 1] w (IsV (fV n) w) := by
  have h := pv_CODE (some ⟨b, 0, none⟩) 1 1 [oneTb A (fV n)] (h6_one A (fV n)) (ok_one n hn A) w hz hL
  rw [callV_yes (acc_one (by kernel_rfl) (.inl (by kernel_rfl))), show takenL ⟨#[115]⟩ (allL [oneTb A (fV n)]) = [takeV 115 (fV n)] from rfl, take_fault, pick_1 (by rw [list_of rfl]; decide), if_pos (show (fV n).k = 4 from rfl)] at h
  exact h
theorem pf_NOT (n : Int) (hn : 1 ≤ n ∧ n ≤ 7) (A : Option Addr) (b : Nat) (w : World) (hz : TabsR w (some ⟨b, 0, none⟩) 1 [oneTb A (fV n)]) : Calls Tryz.prog 17 #[.int .i64 47, .slice (some ⟨b, 0, none⟩) 1 1] w (IsV (fV n) w) := by
  have h := pv_NOT (some ⟨b, 0, none⟩) 1 1 [oneTb A (fV n)] (h6_one A (fV n)) (ok_one n hn A) w hz
  rw [callV_yes (acc_one (by kernel_rfl) (.inl (by kernel_rfl))), show takenL ⟨#[98]⟩ (allL [oneTb A (fV n)]) = [takeV 98 (fV n)] from rfl, take_fault, pick_1 (by rw [list_of rfl]; decide), if_pos (show (fV n).k = 4 from rfl)] at h
  exact h
theorem pf_SUM (n : Int) (hn : 1 ≤ n ∧ n ≤ 7) (A : Option Addr) (b : Nat) (w : World) (hz : TabsR w (some ⟨b, 0, none⟩) 1 [oneTb A (fV n)]) (hL : Dig.Libs w) : Calls Tryz.prog 17 #[.int .i64 67, .slice (some ⟨b, 0, none⟩) 1 1] w (IsV (fV n) w) := by
  have h := pv_SUM (some ⟨b, 0, none⟩) 1 1 [oneTb A (fV n)] (h6_one A (fV n)) (ok_one n hn A) w hz hL
  rw [listV_yes (acc_one (by kernel_rfl) (.inr (by kernel_rfl))), show allL [oneTb A (fV n)] = [fV n] from rfl, show fin_SUM [fV n] = fV n from congrArg pV (allV_yes (first_one rfl))] at h
  exact h
theorem pf_PRODUCT (n : Int) (hn : 1 ≤ n ∧ n ≤ 7) (A : Option Addr) (b : Nat) (w : World) (hz : TabsR w (some ⟨b, 0, none⟩) 1 [oneTb A (fV n)]) (hL : Dig.Libs w) : Calls Tryz.prog 17 #[.int .i64 51, .slice (some ⟨b, 0, none⟩) 1 1] w (IsV (fV n) w) := by
  have h := pv_PRODUCT (some ⟨b, 0, none⟩) 1 1 [oneTb A (fV n)] (h6_one A (fV n)) (ok_one n hn A) w hz hL
  rw [listV_yes (acc_one (by kernel_rfl) (.inr (by kernel_rfl))), show allL [oneTb A (fV n)] = [fV n] from rfl, show fin_PRODUCT [fV n] = fV n from congrArg pV (allV_yes (first_one rfl))] at h
  exact h
theorem pf_SUMSQ (n : Int) (hn : 1 ≤ n ∧ n ≤ 7) (A : Option Addr) (b : Nat) (w : World) (hz : TabsR w (some ⟨b, 0, none⟩) 1 [oneTb A (fV n)]) (hL : Dig.Libs w) : Calls Tryz.prog 17 #[.int .i64 70, .slice (some ⟨b, 0, none⟩) 1 1] w (IsV (fV n) w) := by
  have h := pv_SUMSQ (some ⟨b, 0, none⟩) 1 1 [oneTb A (fV n)] (h6_one A (fV n)) (ok_one n hn A) w hz hL
  rw [listV_yes (acc_one (by kernel_rfl) (.inr (by kernel_rfl))), show allL [oneTb A (fV n)] = [fV n] from rfl, show fin_SUMSQ [fV n] = fV n from congrArg pV (allV_yes (first_one rfl))] at h
  exact h
theorem pf_MIN (n : Int) (hn : 1 ≤ n ∧ n ≤ 7) (A : Option Addr) (b : Nat) (w : World) (hz : TabsR w (some ⟨b, 0, none⟩) 1 [oneTb A (fV n)]) (hL : Dig.Libs w) : Calls Tryz.prog 17 #[.int .i64 43, .slice (some ⟨b, 0, none⟩) 1 1] w (IsV (fV n) w) := by
  have h := pv_MIN (some ⟨b, 0, none⟩) 1 1 [oneTb A (fV n)] (h6_one A (fV n)) (ok_one n hn A) w hz hL
  rw [listV_yes (acc_one (by kernel_rfl) (.inr (by kernel_rfl))), show allL [oneTb A (fV n)] = [fV n] from rfl, show fin_MIN [fV n] = fV n from congrArg pV (allV_yes (first_one rfl))] at h
  exact h
theorem pf_MAX (n : Int) (hn : 1 ≤ n ∧ n ≤ 7) (A : Option Addr) (b : Nat) (w : World) (hz : TabsR w (some ⟨b, 0, none⟩) 1 [oneTb A (fV n)]) (hL : Dig.Libs w) : Calls Tryz.prog 17 #[.int .i64 40, .slice (some ⟨b, 0, none⟩) 1 1] w (IsV (fV n) w) := by
  have h := pv_MAX (some ⟨b, 0, none⟩) 1 1 [oneTb A (fV n)] (h6_one A (fV n)) (ok_one n hn A) w hz hL
  rw [listV_yes (acc_one (by kernel_rfl) (.inr (by kernel_rfl))), show allL [oneTb A (fV n)] = [fV n] from rfl, show fin_MAX [fV n] = fV n from congrArg pV (allV_yes (first_one rfl))] at h
  exact h
theorem pf_AVERAGE (n : Int) (hn : 1 ≤ n ∧ n ≤ 7) (A : Option Addr) (b : Nat) (w : World) (hz : TabsR w (some ⟨b, 0, none⟩) 1 [oneTb A (fV n)]) (hL : Dig.Libs w) : Calls Tryz.prog 17 #[.int .i64 3, .slice (some ⟨b, 0, none⟩) 1 1] w (IsV (fV n) w) := by
  have h := pv_AVERAGE (some ⟨b, 0, none⟩) 1 1 [oneTb A (fV n)] (h6_one A (fV n)) (ok_one n hn A) w hz hL
  rw [listV_yes (acc_one (by kernel_rfl) (.inr (by kernel_rfl))), show allL [oneTb A (fV n)] = [fV n] from rfl, show fin_AVERAGE [fV n] = fV n from congrArg pV (meanV_yes (first_one rfl))] at h
  exact h
theorem pf_XOR (n : Int) (hn : 1 ≤ n ∧ n ≤ 7) (A : Option Addr) (b : Nat) (w : World) (hz : TabsR w (some ⟨b, 0, none⟩) 1 [oneTb A (fV n)]) (hL : Dig.Libs w) : Calls Tryz.prog 17 #[.int .i64 78, .slice (some ⟨b, 0, none⟩) 1 1] w (IsV (fV n) w) := by
  have h := pv_XOR (some ⟨b, 0, none⟩) 1 1 [oneTb A (fV n)] (h6_one A (fV n)) (ok_one n hn A) w hz hL
  rw [listV_yes (acc_one (by kernel_rfl) (.inr (by kernel_rfl))), show allL [oneTb A (fV n)] = [fV n] from rfl, show fin_XOR [fV n] = fV n from rfl] at h
  exact h
theorem pf_CONCAT (n : Int) (hn : 1 ≤ n ∧ n ≤ 7) (A : Option Addr) (b : Nat) (w : World) (hz : TabsR w (some ⟨b, 0, none⟩) 1 [oneTb A (fV n)]) (hL : Dig.Libs w) : Calls Tryz.prog 17 #[.int .i64 12, .slice (some ⟨b, 0, none⟩) 1 1] w (IsV (fV n) w) := by
  have h := pv_CONCAT (some ⟨b, 0, none⟩) 1 1 [oneTb A (fV n)] (h6_one A (fV n)) (ok_one n hn A) w hz hL
  rw [listV_yes (acc_one (by kernel_rfl) (.inr (by kernel_rfl))), show allL [oneTb A (fV n)] = [fV n] from rfl, show fin_CONCAT [fV n] = fV n from rfl] at h
  exact h
theorem pf_MEDIAN (n : Int) (hn : 1 ≤ n ∧ n ≤ 7) (A : Option Addr) (b : Nat) (w : World) (hz : TabsR w (some ⟨b, 0, none⟩) 1 [oneTb A (fV n)]) : Calls Tryz.prog 17 #[.int .i64 41, .slice (some ⟨b, 0, none⟩) 1 1] w (IsV (fV n) w) := by
  have h := pv_MEDIAN (some ⟨b, 0, none⟩) 1 1 [oneTb A (fV n)] (h6_one A (fV n)) (ok_one n hn A) w hz
  rw [listV_yes (acc_one (by kernel_rfl) (.inr (by kernel_rfl))), show allL [oneTb A (fV n)] = [fV n] from rfl, show fin_MEDIAN [fV n] = fV n from rfl] at h
  exact h
theorem pf_MODE (n : Int) (hn : 1 ≤ n ∧ n ≤ 7) (A : Option Addr) (b : Nat) (w : World) (hz : TabsR w (some ⟨b, 0, none⟩) 1 [oneTb A (fV n)]) : Calls Tryz.prog 17 #[.int .i64 45, .slice (some ⟨b, 0, none⟩) 1 1] w (IsV (fV n) w) := by
  have h := pv_MODE (some ⟨b, 0, none⟩) 1 1 [oneTb A (fV n)] (h6_one A (fV n)) (ok_one n hn A) w hz
  rw [listV_yes (acc_one (by kernel_rfl) (.inr (by kernel_rfl))), show allL [oneTb A (fV n)] = [fV n] from rfl, show fin_MODE [fV n] = fV n from rfl] at h
  exact h
def faultFns : List Int := [1, 3, 6, 8, 12, 18, 20, 28, 37, 38, 40, 41, 43, 45, 47, 48, 51, 52, 56, 63, 65, 67, 70, 73, 74, 75, 76, 78]
theorem fault_fn {fn : Int} (hf : Fnm.fitsF fn 1 = true) (hx : ¬ (fn = 13 ∨ fn = 14 ∨ fn = 15 ∨ (29 ≤ fn ∧ fn ≤ 33))) (hk : kdF fn 0 = 118 ∨ kdF fn 0 = 108) : fn ∈ faultFns := by
  have h := of_decide_eq_true hf
  obtain ⟨k, rfl⟩ : ∃ k : Nat, fn = (k : Int) + 1 := ⟨(fn - 1).toNat, by omega⟩
  have hall : (List.range 78).all (fun k => !(Fnm.fitsF ((k : Int) + 1) 1) || [13, 14, 15, 29, 30, 31, 32, 33].contains ((k : Int) + 1) || !(kdF ((k : Int) + 1) 0 == 118 || kdF ((k : Int) + 1) 0 == 108) || faultFns.contains ((k : Int) + 1)) = true := by kernel_rfl
  have h1 := Fnm.of_all hall (k := k) (by omega)
  have e1 : ([13, 14, 15, 29, 30, 31, 32, 33] : List Int).contains ((k : Int) + 1) = false := by
    rw [Bool.eq_false_iff]
    intro hc
    have hm := List.contains_iff_mem.1 hc
    simp only [List.mem_cons, List.not_mem_nil, or_false] at hm
    omega
  have e2 : (kdF ((k : Int) + 1) 0 == 118 || kdF ((k : Int) + 1) 0 == 108) = true := by
    rcases hk with h | h <;> rw [h] <;> rfl
  rw [hf, e1, e2] at h1
  exact List.contains_iff_mem.1 (by simpa using h1)
theorem call_fault {fn : Int} (hf : Fnm.fitsF fn 1 = true) (hx : ¬ (fn = 13 ∨ fn = 14 ∨ fn = 15 ∨ (29 ≤ fn ∧ fn ≤ 33))) (hk : kdF fn 0 = 118 ∨ kdF fn 0 = 108) (n : Int) (hn : 1 ≤ n ∧ n ≤ 7) (A : Option Addr) (b : Nat) (w : World) (hz : TabsR w (some ⟨b, 0, none⟩) 1 [oneTb A (fV n)]) (hL : Dig.Libs w) :
    Calls Tryz.prog 17 #[.int .i64 fn, .slice (some ⟨b, 0, none⟩) 1 1] w (IsV (fV n) w) := by
  have h := fault_fn hf hx hk
  clear hf hx hk
  simp only [faultFns, List.mem_cons, List.not_mem_nil, or_false] at h
  rcases h with rfl | rfl | rfl | rfl | rfl | rfl | rfl | rfl | rfl | rfl | rfl | rfl | rfl | rfl | rfl | rfl | rfl | rfl | rfl | rfl | rfl | rfl | rfl | rfl | rfl | rfl | rfl | rfl
  · exact pf_ABS n hn A b w hz hL
  · exact pf_AVERAGE n hn A b w hz hL
  · exact pf_CHAR n hn A b w hz hL
  · exact pf_CODE n hn A b w hz hL
  · exact pf_CONCAT n hn A b w hz hL
  · exact pf_EVEN n hn A b w hz hL
  · exact pf_FACT n hn A b w hz hL
  · exact pf_INT n hn A b w hz hL
  · exact pf_LEN n hn A b w hz hL
  · exact pf_LOWER n hn A b w hz hL
  · exact pf_MAX n hn A b w hz hL
  · exact pf_MEDIAN n hn A b w hz
  · exact pf_MIN n hn A b w hz hL
  · exact pf_MODE n hn A b w hz
  · exact pf_NOT n hn A b w hz
  · exact pf_ODD n hn A b w hz hL
  · exact pf_PRODUCT n hn A b w hz hL
  · exact pf_PROPER n hn A b w hz hL
  · exact pf_REVERSE n hn A b w hz hL
  · exact pf_SIGN n hn A b w hz hL
  · exact pf_SQRT n hn A b w hz hL
  · exact pf_SUM n hn A b w hz hL
  · exact pf_SUMSQ n hn A b w hz hL
  · exact pf_TRIM n hn A b w hz hL
  · exact pf_TRUNC n hn A b w hz hL
  · exact pf_UPPER n hn A b w hz hL
  · exact pf_VALUE n hn A b w hz hL
  · exact pf_XOR n hn A b w hz hL
end Go.Proofs.YtebjedbppiphgaaGreatDoor.Cal
