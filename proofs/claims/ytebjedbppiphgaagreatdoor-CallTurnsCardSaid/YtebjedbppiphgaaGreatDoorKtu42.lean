/- What the program's Binary answers: binV, at any number and two values that may be.
   The reference's Call, function by function, where its values are taken one by one. Written by wip/gen20k.py.
   What the program's Call answers, function by function: of single values, of lists. Written by wip/gen21l.py. -/
import Derived.Test.YtebjedbppiphgaaGreatDoorKtu41
import Derived.Test.YtebjedbppiphgaaGreatDoorKtu30
import Derived.Test.YtebjedbppiphgaaGreatDoorKtu36
import Derived.Test.YtebjedbppiphgaaGreatDoorKtu38
import Derived.Test.YtebjedbppiphgaaGreatDoorKtu24
import Derived.Test.YtebjedbppiphgaaGreatDoorKtu21
import Derived.Test.YtebjedbppiphgaaGreatDoorKtu39
import Derived.Test.YtebjedbppiphgaaGreatDoorKtu03
import Derived.Test.YtebjedbppiphgaaGreatDoorKtu37
import Derived.Test.YtebjedbppiphgaaGreatDoorKtu40
import Derived.Test.YtebjedbppiphgaaGreatDoorKtu34
namespace Go.Proofs.YtebjedbppiphgaaGreatDoor.Cal
open Go.RowKit Kit Reg Dec Dig Val Fld
theorem two_ok {a b : Vl} (ha : Ok a) (hb : Ok b) : ∀ v ∈ [a, b], Ok v := fun v hv => by
  rcases List.mem_cons.1 hv with rfl | hv
  · exact ha
  · rw [List.mem_singleton] at hv
    rw [hv]; exact hb
theorem two_first {a b : Vl} {P : Vl → Prop} (h : P a) : ∀ (k : Nat) (u : Vl), k < 1 → [a, b][k]? = some u → P u := fun k u hk hu => by
  obtain rfl : k = 0 := by omega
  obtain rfl : a = u := by simpa using hu
  exact h
theorem take_num (v : Vl) : takeV 110 v = numT v := rfl
theorem take_txt (v : Vl) : takeV 115 v = txtT v := rfl
theorem take_as (v : Vl) : takeV 120 v = v := rfl
theorem reckoned_fault (op : Int) (a b : Vl) (ha : Ok a) (hb : Ok b) (p : Nat) (v : Vl) (hv : [a, b][p]? = some v) (h4 : (numT v).k = 4) (hno : ∀ (k : Nat) (u : Vl), k < p → [a, b][k]? = some u → ¬ (numT u).k = 4) (w : World) (hL : Dig.Libs w) :
    Calls Tryz.prog 28 #[.int .i64 op, .agg #[.int .i64 a.k, .int .i64 a.n, .string a.t], .agg #[.int .i64 b.k, .int .i64 b.n, .string b.t]] w (IsV (numT v) w) :=
  reckoned_bad op a b ha.2 hb.2 (numT v) h4 w fun A2 w1 hb1 hz => numbers_bad A2 2 2 [a, b] (two_ok ha hb) p v hv h4 hno w1 hz (hL.grown hb1)
theorem joined_fault (a b : Vl) (ha : Ok a) (hb : Ok b) (p : Nat) (v : Vl) (hv : [a, b][p]? = some v) (h4 : (txtT v).k = 4) (hno : ∀ (k : Nat) (u : Vl), k < p → [a, b][k]? = some u → ¬ (txtT u).k = 4) (w : World) (hL : Dig.Libs w) :
    Calls Tryz.prog 29 #[.agg #[.int .i64 a.k, .int .i64 a.n, .string a.t], .agg #[.int .i64 b.k, .int .i64 b.n, .string b.t]] w (IsV (txtT v) w) :=
  joined_bad a b ha.2 hb.2 (txtT v) h4 w fun A2 w1 hb1 hz => texts_bad A2 2 2 [a, b] (two_ok ha hb) p v hv h4 hno w1 hz (hL.grown hb1)
theorem reckoned_c (k : Nat) (hk : k ≤ 4) (a b : Vl) (ha : Ok a) (hb : Ok b) (w : World) (hL : Dig.Libs w) :
    Calls Tryz.prog 28 #[.int .i64 ((k : Int) + 1), .agg #[.int .i64 a.k, .int .i64 a.n, .string a.t], .agg #[.int .i64 b.k, .int .i64 b.n, .string b.t]] w (IsV (if (numT a).k = 4 then numT a else if (numT b).k = 4 then numT b else takenV k (numT a) (numT b)) w) := by
  rcases num_ways ha with ⟨p, hp, p1, p2⟩ | ⟨c, hc, _⟩
  · rcases num_ways hb with ⟨q, hq, q1, q2⟩ | ⟨c, hc, _⟩
    · rw [if_neg (by rw [hp]; simp [nV]), if_neg (by rw [hq]; simp [nV]), hp, hq]
      have HN : ∀ A2 w1, Below w.heap.size w w1 → ValsR w1 A2 2 [a, b] → Calls Tryz.prog 77 #[.slice A2 2 2] w1 fun e w' => ∃ A3 c3, e = .returned (.tuple #[.slice A3 2 c3, .agg #[.int .i64 0, .int .i64 0, .string ⟨#[]⟩]]) ∧ IntsR w' A3 [p, q] ∧ Below w1.heap.size w1 w' :=
        fun A2 w1 hb1 hz => numbers_reads A2 2 2 [a, b] (two_ok ha hb) [p, q] (by simp [hp, hq]) w1 hz (hL.grown hb1)
      have hk5 : k = 0 ∨ k = 1 ∨ k = 2 ∨ k = 3 ∨ k = 4 := by omega
      rcases hk5 with rfl | rfl | rfl | rfl | rfl
      · exact reckoned_ADD a b ha.2 hb.2 p q p1 p2 q1 q2 w HN
      · exact reckoned_SUB a b ha.2 hb.2 p q p1 p2 q1 q2 w HN
      · exact reckoned_MUL a b ha.2 hb.2 p q p1 p2 q1 q2 w HN
      · exact reckoned_DIV a b ha.2 hb.2 p q p1 p2 q1 q2 w HN
      · exact reckoned_POW a b ha.2 hb.2 p q p1 p2 q1 q2 w HN
    · have h4 : (numT b).k = 4 := by rw [hc]; rfl
      have ha4 : ¬ (numT a).k = 4 := by rw [hp]; simp [nV]
      rw [if_neg ha4, if_pos h4]
      exact reckoned_fault _ a b ha hb 1 b rfl h4 (two_first (P := fun u => ¬ (numT u).k = 4) ha4) w hL
  · have h4 : (numT a).k = 4 := by rw [hc]; rfl
    rw [if_pos h4]
    exact reckoned_fault _ a b ha hb 0 a rfl h4 (fun k u hk => absurd hk (Nat.not_lt_zero k)) w hL
theorem joined_c (a b : Vl) (ha : Ok a) (hb : Ok b) (w : World) (hL : Dig.Libs w) :
    Calls Tryz.prog 29 #[.agg #[.int .i64 a.k, .int .i64 a.n, .string a.t], .agg #[.int .i64 b.k, .int .i64 b.n, .string b.t]] w (IsV (if (txtT a).k = 4 then txtT a else if (txtT b).k = 4 then txtT b else takenV 5 (txtT a) (txtT b)) w) := by
  rcases txt_ways ha with ⟨la, hla, la9, ea, _⟩ | ⟨c, hc, _⟩
  · rcases txt_ways hb with ⟨lb, hlb, lb9, eb, _⟩ | ⟨c, hc, _⟩
    · have na : ¬ (txtT a).k = 4 := by rw [hla]; simp [sV]
      have nb : ¬ (txtT b).k = 4 := by rw [hlb]; simp [sV]
      rw [if_neg na, if_neg nb, hla, hlb]
      have e : takenV 5 (sV la) (sV lb) = tV (Txt.roomD (la ++ lb)) := by simp [takenV, sV]
      rw [e]
      refine joined_in a b ha.2 hb.2 la lb la9 lb9 w fun A2 w1 hb1 hz => ?_
      have h := texts_good A2 2 2 [a, b] (two_ok ha hb) (fun v hv => by
        rcases List.mem_cons.1 hv with rfl | hv
        · exact na
        · rw [List.mem_singleton] at hv
          rw [hv]; exact nb) w1 hz (hL.grown hb1)
      rw [show [a, b].map wordsF = [la, lb] by simp [ea, eb]] at h
      exact h
    · have h4 : (txtT b).k = 4 := by rw [hc]; rfl
      have ha4 : ¬ (txtT a).k = 4 := by rw [hla]; simp [sV]
      rw [if_neg ha4, if_pos h4]
      exact joined_fault a b ha hb 1 b rfl h4 (two_first (P := fun u => ¬ (txtT u).k = 4) ha4) w hL
  · have h4 : (txtT a).k = 4 := by rw [hc]; rfl
    rw [if_pos h4]
    exact joined_fault a b ha hb 0 a rfl h4 (fun k u hk => absurd hk (Nat.not_lt_zero k)) w hL
theorem compared_c (k : Nat) (h6 : 6 ≤ k) (h12 : k < 12) (a b : Vl) (ha : Ok a) (hb : Ok b) (w : World) :
    Calls Tryz.prog 30 #[.int .i64 ((k : Int) + 1), .agg #[.int .i64 a.k, .int .i64 a.n, .string a.t], .agg #[.int .i64 b.k, .int .i64 b.n, .string b.t]] w (IsV (if a.k = 4 then a else if b.k = 4 then b else takenV k a b) w) := by
  by_cases a4 : a.k = 4
  · rw [if_pos a4]
    exact compared_a _ a.k a.n a.t b.k b.n b.t a4 w
  rw [if_neg a4]
  by_cases b4 : b.k = 4
  · rw [if_pos b4]
    exact compared_b _ a.k a.n a.t b.k b.n b.t a4 b4 w
  rw [if_neg b4]
  have hr := cmp_ways3 a b
  have HC := fun w1 (_ : Below w.heap.size w w1) => compare_w a b ha.1 hb.1 a4 b4 w1
  have hk6 : k = 6 ∨ k = 7 ∨ k = 8 ∨ k = 9 ∨ k = 10 ∨ k = 11 := by omega
  rcases hk6 with rfl | rfl | rfl | rfl | rfl | rfl
  · exact compared_EQ a.k a.n a.t b.k b.n b.t a4 b4 _ hr w HC
  · exact compared_NE a.k a.n a.t b.k b.n b.t a4 b4 _ hr w HC
  · exact compared_LT a.k a.n a.t b.k b.n b.t a4 b4 _ hr w HC
  · exact compared_LE a.k a.n a.t b.k b.n b.t a4 b4 _ hr w HC
  · exact compared_GT a.k a.n a.t b.k b.n b.t a4 b4 _ hr w HC
  · exact compared_GE a.k a.n a.t b.k b.n b.t a4 b4 _ hr w HC
/-- any operator of any two values -/
theorem bin_c (op : Int) (a b : Vl) (ha : Ok a) (hb : Ok b) (w : World) (hL : Dig.Libs w) :
    Calls Tryz.prog 9 #[.int .i64 op, .agg #[.int .i64 a.k, .int .i64 a.n, .string a.t], .agg #[.int .i64 b.k, .int .i64 b.n, .string b.t]] w (IsV (binV op a b) w) := by
  by_cases ho : op < 1 ∨ 12 < op
  · rw [binV, if_pos ho]
    exact bin_out op ho a.k a.n a.t b.k b.n b.t w
  · obtain ⟨k, rfl⟩ : ∃ k : Nat, op = (k : Int) + 1 := ⟨(op - 1).toNat, by omega⟩
    have hk : k < 12 := by omega
    rw [binV_at hk]
    by_cases h4 : k ≤ 4
    · have e : kdN k = 110 := by
        have : k = 0 ∨ k = 1 ∨ k = 2 ∨ k = 3 ∨ k = 4 := by omega
        rcases this with rfl | rfl | rfl | rfl | rfl <;> rfl
      rw [e, take_num, take_num]
      exact bin_r _ (by omega) a.k a.n a.t b.k b.n b.t _ w fun w1 hb1 => reckoned_c k h4 a b ha hb w1 (hL.grown hb1)
    · by_cases h5 : k = 5
      · subst h5
        rw [show kdN 5 = 115 from rfl, take_txt, take_txt]
        exact bin_j a.k a.n a.t b.k b.n b.t _ w fun w1 hb1 => joined_c a b ha hb w1 (hL.grown hb1)
      · have e : kdN k = 120 := by
          have : k = 6 ∨ k = 7 ∨ k = 8 ∨ k = 9 ∨ k = 10 ∨ k = 11 := by omega
          rcases this with rfl | rfl | rfl | rfl | rfl | rfl <;> rfl
        rw [e, take_as, take_as]
        exact bin_cc _ (by omega) a.k a.n a.t b.k b.n b.t _ w fun w1 _ => compared_c k (by omega) hk a b ha hb w1
end Go.Proofs.YtebjedbppiphgaaGreatDoor.Cal
namespace Go.Proofs.YtebjedbppiphgaaGreatDoor.Cal
open Go.RowKit Kit Reg Dec Dig Val Fld
def at0 (X : List Vl) : Vl := X.getD 0 ⟨0, 0, ⟨#[]⟩⟩
def at1 (X : List Vl) : Vl := X.getD 1 ⟨0, 0, ⟨#[]⟩⟩
theorem fit_is {k m : Nat} (hk : k < 78) (hl : Fnm.lo k = m) (hh : Fnm.hi k = m) (n : Nat) (h : Fnm.fitsF ((k : Int) + 1) (n : Int) = true) : n = m := by
  rw [Fnm.fits_k hk, hl, hh] at h
  simp only [Bool.and_eq_true, decide_eq_true_eq] at h
  omega
theorem kd_is {fn : Int} {m : Nat} (h : (List.range m).all (fun i => kdF fn i == 118) = true) : ∀ i : Nat, i < m → kdF fn i = 118 := fun _ hi => eq_of_beq (Fnm.of_all h hi)
theorem list_of {kt : ByteArray} {l : List UInt8} (h : kt.data.toList = l) : kt.toList = l := by rw [Lib.toList_data, h]
/-- FIND -/
noncomputable def fin_FIND (X : List Vl) : Vl := findV (at0 X).t.data.toList (at1 X).t.data.toList
end Go.Proofs.YtebjedbppiphgaaGreatDoor.Cal
namespace Go.Proofs.YtebjedbppiphgaaGreatDoor.Cal
open Go.RowKit Kit Reg Dec Dig Val Fld
theorem callV_yes {fn : Int} {kt : ByteArray} {fin : List Vl → Vl} {n : Nat} {T : List Tb} (h : AccB fn n T) : callV fn kt fin n T = pickV (kt.toList != [97]) (takenL kt (allL T)) fin := by
  unfold callV
  rw [if_neg (by rw [h.1]; decide), if_pos h.2]
theorem callV_no {fn : Int} {kt : ByteArray} {fin : List Vl → Vl} {n : Nat} {T : List Tb} (h : ¬ AccB fn n T) : callV fn kt fin n T = fV 2 := by
  unfold callV
  by_cases hf : Fnm.fitsF fn (n : Int) = false
  · rw [if_pos hf]
  · rw [if_neg hf, if_neg fun ha => h ⟨by simpa using hf, ha⟩]
/-- tables of one value each -/
theorem ones_of {fn : Int} {m : Nat} {T : List Tb} {w : World} {A : Option Addr} (h : AccB fn m T) (hk : ∀ i : Nat, i < m → kdF fn i = 118) (h6 : ∀ t ∈ T, t.n ≤ 60) (hz : TabsR w A m T) : (allL T).length = m := by
  rw [← hz.1]
  refine allL_ones fun t ht => ?_
  obtain ⟨i, hi⟩ := List.mem_iff_getElem?.1 ht
  have h1 := (hz.reads hi (by have := h6 t ht; omega)).1
  rw [h1]
  exact (h.2 i t hi).2.2.2.2 (hk i (by rw [← hz.1]; exact (List.getElem?_eq_some_iff.1 hi).1))
theorem len_two {L : List Vl} (h : L.length = 2) : ∃ a b, L = [a, b] := by
  match L, h with
  | [a, b], _ => exact ⟨a, b, rfl⟩
theorem pick_2 {kt : ByteArray} (hk : (kt.toList != [97]) = true) {x y : Vl} {fin : List Vl → Vl} : pickV (kt.toList != [97]) [x, y] fin = if x.k = 4 then x else if y.k = 4 then y else fin [x, y] := by
  rw [hk]
  unfold pickV
  rw [if_pos rfl]
  by_cases h : x.k = 4
  · simp [h]
  · by_cases h2 : y.k = 4 <;> simp [h, h2]
theorem txt_cases {v : Vl} (hv : Ok v) : ((txtT v).k = 4) ∨ ∃ t : ByteArray, ¬ (txtT v).k = 4 ∧ txtT v = ⟨2, 0, t⟩ ∧ t.size ≤ 256 := by
  rcases txt_ways hv with ⟨l, h, h1, _⟩ | ⟨c, h, _⟩
  · exact .inr ⟨⟨l.toArray⟩, by rw [h]; simp [sV], h, h1⟩
  · exact .inl (by rw [h]; rfl)
theorem below_1 {a : Vl} {r : List Vl} {P : Vl → Prop} (ha : P a) : ∀ (k : Nat) (u : Vl), k < 1 → (a :: r)[k]? = some u → P u := fun k u hk hu => by
  obtain rfl : k = 0 := by omega
  obtain rfl : a = u := by simpa using hu
  exact ha
section
variable (A : Option Addr) (n cap : Nat) (T : List Tb) (h6 : ∀ t ∈ T, t.n ≤ 60) (hok : ∀ v ∈ allL T, Ok v) (w : World) (hz : TabsR w A n T) (hL : Dig.Libs w)
include h6 hok hz hL
/-- what texts' contracts ask of the list of texts -/
def ReadsT (A2 : Option Addr) (c2 m : Nat) (ts : List ByteArray) (w1 : World) : Prop := ∀ w2, Below w1.heap.size w1 w2 → Calls Tryz.prog 84 #[.slice A2 m c2] w2 fun e w' => ∃ A3 c3, e = .returned (.tuple #[.slice A3 m c3, .agg #[.int .i64 0, .int .i64 0, .string ⟨#[]⟩]]) ∧ StrsB w' A3 ts ∧ Below w2.heap.size w2 w'
theorem pv_t2 (fn : Int) (fin : List Vl → Vl) (hfn : fn = 19 ∨ fn = 21) (hfit : ∀ n : Nat, Fnm.fitsF fn (n : Int) = true → n = 2) (hk : ∀ i : Nat, i < 2 → kdF fn i = 118)
    (HO : ∀ (t s : ByteArray), t.size ≤ 256 → s.size ≤ 256 → ∀ A2 c2 w1, ReadsT A2 c2 2 [t, s] w1 → Calls Tryz.prog 51 #[.int .i64 fn, .slice A2 2 c2] w1 (IsV (fin [⟨2, 0, t⟩, ⟨2, 0, s⟩]) w1)) :
    Calls Tryz.prog 17 #[.int .i64 fn, .slice A n cap] w (IsV (callV fn ⟨#[115, 115]⟩ fin n T) w) := by
  by_cases hacc : AccB fn n T
  · rw [callV_yes hacc]
    obtain rfl := hfit n hacc.1
    obtain ⟨a, b, e⟩ := len_two (ones_of hacc hk h6 hz)
    have ha : Ok a := hok a (by rw [e]; simp)
    have hb' : Ok b := hok b (by rw [e]; simp)
    refine pcall_txt fn (by omega) A 2 cap T h6 hacc _ w hz fun A2 c2 w1 hb hz1 => ?_
    rw [e] at hz1 ⊢
    rw [show takenL ⟨#[115, 115]⟩ [a, b] = [txtT a, txtT b] from rfl, pick_2 (by rw [list_of rfl]; decide)]
    have hL1 := hL.grown hb
    rcases txt_cases ha with h4 | ⟨t, h4, ht, t9⟩
    · rw [if_pos h4]
      exact oftexts_bad fn A2 2 c2 _ h4 w1 fun w2 hb2 => texts_bad A2 2 c2 [a, b] (two_ok ha hb') 0 a rfl h4 (fun k u hk => absurd hk (Nat.not_lt_zero k)) w2 (hz1.on hb2) (hL1.grown hb2)
    · rw [if_neg h4]
      rcases txt_cases hb' with g4 | ⟨s, g4, hs, s9⟩
      · rw [if_pos g4]
        exact oftexts_bad fn A2 2 c2 _ g4 w1 fun w2 hb2 => texts_bad A2 2 c2 [a, b] (two_ok ha hb') 1 b rfl g4 (below_1 (P := fun u => ¬ (txtT u).k = 4) h4) w2 (hz1.on hb2) (hL1.grown hb2)
      · rw [if_neg g4, ht, hs]
        exact HO t s t9 s9 A2 c2 w1 fun w2 hb2 => texts_reads A2 2 c2 [a, b] (two_ok ha hb') [t, s] (by simp) (by simp [ht, hs]) w2 (hz1.on hb2) (hL1.grown hb2)
  · rw [callV_no hacc]
    exact pcall_no fn A n cap T h6 hacc w hz
theorem pv_FIND : Calls Tryz.prog 17 #[.int .i64 21, .slice A n cap] w (IsV (callV 21 ⟨#[115, 115]⟩ fin_FIND n T) w) :=
  pv_t2 A n cap T h6 hok w hz hL 21 fin_FIND (by omega) (fun n h => fit_is (k := 20) (m := 2) (by decide) (by kernel_rfl) (by kernel_rfl) n h) (kd_is (by kernel_rfl)) fun t s t9 s9 A2 c2 w1 h => ptx_FIND A2 c2 t s t9 s9 w1 h
end
end Go.Proofs.YtebjedbppiphgaaGreatDoor.Cal
