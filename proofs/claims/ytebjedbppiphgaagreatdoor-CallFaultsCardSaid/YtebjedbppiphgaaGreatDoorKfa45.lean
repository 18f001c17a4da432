/- What the program's Call answers, function by function: of single values, of lists. Written by wip/gen21l.py. -/
import Derived.Test.YtebjedbppiphgaaGreatDoorKfa35
import Derived.Test.YtebjedbppiphgaaGreatDoorKfa40
import Derived.Test.YtebjedbppiphgaaGreatDoorKfa41
import Derived.Test.YtebjedbppiphgaaGreatDoorKfa44
import Derived.Test.YtebjedbppiphgaaGreatDoorKfa32
namespace Go.Proofs.YtebjedbppiphgaaGreatDoor.Cal
open Go.RowKit Kit Reg Dec Dig Val Fld
theorem callV_yes {fn : Int} {kt : ByteArray} {fin : List Vl → Vl} {n : Nat} {T : List Tb} (h : AccB fn n T) : callV fn kt fin n T = pickV (kt.toList != [97]) (takenL kt (allL T)) fin := by
  unfold callV
  rw [if_neg (by rw [h.1]; decide), if_pos h.2]
theorem callV_no {fn : Int} {kt : ByteArray} {fin : List Vl → Vl} {n : Nat} {T : List Tb} (h : ¬ AccB fn n T) : callV fn kt fin n T = fV 2 := by
  unfold callV
  by_cases hf : Fnm.fitsF fn (n : Int) = false
  · rw [if_pos hf]
  · rw [if_neg hf, if_neg fun ha => h ⟨by simpa using hf, ha⟩]
theorem listV_yes {fn : Int} {fin : List Vl → Vl} {n : Nat} {T : List Tb} (h : AccB fn n T) : listV fn fin n T = fin (allL T) := by
  unfold listV
  rw [if_neg (by rw [h.1]; decide), if_pos h.2]
theorem listV_no {fn : Int} {fin : List Vl → Vl} {n : Nat} {T : List Tb} (h : ¬ AccB fn n T) : listV fn fin n T = fV 2 := by
  unfold listV
  by_cases hf : Fnm.fitsF fn (n : Int) = false
  · rw [if_pos hf]
  · rw [if_neg hf, if_neg fun ha => h ⟨by simpa using hf, ha⟩]
/-- tables of one value each -/
theorem ones_of {fn : Int} {m : Nat} {T : List Tb} {w : World} {A : Option Addr} (h : AccB fn m T) (hk : ∀ i : Nat, i < m → kdF fn i = 118) (h6 : ∀ t ∈ T, t.n ≤ 60) (hz : TabsR w A m T) : (allL T).length = m := by
  rw [← hz.1]
  refine allL_ones fun t ht => ?_
  obtain ⟨i, hi⟩ := List.mem_iff_getElem?.1 ht
  have h1 := (hz.reads hi (by have := h6 t ht; omega)).1
  rw [h1]
  exact (h.2 i t hi).2.2.2.2 (hk i (by rw [← hz.1]; exact (List.getElem?_eq_some_iff.1 hi).1))
theorem len_one {L : List Vl} (h : L.length = 1) : ∃ a, L = [a] := List.length_eq_one_iff.1 h
theorem len_two {L : List Vl} (h : L.length = 2) : ∃ a b, L = [a, b] := by
  match L, h with
  | [a, b], _ => exact ⟨a, b, rfl⟩
/-- what is picked -/
theorem pick_1 {kt : ByteArray} (hk : (kt.toList != [97]) = true) {x : Vl} {fin : List Vl → Vl} : pickV (kt.toList != [97]) [x] fin = if x.k = 4 then x else fin [x] := by
  rw [hk]
  unfold pickV
  rw [if_pos rfl]
  by_cases h : x.k = 4 <;> simp [h]
theorem pick_2 {kt : ByteArray} (hk : (kt.toList != [97]) = true) {x y : Vl} {fin : List Vl → Vl} : pickV (kt.toList != [97]) [x, y] fin = if x.k = 4 then x else if y.k = 4 then y else fin [x, y] := by
  rw [hk]
  unfold pickV
  rw [if_pos rfl]
  by_cases h : x.k = 4
  · simp [h]
  · by_cases h2 : y.k = 4 <;> simp [h, h2]
theorem num_cases {v : Vl} (hv : Ok v) : ((numT v).k = 4) ∨ ∃ q, ¬ (numT v).k = 4 ∧ numT v = nV q ∧ -9223372036854775807 ≤ q ∧ q ≤ 9223372036854775807 := by
  rcases num_ways hv with ⟨x, h, h1, h2⟩ | ⟨c, h, _⟩
  · exact .inr ⟨x, by rw [h]; simp [nV], h, h1, h2⟩
  · exact .inl (by rw [h]; rfl)
theorem txt_cases {v : Vl} (hv : Ok v) : ((txtT v).k = 4) ∨ ∃ t : ByteArray, ¬ (txtT v).k = 4 ∧ txtT v = ⟨2, 0, t⟩ ∧ t.size ≤ 256 := by
  rcases txt_ways hv with ⟨l, h, h1, _⟩ | ⟨c, h, _⟩
  · exact .inr ⟨⟨l.toArray⟩, by rw [h]; simp [sV], h, h1⟩
  · exact .inl (by rw [h]; rfl)
theorem below_1 {a : Vl} {r : List Vl} {P : Vl → Prop} (ha : P a) : ∀ (k : Nat) (u : Vl), k < 1 → (a :: r)[k]? = some u → P u := fun k u hk hu => by
  obtain rfl : k = 0 := by omega
  obtain rfl : a = u := by simpa using hu
  exact ha
/-- a function of one number -/
theorem pv_one (A : Option Addr) (n : Nat) (cap : Nat) (T : List Tb) (h6 : ∀ t ∈ T, t.n ≤ 60) (hok : ∀ v ∈ allL T, Ok v) (w : World) (hz : TabsR w A n T) (hL : Dig.Libs w) (fn : Int) (fin : List Vl → Vl) (hfn : fn = 1 ∨ fn = 63 ∨ fn = 28 ∨ fn = 74 ∨ fn = 18 ∨ fn = 48 ∨ fn = 65 ∨ fn = 20 ∨ fn = 6 ∨ fn = 76) (hfit : ∀ n : Nat, Fnm.fitsF fn (n : Int) = true → n = 1) (hk : ∀ i : Nat, i < 1 → kdF fn i = 118)
    (HO : ∀ x : Int, -9223372036854775807 ≤ x → x ≤ 9223372036854775807 → ∀ w1, Calls Tryz.prog 99 #[.int .i64 fn, .int .i64 x] w1 (IsV (fin [nV x]) w1)) :
    Calls Tryz.prog 17 #[.int .i64 fn, .slice A n cap] w (IsV (callV fn ⟨#[110]⟩ fin n T) w) := by
  by_cases hacc : AccB fn n T
  · rw [callV_yes hacc]
    obtain rfl := hfit n hacc.1
    obtain ⟨a, e⟩ := len_one (ones_of hacc hk h6 hz)
    have ha : Ok a := hok a (by rw [e]; simp)
    refine pcall_num fn (by omega) A 1 cap T h6 hacc _ w hz fun A2 c2 w1 hb hz1 => ?_
    rw [e] at hz1 ⊢
    rw [show takenL ⟨#[110]⟩ [a] = [numT a] from rfl, pick_1 (by rw [list_of rfl]; decide)]
    rcases num_cases ha with h4 | ⟨q, h4, hq, q1, q2⟩
    · rw [if_pos h4]
      exact ofnumbers_bad fn A2 1 c2 _ h4 w1 fun w2 hb2 => numbers_bad A2 1 c2 [a] (fun v hv => by rw [List.mem_singleton.1 hv]; exact ha) 0 a rfl h4 (fun k u hk => absurd hk (Nat.not_lt_zero k)) w2 (hz1.on hb2) ((hL.grown hb).grown hb2)
    · rw [if_neg h4, hq]
      exact ofnumbers_one fn A2 c2 q _ w1 (fun w2 hb2 => numbers_reads A2 1 c2 [a] (fun v hv => by rw [List.mem_singleton.1 hv]; exact ha) [q] (by simp [hq]) w2 (hz1.on hb2) ((hL.grown hb).grown hb2)) fun w2 _ => HO q q1 q2 w2
  · rw [callV_no hacc]
    exact pcall_no fn A n cap T h6 hacc w hz
/-- what texts' contracts ask of the list of texts -/
def ReadsT (A2 : Option Addr) (c2 m : Nat) (ts : List ByteArray) (w1 : World) : Prop := ∀ w2, Below w1.heap.size w1 w2 → Calls Tryz.prog 84 #[.slice A2 m c2] w2 fun e w' => ∃ A3 c3, e = .returned (.tuple #[.slice A3 m c3, .agg #[.int .i64 0, .int .i64 0, .string ⟨#[]⟩]]) ∧ StrsB w' A3 ts ∧ Below w2.heap.size w2 w'
/-- a function of one text -/
theorem pv_t1 (A : Option Addr) (n : Nat) (cap : Nat) (T : List Tb) (h6 : ∀ t ∈ T, t.n ≤ 60) (hok : ∀ v ∈ allL T, Ok v) (w : World) (hz : TabsR w A n T) (hL : Dig.Libs w) (fn : Int) (fin : List Vl → Vl) (hfn : fn = 37 ∨ fn = 38 ∨ fn = 75 ∨ fn = 52 ∨ fn = 73 ∨ fn = 56 ∨ fn = 8) (hfit : ∀ n : Nat, Fnm.fitsF fn (n : Int) = true → n = 1) (hk : ∀ i : Nat, i < 1 → kdF fn i = 118)
    (HO : ∀ (t : ByteArray), t.size ≤ 256 → ∀ A2 c2 w1, ReadsT A2 c2 1 [t] w1 → Calls Tryz.prog 51 #[.int .i64 fn, .slice A2 1 c2] w1 (IsV (fin [⟨2, 0, t⟩]) w1)) :
    Calls Tryz.prog 17 #[.int .i64 fn, .slice A n cap] w (IsV (callV fn ⟨#[115]⟩ fin n T) w) := by
  by_cases hacc : AccB fn n T
  · rw [callV_yes hacc]
    obtain rfl := hfit n hacc.1
    obtain ⟨a, e⟩ := len_one (ones_of hacc hk h6 hz)
    have ha : Ok a := hok a (by rw [e]; simp)
    refine pcall_txt fn (by omega) A 1 cap T h6 hacc _ w hz fun A2 c2 w1 hb hz1 => ?_
    rw [e] at hz1 ⊢
    rw [show takenL ⟨#[115]⟩ [a] = [txtT a] from rfl, pick_1 (by rw [list_of rfl]; decide)]
    rcases txt_cases ha with h4 | ⟨t, h4, ht, t9⟩
    · rw [if_pos h4]
      exact oftexts_bad fn A2 1 c2 _ h4 w1 fun w2 hb2 => texts_bad A2 1 c2 [a] (fun v hv => by rw [List.mem_singleton.1 hv]; exact ha) 0 a rfl h4 (fun k u hk => absurd hk (Nat.not_lt_zero k)) w2 (hz1.on hb2) ((hL.grown hb).grown hb2)
    · rw [if_neg h4, ht]
      exact HO t t9 A2 c2 w1 fun w2 hb2 => texts_reads A2 1 c2 [a] (fun v hv => by rw [List.mem_singleton.1 hv]; exact ha) [t] (by simp) (by simp [ht]) w2 (hz1.on hb2) ((hL.grown hb).grown hb2)
  · rw [callV_no hacc]
    exact pcall_no fn A n cap T h6 hacc w hz
theorem pv_t2 (A : Option Addr) (n : Nat) (cap : Nat) (T : List Tb) (h6 : ∀ t ∈ T, t.n ≤ 60) (hok : ∀ v ∈ allL T, Ok v) (w : World) (hz : TabsR w A n T) (hL : Dig.Libs w) (fn : Int) (fin : List Vl → Vl) (hfn : fn = 19 ∨ fn = 21) (hfit : ∀ n : Nat, Fnm.fitsF fn (n : Int) = true → n = 2) (hk : ∀ i : Nat, i < 2 → kdF fn i = 118)
    (HO : ∀ (t s : ByteArray), t.size ≤ 256 → s.size ≤ 256 → ∀ A2 c2 w1, ReadsT A2 c2 2 [t, s] w1 → Calls Tryz.prog 51 #[.int .i64 fn, .slice A2 2 c2] w1 (IsV (fin [⟨2, 0, t⟩, ⟨2, 0, s⟩]) w1)) :
    Calls Tryz.prog 17 #[.int .i64 fn, .slice A n cap] w (IsV (callV fn ⟨#[115, 115]⟩ fin n T) w) := by
  by_cases hacc : AccB fn n T
  · rw [callV_yes hacc]
    obtain rfl := hfit n hacc.1
    obtain ⟨a, b, e⟩ := len_two (ones_of hacc hk h6 hz)
    have ha : Ok a := hok a (by rw [e]; simp)
    have hb' : Ok b := hok b (by rw [e]; simp)
    refine pcall_txt fn (by omega) A 2 cap T h6 hacc _ w hz fun A2 c2 w1 hb hz1 => ?_
    rw [e] at hz1 ⊢
    rw [show takenL ⟨#[115, 115]⟩ [a, b] = [txtT a, txtT b] from rfl, pick_2 (by rw [list_of rfl]; decide)]
    have hL1 := hL.grown hb
    rcases txt_cases ha with h4 | ⟨t, h4, ht, t9⟩
    · rw [if_pos h4]
      exact oftexts_bad fn A2 2 c2 _ h4 w1 fun w2 hb2 => texts_bad A2 2 c2 [a, b] (two_ok ha hb') 0 a rfl h4 (fun k u hk => absurd hk (Nat.not_lt_zero k)) w2 (hz1.on hb2) (hL1.grown hb2)
    · rw [if_neg h4]
      rcases txt_cases hb' with g4 | ⟨s, g4, hs, s9⟩
      · rw [if_pos g4]
        exact oftexts_bad fn A2 2 c2 _ g4 w1 fun w2 hb2 => texts_bad A2 2 c2 [a, b] (two_ok ha hb') 1 b rfl g4 (below_1 (P := fun u => ¬ (txtT u).k = 4) h4) w2 (hz1.on hb2) (hL1.grown hb2)
      · rw [if_neg g4, ht, hs]
        exact HO t s t9 s9 A2 c2 w1 fun w2 hb2 => texts_reads A2 2 c2 [a, b] (two_ok ha hb') [t, s] (by simp) (by simp [ht, hs]) w2 (hz1.on hb2) (hL1.grown hb2)
  · rw [callV_no hacc]
    exact pcall_no fn A n cap T h6 hacc w hz
/-- a function of all values -/
theorem pv_all (A : Option Addr) (n : Nat) (cap : Nat) (T : List Tb) (h6 : ∀ t ∈ T, t.n ≤ 60) (w : World) (hz : TabsR w A n T) (hL : Dig.Libs w) (fn : Int) (fin : List Vl → Vl) (hfn : fn = 67 ∨ fn = 51 ∨ fn = 70 ∨ fn = 43 ∨ fn = 40 ∨ fn = 3 ∨ fn = 13 ∨ fn = 14 ∨ fn = 15 ∨ fn = 12 ∨ fn = 78)
    (HO : ∀ A2 m c2 w1, ValsR w1 A2 m (allL T) → Dig.Libs w1 → Calls Tryz.prog 55 #[.int .i64 fn, .slice A2 m c2] w1 (IsV (fin (allL T)) w1)) :
    Calls Tryz.prog 17 #[.int .i64 fn, .slice A n cap] w (IsV (listV fn fin n T) w) := by
  by_cases hacc : AccB fn n T
  · rw [listV_yes hacc]
    exact pcall_all fn (by omega) A n cap T h6 hacc _ w hz fun A2 c2 w1 hb hz1 => HO A2 _ c2 w1 hz1 (hL.grown hb)
  · rw [listV_no hacc]
    exact pcall_no fn A n cap T h6 hacc w hz
theorem pv_many (A : Option Addr) (n : Nat) (cap : Nat) (T : List Tb) (h6 : ∀ t ∈ T, t.n ≤ 60) (w : World) (hz : TabsR w A n T) (fn : Int) (fin : List Vl → Vl) (hfn : fn = 41 ∨ fn = 45)
    (HO : ∀ A2 m c2 w1, ValsR w1 A2 m (allL T) → Calls Tryz.prog 56 #[.int .i64 fn, .slice A2 m c2] w1 (IsV (fin (allL T)) w1)) :
    Calls Tryz.prog 17 #[.int .i64 fn, .slice A n cap] w (IsV (listV fn fin n T) w) := by
  by_cases hacc : AccB fn n T
  · rw [listV_yes hacc]
    exact pcall_many fn hfn A n cap T h6 hacc _ w hz fun A2 c2 w1 _ hz1 => HO A2 _ c2 w1 hz1
  · rw [listV_no hacc]
    exact pcall_no fn A n cap T h6 hacc w hz
theorem pv_ABS (A : Option Addr) (n : Nat) (cap : Nat) (T : List Tb) (h6 : ∀ t ∈ T, t.n ≤ 60) (hok : ∀ v ∈ allL T, Ok v) (w : World) (hz : TabsR w A n T) (hL : Dig.Libs w) : Calls Tryz.prog 17 #[.int .i64 1, .slice A n cap] w (IsV (callV 1 ⟨#[110]⟩ fin_ABS n T) w) :=
  pv_one A n cap T h6 hok w hz hL 1 fin_ABS (by omega) (fun n h => fit_is (k := 0) (m := 1) (by decide) (by kernel_rfl) (by kernel_rfl) n h) (kd_is (by kernel_rfl)) fun x x1 x2 w1 => pone_ABS x x1 x2 w1
theorem pv_SIGN (A : Option Addr) (n : Nat) (cap : Nat) (T : List Tb) (h6 : ∀ t ∈ T, t.n ≤ 60) (hok : ∀ v ∈ allL T, Ok v) (w : World) (hz : TabsR w A n T) (hL : Dig.Libs w) : Calls Tryz.prog 17 #[.int .i64 63, .slice A n cap] w (IsV (callV 63 ⟨#[110]⟩ fin_SIGN n T) w) :=
  pv_one A n cap T h6 hok w hz hL 63 fin_SIGN (by omega) (fun n h => fit_is (k := 62) (m := 1) (by decide) (by kernel_rfl) (by kernel_rfl) n h) (kd_is (by kernel_rfl)) fun x x1 x2 w1 => pone_SIGN x x1 x2 w1
theorem pv_INT (A : Option Addr) (n : Nat) (cap : Nat) (T : List Tb) (h6 : ∀ t ∈ T, t.n ≤ 60) (hok : ∀ v ∈ allL T, Ok v) (w : World) (hz : TabsR w A n T) (hL : Dig.Libs w) : Calls Tryz.prog 17 #[.int .i64 28, .slice A n cap] w (IsV (callV 28 ⟨#[110]⟩ fin_INT n T) w) :=
  pv_one A n cap T h6 hok w hz hL 28 fin_INT (by omega) (fun n h => fit_is (k := 27) (m := 1) (by decide) (by kernel_rfl) (by kernel_rfl) n h) (kd_is (by kernel_rfl)) fun x x1 x2 w1 => pone_INT x x1 x2 w1
theorem pv_TRUNC (A : Option Addr) (n : Nat) (cap : Nat) (T : List Tb) (h6 : ∀ t ∈ T, t.n ≤ 60) (hok : ∀ v ∈ allL T, Ok v) (w : World) (hz : TabsR w A n T) (hL : Dig.Libs w) : Calls Tryz.prog 17 #[.int .i64 74, .slice A n cap] w (IsV (callV 74 ⟨#[110]⟩ fin_TRUNC n T) w) :=
  pv_one A n cap T h6 hok w hz hL 74 fin_TRUNC (by omega) (fun n h => fit_is (k := 73) (m := 1) (by decide) (by kernel_rfl) (by kernel_rfl) n h) (kd_is (by kernel_rfl)) fun x x1 x2 w1 => pone_TRUNC x x1 x2 w1
theorem pv_EVEN (A : Option Addr) (n : Nat) (cap : Nat) (T : List Tb) (h6 : ∀ t ∈ T, t.n ≤ 60) (hok : ∀ v ∈ allL T, Ok v) (w : World) (hz : TabsR w A n T) (hL : Dig.Libs w) : Calls Tryz.prog 17 #[.int .i64 18, .slice A n cap] w (IsV (callV 18 ⟨#[110]⟩ fin_EVEN n T) w) :=
  pv_one A n cap T h6 hok w hz hL 18 fin_EVEN (by omega) (fun n h => fit_is (k := 17) (m := 1) (by decide) (by kernel_rfl) (by kernel_rfl) n h) (kd_is (by kernel_rfl)) fun x x1 x2 w1 => pone_EVEN x x1 x2 w1
theorem pv_ODD (A : Option Addr) (n : Nat) (cap : Nat) (T : List Tb) (h6 : ∀ t ∈ T, t.n ≤ 60) (hok : ∀ v ∈ allL T, Ok v) (w : World) (hz : TabsR w A n T) (hL : Dig.Libs w) : Calls Tryz.prog 17 #[.int .i64 48, .slice A n cap] w (IsV (callV 48 ⟨#[110]⟩ fin_ODD n T) w) :=
  pv_one A n cap T h6 hok w hz hL 48 fin_ODD (by omega) (fun n h => fit_is (k := 47) (m := 1) (by decide) (by kernel_rfl) (by kernel_rfl) n h) (kd_is (by kernel_rfl)) fun x x1 x2 w1 => pone_ODD x x1 x2 w1
theorem pv_SQRT (A : Option Addr) (n : Nat) (cap : Nat) (T : List Tb) (h6 : ∀ t ∈ T, t.n ≤ 60) (hok : ∀ v ∈ allL T, Ok v) (w : World) (hz : TabsR w A n T) (hL : Dig.Libs w) : Calls Tryz.prog 17 #[.int .i64 65, .slice A n cap] w (IsV (callV 65 ⟨#[110]⟩ fin_SQRT n T) w) :=
  pv_one A n cap T h6 hok w hz hL 65 fin_SQRT (by omega) (fun n h => fit_is (k := 64) (m := 1) (by decide) (by kernel_rfl) (by kernel_rfl) n h) (kd_is (by kernel_rfl)) fun x x1 x2 w1 => pone_SQRT x x1 x2 w1
theorem pv_FACT (A : Option Addr) (n : Nat) (cap : Nat) (T : List Tb) (h6 : ∀ t ∈ T, t.n ≤ 60) (hok : ∀ v ∈ allL T, Ok v) (w : World) (hz : TabsR w A n T) (hL : Dig.Libs w) : Calls Tryz.prog 17 #[.int .i64 20, .slice A n cap] w (IsV (callV 20 ⟨#[110]⟩ fin_FACT n T) w) :=
  pv_one A n cap T h6 hok w hz hL 20 fin_FACT (by omega) (fun n h => fit_is (k := 19) (m := 1) (by decide) (by kernel_rfl) (by kernel_rfl) n h) (kd_is (by kernel_rfl)) fun x x1 x2 w1 => pone_FACT x x1 x2 w1
theorem pv_CHAR (A : Option Addr) (n : Nat) (cap : Nat) (T : List Tb) (h6 : ∀ t ∈ T, t.n ≤ 60) (hok : ∀ v ∈ allL T, Ok v) (w : World) (hz : TabsR w A n T) (hL : Dig.Libs w) : Calls Tryz.prog 17 #[.int .i64 6, .slice A n cap] w (IsV (callV 6 ⟨#[110]⟩ fin_CHAR n T) w) :=
  pv_one A n cap T h6 hok w hz hL 6 fin_CHAR (by omega) (fun n h => fit_is (k := 5) (m := 1) (by decide) (by kernel_rfl) (by kernel_rfl) n h) (kd_is (by kernel_rfl)) fun x x1 x2 w1 => pone_CHAR x x1 x2 w1
theorem pv_VALUE (A : Option Addr) (n : Nat) (cap : Nat) (T : List Tb) (h6 : ∀ t ∈ T, t.n ≤ 60) (hok : ∀ v ∈ allL T, Ok v) (w : World) (hz : TabsR w A n T) (hL : Dig.Libs w) : Calls Tryz.prog 17 #[.int .i64 76, .slice A n cap] w (IsV (callV 76 ⟨#[110]⟩ fin_VALUE n T) w) :=
  pv_one A n cap T h6 hok w hz hL 76 fin_VALUE (by omega) (fun n h => fit_is (k := 75) (m := 1) (by decide) (by kernel_rfl) (by kernel_rfl) n h) (kd_is (by kernel_rfl)) fun x x1 x2 w1 => pone_VALUE x x1 x2 w1
theorem pv_LEN (A : Option Addr) (n : Nat) (cap : Nat) (T : List Tb) (h6 : ∀ t ∈ T, t.n ≤ 60) (hok : ∀ v ∈ allL T, Ok v) (w : World) (hz : TabsR w A n T) (hL : Dig.Libs w) : Calls Tryz.prog 17 #[.int .i64 37, .slice A n cap] w (IsV (callV 37 ⟨#[115]⟩ fin_LEN n T) w) :=
  pv_t1 A n cap T h6 hok w hz hL 37 fin_LEN (by omega) (fun n h => fit_is (k := 36) (m := 1) (by decide) (by kernel_rfl) (by kernel_rfl) n h) (kd_is (by kernel_rfl)) fun t t9 A2 c2 w1 h => ptx_LEN A2 c2 t t9 w1 h
theorem pv_LOWER (A : Option Addr) (n : Nat) (cap : Nat) (T : List Tb) (h6 : ∀ t ∈ T, t.n ≤ 60) (hok : ∀ v ∈ allL T, Ok v) (w : World) (hz : TabsR w A n T) (hL : Dig.Libs w) : Calls Tryz.prog 17 #[.int .i64 38, .slice A n cap] w (IsV (callV 38 ⟨#[115]⟩ fin_LOWER n T) w) :=
  pv_t1 A n cap T h6 hok w hz hL 38 fin_LOWER (by omega) (fun n h => fit_is (k := 37) (m := 1) (by decide) (by kernel_rfl) (by kernel_rfl) n h) (kd_is (by kernel_rfl)) fun t t9 A2 c2 w1 h => ptx_LOWER A2 c2 t t9 w1 h
theorem pv_UPPER (A : Option Addr) (n : Nat) (cap : Nat) (T : List Tb) (h6 : ∀ t ∈ T, t.n ≤ 60) (hok : ∀ v ∈ allL T, Ok v) (w : World) (hz : TabsR w A n T) (hL : Dig.Libs w) : Calls Tryz.prog 17 #[.int .i64 75, .slice A n cap] w (IsV (callV 75 ⟨#[115]⟩ fin_UPPER n T) w) :=
  pv_t1 A n cap T h6 hok w hz hL 75 fin_UPPER (by omega) (fun n h => fit_is (k := 74) (m := 1) (by decide) (by kernel_rfl) (by kernel_rfl) n h) (kd_is (by kernel_rfl)) fun t t9 A2 c2 w1 h => ptx_UPPER A2 c2 t t9 w1 h
theorem pv_PROPER (A : Option Addr) (n : Nat) (cap : Nat) (T : List Tb) (h6 : ∀ t ∈ T, t.n ≤ 60) (hok : ∀ v ∈ allL T, Ok v) (w : World) (hz : TabsR w A n T) (hL : Dig.Libs w) : Calls Tryz.prog 17 #[.int .i64 52, .slice A n cap] w (IsV (callV 52 ⟨#[115]⟩ fin_PROPER n T) w) :=
  pv_t1 A n cap T h6 hok w hz hL 52 fin_PROPER (by omega) (fun n h => fit_is (k := 51) (m := 1) (by decide) (by kernel_rfl) (by kernel_rfl) n h) (kd_is (by kernel_rfl)) fun t t9 A2 c2 w1 h => ptx_PROPER A2 c2 t t9 w1 h
theorem pv_TRIM (A : Option Addr) (n : Nat) (cap : Nat) (T : List Tb) (h6 : ∀ t ∈ T, t.n ≤ 60) (hok : ∀ v ∈ allL T, Ok v) (w : World) (hz : TabsR w A n T) (hL : Dig.Libs w) : Calls Tryz.prog 17 #[.int .i64 73, .slice A n cap] w (IsV (callV 73 ⟨#[115]⟩ fin_TRIM n T) w) :=
  pv_t1 A n cap T h6 hok w hz hL 73 fin_TRIM (by omega) (fun n h => fit_is (k := 72) (m := 1) (by decide) (by kernel_rfl) (by kernel_rfl) n h) (kd_is (by kernel_rfl)) fun t t9 A2 c2 w1 h => ptx_TRIM A2 c2 t t9 w1 h
theorem pv_REVERSE (A : Option Addr) (n : Nat) (cap : Nat) (T : List Tb) (h6 : ∀ t ∈ T, t.n ≤ 60) (hok : ∀ v ∈ allL T, Ok v) (w : World) (hz : TabsR w A n T) (hL : Dig.Libs w) : Calls Tryz.prog 17 #[.int .i64 56, .slice A n cap] w (IsV (callV 56 ⟨#[115]⟩ fin_REVERSE n T) w) :=
  pv_t1 A n cap T h6 hok w hz hL 56 fin_REVERSE (by omega) (fun n h => fit_is (k := 55) (m := 1) (by decide) (by kernel_rfl) (by kernel_rfl) n h) (kd_is (by kernel_rfl)) fun t t9 A2 c2 w1 h => ptx_REVERSE A2 c2 t t9 w1 h
theorem pv_CODE (A : Option Addr) (n : Nat) (cap : Nat) (T : List Tb) (h6 : ∀ t ∈ T, t.n ≤ 60) (hok : ∀ v ∈ allL T, Ok v) (w : World) (hz : TabsR w A n T) (hL : Dig.Libs w) : Calls Tryz.prog 17 #[.int .i64 8, .slice A n cap] w (IsV (callV 8 ⟨#[115]⟩ fin_CODE n T) w) :=
  pv_t1 A n cap T h6 hok w hz hL 8 fin_CODE (by omega) (fun n h => fit_is (k := 7) (m := 1) (by decide) (by kernel_rfl) (by kernel_rfl) n h) (kd_is (by kernel_rfl)) fun t t9 A2 c2 w1 h => by
    by_cases h0 : t.data.toList = []
    · rw [show fin_CODE [⟨2, 0, t⟩] = fV 2 from if_pos h0]
      exact ptx_CODE0 A2 c2 t (by rw [← Dig.len, h0]; rfl) w1 h
    · rw [show fin_CODE [⟨2, 0, t⟩] = cV (Run.valL t.data.toList : Nat) from if_neg h0]
      exact ptx_CODE1 A2 c2 t h0 w1 h
theorem pv_FIND (A : Option Addr) (n : Nat) (cap : Nat) (T : List Tb) (h6 : ∀ t ∈ T, t.n ≤ 60) (hok : ∀ v ∈ allL T, Ok v) (w : World) (hz : TabsR w A n T) (hL : Dig.Libs w) : Calls Tryz.prog 17 #[.int .i64 21, .slice A n cap] w (IsV (callV 21 ⟨#[115, 115]⟩ fin_FIND n T) w) :=
  pv_t2 A n cap T h6 hok w hz hL 21 fin_FIND (by omega) (fun n h => fit_is (k := 20) (m := 2) (by decide) (by kernel_rfl) (by kernel_rfl) n h) (kd_is (by kernel_rfl)) fun t s t9 s9 A2 c2 w1 h => ptx_FIND A2 c2 t s t9 s9 w1 h
theorem pv_SUM (A : Option Addr) (n : Nat) (cap : Nat) (T : List Tb) (h6 : ∀ t ∈ T, t.n ≤ 60) (hok : ∀ v ∈ allL T, Ok v) (w : World) (hz : TabsR w A n T) (hL : Dig.Libs w) : Calls Tryz.prog 17 #[.int .i64 67, .slice A n cap] w (IsV (listV 67 fin_SUM n T) w) :=
  pv_all A n cap T h6 w hz hL 67 fin_SUM (by omega) fun A2 m c2 w1 hz1 _ => pal_SUM A2 m c2 (allL T) (fun v hv => (hok v hv).1) w1 hz1
theorem pv_PRODUCT (A : Option Addr) (n : Nat) (cap : Nat) (T : List Tb) (h6 : ∀ t ∈ T, t.n ≤ 60) (hok : ∀ v ∈ allL T, Ok v) (w : World) (hz : TabsR w A n T) (hL : Dig.Libs w) : Calls Tryz.prog 17 #[.int .i64 51, .slice A n cap] w (IsV (listV 51 fin_PRODUCT n T) w) :=
  pv_all A n cap T h6 w hz hL 51 fin_PRODUCT (by omega) fun A2 m c2 w1 hz1 _ => pal_PRODUCT A2 m c2 (allL T) (fun v hv => (hok v hv).1) w1 hz1
theorem pv_SUMSQ (A : Option Addr) (n : Nat) (cap : Nat) (T : List Tb) (h6 : ∀ t ∈ T, t.n ≤ 60) (hok : ∀ v ∈ allL T, Ok v) (w : World) (hz : TabsR w A n T) (hL : Dig.Libs w) : Calls Tryz.prog 17 #[.int .i64 70, .slice A n cap] w (IsV (listV 70 fin_SUMSQ n T) w) :=
  pv_all A n cap T h6 w hz hL 70 fin_SUMSQ (by omega) fun A2 m c2 w1 hz1 _ => pal_SUMSQ A2 m c2 (allL T) (fun v hv => (hok v hv).1) w1 hz1
theorem pv_MIN (A : Option Addr) (n : Nat) (cap : Nat) (T : List Tb) (h6 : ∀ t ∈ T, t.n ≤ 60) (hok : ∀ v ∈ allL T, Ok v) (w : World) (hz : TabsR w A n T) (hL : Dig.Libs w) : Calls Tryz.prog 17 #[.int .i64 43, .slice A n cap] w (IsV (listV 43 fin_MIN n T) w) :=
  pv_all A n cap T h6 w hz hL 43 fin_MIN (by omega) fun A2 m c2 w1 hz1 _ => pal_MIN A2 m c2 (allL T) (fun v hv => (hok v hv).1) w1 hz1
theorem pv_MAX (A : Option Addr) (n : Nat) (cap : Nat) (T : List Tb) (h6 : ∀ t ∈ T, t.n ≤ 60) (hok : ∀ v ∈ allL T, Ok v) (w : World) (hz : TabsR w A n T) (hL : Dig.Libs w) : Calls Tryz.prog 17 #[.int .i64 40, .slice A n cap] w (IsV (listV 40 fin_MAX n T) w) :=
  pv_all A n cap T h6 w hz hL 40 fin_MAX (by omega) fun A2 m c2 w1 hz1 _ => pal_MAX A2 m c2 (allL T) (fun v hv => (hok v hv).1) w1 hz1
theorem pv_AVERAGE (A : Option Addr) (n : Nat) (cap : Nat) (T : List Tb) (h6 : ∀ t ∈ T, t.n ≤ 60) (hok : ∀ v ∈ allL T, Ok v) (w : World) (hz : TabsR w A n T) (hL : Dig.Libs w) : Calls Tryz.prog 17 #[.int .i64 3, .slice A n cap] w (IsV (listV 3 fin_AVERAGE n T) w) :=
  pv_all A n cap T h6 w hz hL 3 fin_AVERAGE (by omega) fun A2 m c2 w1 hz1 _ => pal_AVERAGE A2 m c2 (allL T) (fun v hv => (hok v hv).1) w1 hz1
theorem pv_XOR (A : Option Addr) (n : Nat) (cap : Nat) (T : List Tb) (h6 : ∀ t ∈ T, t.n ≤ 60) (hok : ∀ v ∈ allL T, Ok v) (w : World) (hz : TabsR w A n T) (hL : Dig.Libs w) : Calls Tryz.prog 17 #[.int .i64 78, .slice A n cap] w (IsV (listV 78 fin_XOR n T) w) :=
  pv_all A n cap T h6 w hz hL 78 fin_XOR (by omega) fun A2 m c2 w1 hz1 _ => pal_XOR A2 m c2 (allL T) (fun v hv => (hok v hv).1) w1 hz1
theorem pv_CONCAT (A : Option Addr) (n : Nat) (cap : Nat) (T : List Tb) (h6 : ∀ t ∈ T, t.n ≤ 60) (hok : ∀ v ∈ allL T, Ok v) (w : World) (hz : TabsR w A n T) (hL : Dig.Libs w) : Calls Tryz.prog 17 #[.int .i64 12, .slice A n cap] w (IsV (listV 12 fin_CONCAT n T) w) :=
  pv_all A n cap T h6 w hz hL 12 fin_CONCAT (by omega) fun A2 m c2 w1 hz1 hL1 => pal_CONCAT A2 m c2 (allL T) (fun v hv => (hok v hv).1) w1 hz1 hL1
theorem pv_MEDIAN (A : Option Addr) (n : Nat) (cap : Nat) (T : List Tb) (h6 : ∀ t ∈ T, t.n ≤ 60) (hok : ∀ v ∈ allL T, Ok v) (w : World) (hz : TabsR w A n T) : Calls Tryz.prog 17 #[.int .i64 41, .slice A n cap] w (IsV (listV 41 fin_MEDIAN n T) w) :=
  pv_many A n cap T h6 w hz 41 fin_MEDIAN (by omega) fun A2 m c2 w1 hz1 => by
    show Calls Tryz.prog 56 _ w1 (IsV (medV (allL T)) w1)
    rcases fault_ways (allL T) with h | ⟨p, x, h⟩
    · have HN : ∀ w2, Below w1.heap.size w1 w2 → Calls Tryz.prog 128 #[.slice A2 m c2] w2 fun e w' => ∃ A3 c3, e = .returned (.tuple #[.slice A3 (numsF (allL T)).length c3, .agg #[.int .i64 0, .int .i64 0, .string ⟨#[]⟩]]) ∧ Odr.NumsR w' A3 (numsF (allL T)).length c3 (numsF (allL T)) ∧ Below w2.heap.size w2 w' := fun w2 hb2 => (numbers_cap A2 m c2 (allL T) h w2 (hz1.on hb2)).mono fun e w' ⟨A3, c3, he, hr, hb⟩ => ⟨A3, c3, he, nums_of (fun v hv => (hok v hv).1) (fun v hv => (hok v hv).2) hr.1 hr.2, hb⟩
      have hq : (numsF (allL T)).length ≤ 1000 := Nat.le_trans (numsF_len _) (by rw [hz1.1]; exact hz1.2.1)
      unfold medV
      rw [faultF_none h]
      exact pma_MEDIAN A2 m c2 _ _ hq _ _ rfl w1 HN
    · unfold medV
      rw [faultF_some h]
      exact ofmany_bad 41 A2 m c2 x h.2.1 w1 fun w2 hb2 => numbers_yes A2 m c2 (allL T) p x h w2 (hz1.on hb2)
theorem pv_MODE (A : Option Addr) (n : Nat) (cap : Nat) (T : List Tb) (h6 : ∀ t ∈ T, t.n ≤ 60) (hok : ∀ v ∈ allL T, Ok v) (w : World) (hz : TabsR w A n T) : Calls Tryz.prog 17 #[.int .i64 45, .slice A n cap] w (IsV (listV 45 fin_MODE n T) w) :=
  pv_many A n cap T h6 w hz 45 fin_MODE (by omega) fun A2 m c2 w1 hz1 => by
    show Calls Tryz.prog 56 _ w1 (IsV (modV (allL T)) w1)
    rcases fault_ways (allL T) with h | ⟨p, x, h⟩
    · have HN : ∀ w2, Below w1.heap.size w1 w2 → Calls Tryz.prog 128 #[.slice A2 m c2] w2 fun e w' => ∃ A3 c3, e = .returned (.tuple #[.slice A3 (numsF (allL T)).length c3, .agg #[.int .i64 0, .int .i64 0, .string ⟨#[]⟩]]) ∧ Odr.NumsR w' A3 (numsF (allL T)).length c3 (numsF (allL T)) ∧ Below w2.heap.size w2 w' := fun w2 hb2 => (numbers_cap A2 m c2 (allL T) h w2 (hz1.on hb2)).mono fun e w' ⟨A3, c3, he, hr, hb⟩ => ⟨A3, c3, he, nums_of (fun v hv => (hok v hv).1) (fun v hv => (hok v hv).2) hr.1 hr.2, hb⟩
      have hq : (numsF (allL T)).length ≤ 1000 := Nat.le_trans (numsF_len _) (by rw [hz1.1]; exact hz1.2.1)
      unfold modV
      rw [faultF_none h]
      dsimp only
      obtain ⟨⟨q, b⟩, hd⟩ : ∃ y, Odr.modeD (numsF (allL T)) = y := ⟨_, rfl⟩
      rw [hd]
      cases b
      · rw [if_neg Bool.false_ne_true]
        exact pma_MODE0 A2 m c2 _ _ hq q hd w1 HN
      · rw [if_pos rfl]
        exact pma_MODE1 A2 m c2 _ _ hq q hd w1 HN
    · unfold modV
      rw [faultF_some h]
      exact ofmany_bad 45 A2 m c2 x h.2.1 w1 fun w2 hb2 => numbers_yes A2 m c2 (allL T) p x h w2 (hz1.on hb2)
end Go.Proofs.YtebjedbppiphgaaGreatDoor.Cal
