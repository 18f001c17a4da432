/- Slices that read as values, as numbers, and as texts; rows of one's own of them. No function of the program is named here.
   What the reference's May, Abs, Add, Times on decimals answer: for every number of 64 bits. -/
import Derived.Test.YtebjedbppiphgaaGreatDoorKop16
import Derived.Test.YtebjedbppiphgaaGreatDoorKop21
import Derived.Test.YtebjedbppiphgaaGreatDoorKop20
import Derived.Test.YtebjedbppiphgaaGreatDoorKop06
namespace Go.Proofs.YtebjedbppiphgaaGreatDoor.Fld
open Go.RowKit Kit Reg Dec Dig Val Txt
/-- a slice, nil too, that reads as a list of values -/
def ValsR (w : World) (A : Option Addr) (n : Nat) (L : List Vl) : Prop :=
  L.length = n ∧ n ≤ 1000 ∧ (∀ v ∈ L, v.fits) ∧ (n ≠ 0 → ∃ b o, A = some ⟨b, o, none⟩ ∧ b < w.heap.size ∧ ∀ k v, L[k]? = some v → ∀ j x, v.cells[j]? = some x → w.cell? ⟨b, o + k * 3 + j, none⟩ = some x)
theorem ValsR.on {w w' : World} {A : Option Addr} {n : Nat} {L : List Vl} (h : ValsR w A n L) (hb : Below w.heap.size w w') : ValsR w' A n L := by
  obtain ⟨h1, h2, hu, h3⟩ := h
  refine ⟨h1, h2, hu, fun hn => ?_⟩
  obtain ⟨b, o, rfl, hlt, hc⟩ := h3 hn
  exact ⟨b, o, rfl, Nat.lt_of_lt_of_le hlt hb.size, fun k v hk j x hj => (hb.cell (p := ⟨b, o + k * 3 + j, none⟩) hlt).trans (hc k v hk j x hj)⟩
/-- the value at a place: its three cells -/
theorem ValsR.at {w : World} {A : Option Addr} {n : Nat} {L : List Vl} (h : ValsR w A n L) {k : Nat} {v : Vl} (hk : L[k]? = some v) : ∃ b o, A = some ⟨b, o, none⟩ ∧ b < w.heap.size ∧
    w.cell? ⟨b, o + k * 3, none⟩ = some (.int .i64 v.k) ∧ w.cell? ⟨b, o + k * 3 + 1, none⟩ = some (.int .i64 v.n) ∧ w.cell? ⟨b, o + k * 3 + 2, none⟩ = some (.string v.t) := by
  obtain ⟨h1, _, _, h3⟩ := h
  have hlt := (List.getElem?_eq_some_iff.1 hk).1
  obtain ⟨b, o, e, hb, hc⟩ := h3 (by omega)
  exact ⟨b, o, e, hb, hc k v hk 0 _ rfl, hc k v hk 1 _ rfl, hc k v hk 2 _ rfl⟩
theorem ValsR.get {w : World} {A : Option Addr} {n : Nat} {L : List Vl} (h : ValsR w A n L) {k : Nat} (hk : k < n) : ∃ v, L[k]? = some v := ⟨_, List.getElem?_eq_getElem (by rw [h.1]; exact hk)⟩
/-- a slice that reads as numbers -/
def IntsR (w : World) (A : Option Addr) (xs : List Int) : Prop := xs = [] ∨ ∃ g o, A = some ⟨g, o, none⟩ ∧ g < w.heap.size ∧ ∀ i n, xs[i]? = some n → w.cell? ⟨g, o + i, none⟩ = some (.int .i64 n)
theorem IntsR.on {w w' : World} {A : Option Addr} {xs : List Int} (h : IntsR w A xs) (hb : Below w.heap.size w w') : IntsR w' A xs := by
  rcases h with h | ⟨g, o, hA, hg, h⟩
  · exact .inl h
  · exact .inr ⟨g, o, hA, Nat.lt_of_lt_of_le hg hb.size, fun i c hc => (hb.cell (p := ⟨g, o + i, none⟩) hg).trans (h i c hc)⟩
theorem IntsR.at {w : World} {A : Option Addr} {xs : List Int} (h : IntsR w A xs) {k : Nat} {x : Int} (hk : xs[k]? = some x) : ∃ g o, A = some ⟨g, o, none⟩ ∧ g < w.heap.size ∧ w.cell? ⟨g, o + k, none⟩ = some (.int .i64 x) := by
  rcases h with h | ⟨g, o, hA, hg, h⟩
  · rw [h] at hk; simp at hk
  · exact ⟨g, o, hA, hg, h k x hk⟩
/-- rows of one's own: of numbers -/
def OwnI (B : Nat) (v : Value) (xs : List Int) (w : World) : Prop := w.ownsRow B 2 1 v xs.length (xs.map (Value.int .i64))
theorem OwnI.on {B : Nat} {w w' : World} {v : Value} {xs : List Int} (h : OwnI B v xs w) (hb : Below w.heap.size w w') : OwnI B v xs w' := own_on h hb
theorem OwnI.reads {B : Nat} {v : Value} {xs : List Int} {w : World} (h : OwnI B v xs w) : ∃ A cap, v = .slice A xs.length cap ∧ IntsR w A xs := by
  have h0 := h
  rcases h.2 with ⟨rfl, h1⟩ | ⟨g, cap, cur, rfl, hb, hg, hrest⟩
  · exact ⟨_, _, by rw [h1], .inl (List.eq_nil_of_length_eq_zero h1)⟩
  · refine ⟨_, _, rfl, .inr ⟨g, 0, rfl, (Array.getElem?_eq_some_iff.1 hg).1, fun i n hi => ?_⟩⟩
    have hl := (List.getElem?_eq_some_iff.1 hi).1
    have e := World.ownsRow.cellAt h0 i (by omega)
    rw [Nat.zero_add, e, List.getElem?_map, hi]
    rfl
/-- .. of texts -/
def OwnT (B : Nat) (v : Value) (ls : List (List UInt8)) (w : World) : Prop := w.ownsRow B 9 1 v ls.length (ls.map fun l => Value.string ⟨l.toArray⟩)
theorem OwnT.on {B : Nat} {w w' : World} {v : Value} {xs : List (List UInt8)} (h : OwnT B v xs w) (hb : Below w.heap.size w w') : OwnT B v xs w' := own_on h hb
theorem OwnT.reads {B : Nat} {v : Value} {xs : List (List UInt8)} {w : World} (h : OwnT B v xs w) : ∃ A cap, v = .slice A xs.length cap ∧ StrsO w A xs := by
  have h0 := h
  rcases h.2 with ⟨rfl, h1⟩ | ⟨g, cap, cur, rfl, hb, hg, hrest⟩
  · exact ⟨_, _, by rw [h1], .inl (List.eq_nil_of_length_eq_zero h1)⟩
  · refine ⟨_, _, rfl, .inr ⟨g, 0, rfl, (Array.getElem?_eq_some_iff.1 hg).1, fun i n hi => ?_⟩⟩
    have hl := (List.getElem?_eq_some_iff.1 hi).1
    have e := World.ownsRow.cellAt h0 i (by omega)
    rw [Nat.zero_add, e, List.getElem?_map, hi]
    rfl
/-- .. of values -/
def flatV : List Vl → List Value
  | [] => []
  | v :: r => v.cells ++ flatV r
theorem flatV_length : ∀ L : List Vl, (flatV L).length = L.length * 3
  | [] => rfl
  | v :: r => by
    have ih := flatV_length r
    rw [flatV, List.length_append, ih, List.length_cons]
    show 3 + _ = _
    omega
theorem flatV_at : ∀ (L : List Vl) (k : Nat) (v : Vl), L[k]? = some v → ∀ j x, v.cells[j]? = some x → (flatV L)[k * 3 + j]? = some x
  | [], k, v, h, j, x, hj => by simp at h
  | u :: r, 0, v, h, j, x, hj => by
    simp at h
    subst h
    have hl := (List.getElem?_eq_some_iff.1 hj).1
    rw [flatV, Nat.zero_mul, Nat.zero_add, List.getElem?_append_left hl]
    exact hj
  | u :: r, k + 1, v, h, j, x, hj => by
    have ih := flatV_at r k v (by simpa using h) j x hj
    rw [flatV, List.getElem?_append_right (by show 3 ≤ _; omega)]
    rw [← ih]
    congr 1
    show (k + 1) * 3 + j - 3 = k * 3 + j
    omega
def OwnV (B : Nat) (v : Value) (L : List Vl) (w : World) : Prop := w.ownsRow B 23 3 v L.length (flatV L)
theorem OwnV.on {B : Nat} {w w' : World} {v : Value} {L : List Vl} (h : OwnV B v L w) (hb : Below w.heap.size w w') : OwnV B v L w' := own_on h hb
theorem OwnV.reads {B n : Nat} {v : Value} {L : List Vl} {w : World} (h : OwnV B v L w) (hn : L.length = n) (hm : n ≤ 1000) (hu : ∀ x ∈ L, x.fits) : ∃ A cap, v = .slice A n cap ∧ ValsR w A n L := by
  subst hn
  have h0 := h
  rcases h.2 with ⟨rfl, h1⟩ | ⟨g, cap, cur, rfl, hb, hg, hrest⟩
  · exact ⟨_, _, by rw [h1], rfl, hm, hu, fun hn => absurd h1 hn⟩
  · refine ⟨_, _, rfl, rfl, hm, hu, fun hn => ⟨g, 0, rfl, (Array.getElem?_eq_some_iff.1 hg).1, fun k x hk j y hj => ?_⟩⟩
    have h1 := (List.getElem?_eq_some_iff.1 hk).1
    have h2 : j < 3 := (List.getElem?_eq_some_iff.1 hj).1
    have e := World.ownsRow.cellAt h0 (k * 3 + j) (by omega)
    rw [Nat.zero_add, e]
    exact flatV_at L k x hk j y hj
end Go.Proofs.YtebjedbppiphgaaGreatDoor.Fld
namespace Go.Proofs.YtebjedbppiphgaaGreatDoor.Dec
open Go.RowKit Kit
/-- a decimal, or that there is none, as the reference tells it -/
def GotIs (n : Int) (k : Bool) (w : World) : Ending → World → Prop := fun e w' => e = .returned (.agg #[.int .i64 n, .bool k]) ∧ Below w.heap.size w w'
set_option maxRecDepth 100000 in
set_option maxHeartbeats 400000 in
theorem rmay_c (x : Int) (b : Bool) (hb : mayD x = b) (w : World) : Calls Tryz.prog 22 #[.int .i64 x] w fun e w' => e = .returned (.bool b) ∧ w = w' := by
  have HB := Lib.hid hb
  clear hb
  go_enter Tryz.func22, Tryz.ntmps22
  go_wp2
  go_ret
  exact ⟨ret_bool (by rw [← HB.out]; rfl), rfl⟩
set_option maxRecDepth 100000 in
set_option maxHeartbeats 400000 in
theorem rabs_c (x : Int) (h1 : -9223372036854775807 ≤ x) (h2 : x ≤ 9223372036854775807) (w : World) : Calls Tryz.prog 93 #[.int .i64 x] w fun e w' => e = .returned (.int .u64 (x.natAbs : Int)) ∧ w = w' := by
  by_cases h : x < 0
  · go_enter Tryz.func93, Tryz.ntmps93
    go_wp2
    go_ret
    exact ⟨ret_u64 (by omega), rfl⟩
  · go_enter Tryz.func93, Tryz.ntmps93
    go_wp2
    go_ret
    exact ⟨ret_u64 (by omega), rfl⟩
set_option maxRecDepth 100000 in
set_option maxHeartbeats 400000 in
theorem radd_in (a b : Int) (a1 : -9223372036854775807 ≤ a) (a2 : a ≤ 9223372036854775807) (b1 : -9223372036854775807 ≤ b) (b2 : b ≤ 9223372036854775807) (h3 : -9223372036854775807 ≤ a + b) (h4 : a + b ≤ 9223372036854775807) (w : World) :
    Calls Tryz.prog 35 #[.int .i64 a, .int .i64 b] w (GotIs (a + b) true w) := by
  have M1 := Lib.hid (fun w1 => rmay_c a true (mayD_yes a1) w1)
  have M2 := Lib.hid (fun w1 => rmay_c b true (mayD_yes b1) w1)
  by_cases h5 : 0 < b
  · have t1 : decide (9223372036854775807 - b < a) = false := decide_eq_false (by omega)
    go_enter Tryz.func35, Tryz.ntmps35
    go_wp2_with (go_at_call 22; first | ((with_reducible refine (M1.out _).mono ?_); rintro e w' ⟨rfl, rfl⟩) | ((with_reducible refine (M2.out _).mono ?_); rintro e w' ⟨rfl, rfl⟩))
    exact bodyPost_ret (v := .agg #[.int .i64 (a + b), .bool true]) (by simp [results, Tryz.results35, go_sem]) rfl ⟨rfl, below1 _ _⟩
  · by_cases h6 : b < 0
    · have t1 : decide (a < -9223372036854775807 - b) = false := decide_eq_false (by omega)
      go_enter Tryz.func35, Tryz.ntmps35
      go_wp2_with (go_at_call 22; first | ((with_reducible refine (M1.out _).mono ?_); rintro e w' ⟨rfl, rfl⟩) | ((with_reducible refine (M2.out _).mono ?_); rintro e w' ⟨rfl, rfl⟩))
      exact bodyPost_ret (v := .agg #[.int .i64 (a + b), .bool true]) (by simp [results, Tryz.results35, go_sem]) rfl ⟨rfl, below1 _ _⟩
    · obtain rfl : b = 0 := by omega
      go_enter Tryz.func35, Tryz.ntmps35
      go_wp2_with (go_at_call 22; first | ((with_reducible refine (M1.out _).mono ?_); rintro e w' ⟨rfl, rfl⟩) | ((with_reducible refine (M2.out _).mono ?_); rintro e w' ⟨rfl, rfl⟩))
      exact bodyPost_ret (v := .agg #[.int .i64 (a + 0), .bool true]) (by simp [results, Tryz.results35, go_sem]) rfl ⟨rfl, below1 _ _⟩
set_option maxRecDepth 100000 in
set_option maxHeartbeats 400000 in
theorem radd_over (a b : Int) (a1 : -9223372036854775807 ≤ a) (a2 : a ≤ 9223372036854775807) (b1 : -9223372036854775807 ≤ b) (b2 : b ≤ 9223372036854775807) (h : 9223372036854775807 < a + b) (w : World) :
    Calls Tryz.prog 35 #[.int .i64 a, .int .i64 b] w (GotIs 0 false w) := by
  have M1 := Lib.hid (fun w1 => rmay_c a true (mayD_yes a1) w1)
  have M2 := Lib.hid (fun w1 => rmay_c b true (mayD_yes b1) w1)
  have h5 : 0 < b := by omega
  have t1 : decide (9223372036854775807 - b < a) = true := decide_eq_true (by omega)
  go_enter Tryz.func35, Tryz.ntmps35
  go_wp2_with (go_at_call 22; first | ((with_reducible refine (M1.out _).mono ?_); rintro e w' ⟨rfl, rfl⟩) | ((with_reducible refine (M2.out _).mono ?_); rintro e w' ⟨rfl, rfl⟩))
  exact bodyPost_ret (v := .agg #[.int .i64 0, .bool false]) (by simp [results, Tryz.results35, go_sem]) rfl ⟨rfl, below1 _ _⟩
set_option maxRecDepth 100000 in
set_option maxHeartbeats 400000 in
theorem radd_under (a b : Int) (a1 : -9223372036854775807 ≤ a) (a2 : a ≤ 9223372036854775807) (b1 : -9223372036854775807 ≤ b) (b2 : b ≤ 9223372036854775807) (h : a + b < -9223372036854775807) (w : World) :
    Calls Tryz.prog 35 #[.int .i64 a, .int .i64 b] w (GotIs 0 false w) := by
  have M1 := Lib.hid (fun w1 => rmay_c a true (mayD_yes a1) w1)
  have M2 := Lib.hid (fun w1 => rmay_c b true (mayD_yes b1) w1)
  have h5 : b < 0 := by omega
  have t1 : decide (a < -9223372036854775807 - b) = true := decide_eq_true (by omega)
  go_enter Tryz.func35, Tryz.ntmps35
  go_wp2_with (go_at_call 22; first | ((with_reducible refine (M1.out _).mono ?_); rintro e w' ⟨rfl, rfl⟩) | ((with_reducible refine (M2.out _).mono ?_); rintro e w' ⟨rfl, rfl⟩))
  exact bodyPost_ret (v := .agg #[.int .i64 0, .bool false]) (by simp [results, Tryz.results35, go_sem]) rfl ⟨rfl, below1 _ _⟩
set_option maxRecDepth 100000 in
set_option maxHeartbeats 400000 in
theorem radd_none (a b : Int) (h : a < -9223372036854775807 ∨ b < -9223372036854775807) (w : World) :
    Calls Tryz.prog 35 #[.int .i64 a, .int .i64 b] w (GotIs 0 false w) := by
  by_cases ha : a < -9223372036854775807
  · have M1 := Lib.hid (fun w1 => rmay_c a false (mayD_no ha) w1)
    clear h
    go_enter Tryz.func35, Tryz.ntmps35
    go_wp2_with (go_at_call 22; (with_reducible refine (M1.out _).mono ?_); rintro e w' ⟨rfl, rfl⟩)
    exact bodyPost_ret (v := .agg #[.int .i64 0, .bool false]) (by simp [results, Tryz.results35, go_sem]) rfl ⟨rfl, below1 _ _⟩
  · have M1 := Lib.hid (fun w1 => rmay_c a true (mayD_yes (by omega)) w1)
    have M2 := Lib.hid (fun w1 => rmay_c b false (mayD_no (by omega)) w1)
    clear h
    go_enter Tryz.func35, Tryz.ntmps35
    go_wp2_with (go_at_call 22; first | ((with_reducible refine (M1.out _).mono ?_); rintro e w' ⟨rfl, rfl⟩) | ((with_reducible refine (M2.out _).mono ?_); rintro e w' ⟨rfl, rfl⟩))
    exact bodyPost_ret (v := .agg #[.int .i64 0, .bool false]) (by simp [results, Tryz.results35, go_sem]) rfl ⟨rfl, below1 _ _⟩
theorem radd_c (a b : Int) (a2 : a ≤ 9223372036854775807) (b2 : b ≤ 9223372036854775807) (n : Int) (k : Bool) (h : addD a b = (n, k)) (w : World) :
    Calls Tryz.prog 35 #[.int .i64 a, .int .i64 b] w (GotIs n k w) := by
  by_cases ha : a < -9223372036854775807
  · obtain ⟨rfl, rfl⟩ := Prod.mk.inj ((addD_a ha).symm.trans h); exact radd_none a b (.inl ha) w
  by_cases hb : b < -9223372036854775807
  · obtain ⟨rfl, rfl⟩ := Prod.mk.inj ((addD_b hb).symm.trans h); exact radd_none a b (.inr hb) w
  by_cases hu : a + b < -9223372036854775807
  · obtain ⟨rfl, rfl⟩ := Prod.mk.inj ((addD_out (.inl hu)).symm.trans h); exact radd_under a b (by omega) a2 (by omega) b2 hu w
  by_cases ho : 9223372036854775807 < a + b
  · obtain ⟨rfl, rfl⟩ := Prod.mk.inj ((addD_out (.inr ho)).symm.trans h); exact radd_over a b (by omega) a2 (by omega) b2 ho w
  · obtain ⟨rfl, rfl⟩ := Prod.mk.inj ((addD_in (by omega) (by omega) (by omega) (by omega)).symm.trans h); exact radd_in a b (by omega) a2 (by omega) b2 (by omega) (by omega) w
end Go.Proofs.YtebjedbppiphgaaGreatDoor.Dec
