/- The laws' small and one; folds.Right at 60. Written by wip/gen20m.py.
   What the reference's read and Of answer: for every value that may be. Written by wip/gen17b.py.
   What the reference's Like answers: its table, row by row: for every pattern and every text of at most a thousand bytes.
   What the program's and the reference's Hits answer, put together: one function of what is looked for and of the value; the laws' check of life. Written by wip/gen17e.py.
   The sum of the products of two tables' values, in plain lists: as the program has it (all products, then their sum) and as the reference has it (one behind the other). No function of the program is named here.
   The sum of the products: package look's number and Products. Written by wip/gen18i.py.
   The hits of any values; and the laws' check of life. Written by wip/gen18l.py.
   The laws' one: a table of one value.
   CallOperates, from what the program's Binary and Minus and alive answer. Written by wip/gen20s.py. -/
import Derived.Test.YtebjedbppiphgaaGreatDoorKfa24
import Derived.Test.YtebjedbppiphgaaGreatDoorKfa28
import Derived.Test.YtebjedbppiphgaaGreatDoorKfa12
import Derived.Test.YtebjedbppiphgaaGreatDoorKfa11
import Derived.Test.YtebjedbppiphgaaGreatDoorKfa09
import Derived.Test.YtebjedbppiphgaaGreatDoorKfa21
import Derived.Test.YtebjedbppiphgaaGreatDoorKfa07
import Derived.Laws.MakeOwn
import Derived.Test.YtebjedbppiphgaaGreatDoorKfa33
import Derived.Test.YtebjedbppiphgaaGreatDoorKfa14
import Derived.Test.YtebjedbppiphgaaGreatDoorKfa08
import Derived.Test.YtebjedbppiphgaaGreatDoorKfa26
import Derived.Test.YtebjedbppiphgaaGreatDoorKfa25
import Derived.Test.YtebjedbppiphgaaGreatDoorKfa34
import Derived.Test.YtebjedbppiphgaaGreatDoorKfa30
import Derived.Test.YtebjedbppiphgaaGreatDoorKfa42
import Derived.BigQuiet
namespace Go.Proofs.YtebjedbppiphgaaGreatDoor.Cal
open Go.RowKit Kit Reg Dec Dig Val Fld
set_option maxRecDepth 100000 in
set_option maxHeartbeats 10000000 in
theorem right60_yes (A : Option Addr) (n cap : Nat) (L : List Vl) (hn : n ≤ 60) (hm : ∀ v ∈ L, v.may) (w : World) (hz : ValsR w A n L) :
    Calls Tryz.prog 46 #[.slice A n cap, .int .i64 60] w fun e w' => e = .returned (.bool true) ∧ Below w.heap.size w w' := by
  have HZ := Lib.hid hz
  have HM : Hid (∀ k (v : Vl), L[k]? = some v → v.may) := Lib.hid fun k v hv => hm v (List.mem_of_getElem? hv)
  have d1 : decide ((60 : Int) < (n : Int)) = false := decide_eq_false (by omega)
  have d2 : decide (60 < n) = false := decide_eq_false (by omega)
  have HR := Lib.hid (fun k n t (h : mayV k n t = true) w1 => rmayv_c k n t true h w1)
  clear hz hm
  go_enter Tryz.func46, Tryz.ntmps46
  go_wp2_with fail
  go_loopw [5] (fun i wr => ∃ k : Nat, k ≤ n ∧ i = .int .i64 k ∧ Below w.heap.size w wr) (fun i _ => n - (intOf i).toNat)
  case atStart => exact ⟨0, Nat.zero_le _, rfl, Below.refl _ _⟩
  case round =>
    obtain ⟨k, hk, rfl, hb0⟩ := hrel
    by_cases hlt : k < n
    · obtain ⟨v, hv⟩ := HZ.out.get hlt
      obtain ⟨b, o, rfl, hb, c0, c1, c2⟩ := (HZ.out.on hb0).at hv
      have hm := HM.out k v hv
      obtain ⟨vk, vn, vt⟩ := v
      dsimp only at c0 c1 c2
      have HR2 := Lib.hid (HR.out vk vn vt hm)
      clear hv hm HR
      go_wp2_with fail
      refine (HR2.out _).mono ?_
      rintro e w1 ⟨rfl, hb1⟩
      replace hb0 := on hb0 hb1
      clear hb1 HR2 c0 c1 c2
      go_wp2_with fail
      go_roundw
      case rel => exact ⟨k + 1, by omega, by go_num, hb0⟩
      case measure => simp [intOf]; omega
    · obtain rfl : k = n := by omega
      clear HR
      go_wp2_with fail
      go_ret
      exact ⟨rfl, hb0⟩
set_option maxRecDepth 100000 in
set_option maxHeartbeats 10000000 in
theorem right60_no (A : Option Addr) (n cap : Nat) (L : List Vl) (hn : n ≤ 60) (p : Nat) (x : Vl) (hp : L[p]? = some x) (hx : ¬ x.may) (hm : ∀ i (u : Vl), i < p → L[i]? = some u → u.may) (w : World) (hz : ValsR w A n L) :
    Calls Tryz.prog 46 #[.slice A n cap, .int .i64 60] w fun e w' => e = .returned (.bool false) ∧ Below w.heap.size w w' := by
  have HZ := Lib.hid hz
  have HM := Lib.hid hm
  have HP := Lib.hid hp
  have HX := Lib.hid hx
  have hpn : p < n := by have := (List.getElem?_eq_some_iff.1 hp).1; rw [hz.1] at this; exact this
  have d1 : decide ((60 : Int) < (n : Int)) = false := decide_eq_false (by omega)
  have d2 : decide (60 < n) = false := decide_eq_false (by omega)
  have HR := Lib.hid (fun k n t b (h : mayV k n t = b) w1 => rmayv_c k n t b h w1)
  clear hz hm hp hx
  go_enter Tryz.func46, Tryz.ntmps46
  go_wp2_with fail
  go_loopw [5] (fun i wr => ∃ k : Nat, k ≤ p ∧ i = .int .i64 k ∧ Below w.heap.size w wr) (fun i _ => n - (intOf i).toNat)
  case atStart => exact ⟨0, Nat.zero_le _, rfl, Below.refl _ _⟩
  case round =>
    obtain ⟨k, hk, rfl, hb0⟩ := hrel
    have hlt : k < n := by omega
    obtain ⟨v, hv⟩ := HZ.out.get hlt
    obtain ⟨b, o, rfl, hb, c0, c1, c2⟩ := (HZ.out.on hb0).at hv
    have hyes : Hid (k < p → v.may) := Lib.hid fun h => HM.out k v h hv
    have hno : Hid (k = p → ¬ v.may) := Lib.hid fun h => by
      subst h
      obtain rfl := Option.some.inj (hv.symm.trans HP.out)
      exact HX.out
    clear HM HP HX hv
    obtain ⟨vk, vn, vt⟩ := v
    dsimp only at c0 c1 c2
    by_cases hkp : k < p
    · have HR2 := Lib.hid (HR.out vk vn vt true (hyes.out hkp))
      clear HR hyes hno
      go_wp2_with fail
      refine (HR2.out _).mono ?_
      rintro e w1 ⟨rfl, hb1⟩
      replace hb0 := on hb0 hb1
      clear hb1 HR2 c0 c1 c2
      go_wp2_with fail
      go_roundw
      case rel => exact ⟨k + 1, by omega, by go_num, hb0⟩
      case measure => simp [intOf]; omega
    · obtain rfl : k = p := by omega
      have HR2 := Lib.hid (HR.out vk vn vt false (Bool.eq_false_iff.2 (hno.out rfl)))
      clear HR hyes hno
      go_wp2_with fail
      refine (HR2.out _).mono ?_
      rintro e w1 ⟨rfl, hb1⟩
      replace hb0 := on hb0 hb1
      clear hb1 HR2 c0 c1 c2
      go_wp2_with fail
      go_ret
      exact ⟨rfl, hb0⟩
set_option maxRecDepth 100000 in
theorem right60_long (A : Option Addr) (n cap : Nat) (hn : 60 < n) (w : World) :
    Calls Tryz.prog 46 #[.slice A n cap, .int .i64 60] w fun e w' => e = .returned (.bool false) ∧ Below w.heap.size w w' := by
  have d1 : decide ((60 : Int) < (n : Int)) = true := decide_eq_true (by omega)
  go_enter Tryz.func46, Tryz.ntmps46
  go_wp2_with fail
  go_ret
  exact ⟨rfl, Below.refl _ _⟩
def SmT (t : Tb) : Prop := t.n ≤ 60 ∧ ∀ v ∈ t.L, v.may
theorem first_un : ∀ L : List Vl, (∀ v ∈ L, v.may) ∨ ∃ (p : Nat) (x : Vl), L[p]? = some x ∧ ¬ x.may ∧ ∀ (i : Nat) (u : Vl), i < p → L[i]? = some u → u.may
  | [] => .inl fun v h => by cases h
  | a :: l => by
    rcases Classical.em a.may with ha | ha
    · rcases first_un l with h | ⟨p, x, h1, h2, h3⟩
      · refine .inl fun v hv => ?_
        rcases List.mem_cons.1 hv with rfl | hv
        · exact ha
        · exact h v hv
      · refine .inr ⟨p + 1, x, h1, h2, fun i u hi hu => ?_⟩
        cases i with
        | zero => rw [← Option.some.inj hu]; exact ha
        | succ i => exact h3 i u (by omega) hu
    · exact .inr ⟨0, a, rfl, ha, fun i u hi => by omega⟩
theorem right60_c (t : Tb) (b : Bool) (hb : SmT t ↔ b = true) (w : World) (hz : t.Reads w) : Calls Tryz.prog 46 #[.slice t.A t.n t.d, .int .i64 60] w fun e w' => e = .returned (.bool b) ∧ Below w.heap.size w w' := by
  by_cases h : 60 < t.n
  · obtain rfl : b = false := by
      cases b
      · rfl
      · have := (hb.2 rfl).1; omega
    exact right60_long t.A t.n t.d h w
  · have hv := hz (by omega)
    rcases first_un t.L with hm | ⟨p, x, h1, h2, h3⟩
    · obtain rfl : b = true := hb.1 ⟨by omega, hm⟩
      exact right60_yes t.A t.n t.d t.L (by omega) hm w hv
    · obtain rfl : b = false := by
        cases b
        · rfl
        · exact absurd ((hb.2 rfl).2 x (List.mem_of_getElem? h1)) h2
      exact right60_no t.A t.n t.d t.L (by omega) p x h1 h2 h3 w hv
set_option maxRecDepth 100000 in
set_option maxHeartbeats 2000000 in
theorem small_long (A : Option Addr) (n cap : Nat) (hn : 9 < n) (w : World) : Calls Tryz.prog 14 #[.slice A n cap] w fun e w' => e = .returned (.bool false) ∧ Below w.heap.size w w' := by
  have d1 : decide ((9 : Int) < (n : Int)) = true := decide_eq_true (by omega)
  have d2 : decide (9 < n) = true := decide_eq_true (by omega)
  go_enter Tryz.func14, Tryz.ntmps14
  go_wp2_with fail
  go_ret
  exact ⟨rfl, Below.refl _ _⟩
set_option maxRecDepth 100000 in
set_option maxHeartbeats 4000000 in
theorem small_walk (A : Option Addr) (n cap lim : Nat) (T : List Tb) (b : Bool) (hn : n ≤ 9) (hl : lim ≤ n) (hT : ∀ (i : Nat) (t : Tb), i < lim → T[i]? = some t → SmT t) (hb : (lim = n ∧ b = true) ∨ (lim < n ∧ b = false ∧ ∃ t, T[lim]? = some t ∧ ¬ SmT t)) (w : World) (hz : TabsR w A n T) :
    Calls Tryz.prog 14 #[.slice A n cap] w fun e w' => e = .returned (.bool b) ∧ Below w.heap.size w w' := by
  have HZ := Lib.hid hz
  have HT := Lib.hid hT
  have HB := Lib.hid hb
  have d1 : decide ((9 : Int) < (n : Int)) = false := decide_eq_false (by omega)
  have d2 : decide (9 < n) = false := decide_eq_false (by omega)
  clear hz hT hb
  go_enter Tryz.func14, Tryz.ntmps14
  go_wp2_with fail
  go_loopw [10] (fun i wr => ∃ k : Nat, k ≤ lim ∧ i = .int .i64 k ∧ Below w.heap.size w wr) (fun i _ => n - (intOf i).toNat)
  case atStart => exact ⟨0, Nat.zero_le _, rfl, Below.refl _ _⟩
  case round =>
    obtain ⟨k, hk, rfl, hb2⟩ := hrel
    by_cases hkn : k < n
    · obtain ⟨t, ht⟩ := HZ.out.get hkn
      obtain ⟨g, o, rfl, hblt, c0, c1, c2⟩ := (HZ.out.on hb2).at ht
      have hrd := Lib.hid ((HZ.out.reads ht).on hb2)
      obtain ⟨q, hq⟩ : ∃ q, (SmT t ↔ q = true) := by
        rcases Classical.em (SmT t) with h | h
        · exact ⟨true, by simp [h]⟩
        · exact ⟨false, by simp [h]⟩
      have HR := Lib.hid (fun w1 h1 => right60_c t q hq w1 h1)
      have hbox := (first wr [.int .i64 t.r, .int .i64 t.c, .slice t.A t.n t.d] 33).1
      have hbb := (first wr [.int .i64 t.r, .int .i64 t.c, .slice t.A t.n t.d] 33).2
      obtain ⟨x0, x1, x2, -⟩ := hbox.three
      have hrd2 := Lib.hid (hrd.out.on hbb)
      replace hb2 := on hb2 hbb
      by_cases hkl : k < lim
      · obtain rfl : q = true := hq.1 (HT.out k t hkl ht)
        clear hbox hrd hbb hq ht
        go_wp2_with fail
        refine (HR.out _ hrd2.out).mono ?_
        rintro e w3 ⟨rfl, hb1⟩
        replace hb2 := on hb2 hb1
        clear hb1 HR
        go_wp2
        go_roundw
        case rel => exact ⟨k + 1, by omega, by go_num, hb2⟩
        case measure => simp [intOf]; omega
      · obtain rfl : k = lim := by omega
        rcases HB.out with ⟨he, _⟩ | ⟨_, rfl, t', ht', hn'⟩
        · omega
        · rw [ht] at ht'
          obtain rfl := Option.some.inj ht'
          obtain rfl : q = false := by
            cases q
            · rfl
            · exact absurd (hq.2 rfl) hn'
          clear hbox hrd hbb hq ht HT hn' HB
          go_wp2_with fail
          refine (HR.out _ hrd2.out).mono ?_
          rintro e w3 ⟨rfl, hb1⟩
          replace hb2 := on hb2 hb1
          clear hb1 HR
          go_wp2
          go_ret
          exact ⟨rfl, hb2⟩
    · obtain rfl : k = n := by omega
      obtain rfl : b = true := by
        rcases HB.out with ⟨_, h⟩ | ⟨h, _⟩
        · exact h
        · omega
      clear HT HB
      go_wp2_with fail
      go_ret
      exact ⟨rfl, hb2⟩
theorem first_big (T : List Tb) : ∀ k : Nat, k ≤ T.length → (∀ (i : Nat) (t : Tb), i < k → T[i]? = some t → SmT t) ∨ ∃ lim, lim < k ∧ (∀ (i : Nat) (t : Tb), i < lim → T[i]? = some t → SmT t) ∧ ∃ t, T[lim]? = some t ∧ ¬ SmT t
  | 0, _ => .inl fun i t hi => by omega
  | k + 1, hk => by
    rcases first_big T k (by omega) with h | ⟨lim, hl, h1, h2⟩
    · have ht : T[k]? = some (T[k]'(by omega)) := List.getElem?_eq_getElem (by omega)
      rcases Classical.em (SmT (T[k]'(by omega))) with ha | ha
      · refine .inl fun i t hi hx => ?_
        by_cases e : i = k
        · subst e
          rw [ht] at hx
          rw [← Option.some.inj hx]
          exact ha
        · exact h i t (by omega) hx
      · exact .inr ⟨k, by omega, h, _, ht, ha⟩
    · exact .inr ⟨lim, by omega, h1, h2⟩
theorem small_c (A : Option Addr) (n cap : Nat) (T : List Tb) (b : Bool) (hb : (n ≤ 9 ∧ ∀ t ∈ T, SmT t) ↔ b = true) (w : World) (hz : TabsR w A n T) :
    Calls Tryz.prog 14 #[.slice A n cap] w fun e w' => e = .returned (.bool b) ∧ Below w.heap.size w w' := by
  by_cases h : 9 < n
  · obtain rfl : b = false := by
      cases b
      · rfl
      · have := (hb.2 rfl).1; omega
    exact small_long A n cap h w
  · rcases first_big T n (Nat.le_of_eq hz.1.symm) with ha | ⟨lim, hl, ha, t, ht, hn'⟩
    · have hall : ∀ t ∈ T, SmT t := fun t ht => by
        obtain ⟨i, hi⟩ := List.mem_iff_getElem?.1 ht
        exact ha i t (by rw [← hz.1]; exact (List.getElem?_eq_some_iff.1 hi).1) hi
      exact small_walk A n cap n T b (by omega) (Nat.le_refl _) ha (.inl ⟨rfl, hb.1 ⟨by omega, hall⟩⟩) w hz
    · obtain rfl : b = false := by
        cases b
        · rfl
        · exact absurd ((hb.2 rfl).2 t (List.mem_of_getElem? ht)) hn'
      exact small_walk A n cap lim T false (by omega) (Nat.le_of_lt hl) ha (.inr ⟨hl, rfl, t, ht, hn'⟩) w hz
end Go.Proofs.YtebjedbppiphgaaGreatDoor.Cal
namespace Go.Proofs.YtebjedbppiphgaaGreatDoor.Crt
open Go.RowKit Kit Reg Dec Dig Val
/-- the memory that Of has made, ahead of its loop -/
structure OfMem (w w4 : World) : Prop where
  res : CellsAt w4 (w.heap.size + 1) [.int .i64 0, .int .i64 0, .int .i64 0, .string ⟨#[]⟩]
  words : CellsAt w4 (w.heap.size + 2) [.string ⟨#[60, 62]⟩, .string ⟨#[60, 61]⟩, .string ⟨#[62, 61]⟩, .string ⟨#[60]⟩, .string ⟨#[62]⟩, .string ⟨#[61]⟩]
  ops : CellsAt w4 (w.heap.size + 3) [.int .i64 8, .int .i64 10, .int .i64 12, .int .i64 9, .int .i64 11, .int .i64 7]
  below : Below w.heap.size w w4

theorem OfMem.start (w : World) (k : Int) (t : ByteArray) : OfMem w ((((w.alloc (.cells #[.int .i64 k, .int .i64 0, .string t] 23)).alloc (.cells #[.int .i64 0, .int .i64 0, .int .i64 0, .string ⟨#[]⟩] 233)).alloc (.cells #[.string ⟨#[60, 62]⟩, .string ⟨#[60, 61]⟩, .string ⟨#[62, 61]⟩, .string ⟨#[60]⟩, .string ⟨#[62]⟩, .string ⟨#[61]⟩] 9)).alloc (.cells #[.int .i64 8, .int .i64 10, .int .i64 12, .int .i64 9, .int .i64 11, .int .i64 7] 3)) := by
  refine ⟨(((cells_new (g := w.heap.size + 1) (by simp) [.int .i64 0, .int .i64 0, .int .i64 0, .string ⟨#[]⟩] _).on_alloc _).on_alloc _), ((cells_new (g := w.heap.size + 2) (by simp) [.string ⟨#[60, 62]⟩, .string ⟨#[60, 61]⟩, .string ⟨#[62, 61]⟩, .string ⟨#[60]⟩, .string ⟨#[62]⟩, .string ⟨#[61]⟩] _).on_alloc _), cells_new (g := w.heap.size + 3) (by simp) [.int .i64 8, .int .i64 10, .int .i64 12, .int .i64 9, .int .i64 11, .int .i64 7] _, below4 _ _ _ _ _⟩
end Go.Proofs.YtebjedbppiphgaaGreatDoor.Crt
namespace Go.Proofs.YtebjedbppiphgaaGreatDoor.Crt
open Go.RowKit Kit Reg Dec Dig
theorem infoT : (Tryz.prog.info? 4).map (fun i => (i.zero, i.size, i.bytes)) = some (some (.bool false), 1, 1) := by kernel_rfl
end Go.Proofs.YtebjedbppiphgaaGreatDoor.Crt
namespace Go.Proofs.YtebjedbppiphgaaGreatDoor.Crt
open Go.RowKit Kit Reg Dec Dig Val
/-- what a law's call answers -/
def LawEnd (w : World) : Ending → World → Prop := fun e w' => e = .returned (.bool true) ∧ Below w.heap.size w w'
theorem none_of {t : ByteArray} (h : decide (t.size = 0) = true) : t = ⟨#[]⟩ := by
  rcases empty_or t with rfl | ⟨_, hz⟩
  · rfl
  · rw [hz] at h; cases h
theorem may_ways {k n : Int} {t : ByteArray} (h : mayV k n t = true) :
    (k = 0 ∧ n = 0 ∧ t = ⟨#[]⟩) ∨ (k = 1 ∧ t = ⟨#[]⟩ ∧ mayD n = true) ∨ (k = 2 ∧ n = 0 ∧ t.size ≤ 256) ∨ (k = 3 ∧ t = ⟨#[]⟩ ∧ (n = 0 ∨ n = 1)) ∨ (k = 4 ∧ t = ⟨#[]⟩) := by
  unfold mayV at h
  simp only [Bool.or_eq_true, Bool.and_eq_true] at h
  rcases h with (((⟨⟨h1, h2⟩, h3⟩ | ⟨⟨h1, h2⟩, h3⟩) | ⟨⟨h1, h2⟩, h3⟩) | ⟨⟨h1, h2⟩, h3⟩) | ⟨⟨⟨h1, h2⟩, h3⟩, h4⟩
  · exact .inl ⟨of_decide_eq_true h1, of_decide_eq_true h3, none_of h2⟩
  · exact .inr (.inl ⟨of_decide_eq_true h1, none_of h2, h3⟩)
  · exact .inr (.inr (.inl ⟨of_decide_eq_true h1, of_decide_eq_true h2, of_decide_eq_true h3⟩))
  · exact .inr (.inr (.inr (.inl ⟨of_decide_eq_true h1, none_of h2, h3.imp of_decide_eq_true of_decide_eq_true⟩)))
  · exact .inr (.inr (.inr (.inr ⟨of_decide_eq_true h1, none_of h2⟩)))
end Go.Proofs.YtebjedbppiphgaaGreatDoor.Crt
namespace Go.Proofs.YtebjedbppiphgaaGreatDoor.Lok
open Dec Dig Val Fld
/-- the number as which a value counts, and the product of two -/
def numN (v : Vl) : Int := if v.k = 1 then v.n else 0
theorem scaled_zero {a : Int} (h : -9223372036854775807 ≤ a) : scaledD a 0 10000 = (0, true) := by
  have hr : roundN (a.natAbs * (0 : Int).natAbs) (10000 : Int).natAbs = 0 := by
    show roundN (a.natAbs * 0) 10000 = 0
    rw [Nat.mul_zero]
    rfl
  rw [scaledD_in h (by omega) (by omega) (by omega) hr (by omega)]
  unfold signed
  split <;> rfl
end Go.Proofs.YtebjedbppiphgaaGreatDoor.Lok
namespace Go.Proofs.YtebjedbppiphgaaGreatDoor.Lok
open Go.RowKit Kit Reg Dec Dig Val Fld
/-- a new slice of one value -/
def NewV (cs : List Value) (v : Value) (w : World) : Prop := ∃ b, v = .slice (some ⟨b, 0, none⟩) 1 1 ∧ CellsAt w b cs
theorem NewV.up {cs : List Value} {v : Value} {w : World} (h : Up (NewV cs v) w) : NewV cs v w := by
  obtain ⟨w1, ⟨b, e, h1⟩, hb⟩ := h
  exact ⟨b, e, h1.on hb⟩
end Go.Proofs.YtebjedbppiphgaaGreatDoor.Lok
namespace Go.Proofs.YtebjedbppiphgaaGreatDoor.Lok
open Go.RowKit Kit Reg Dec Dig Val Fld
open Crt (CLibs LawEnd)
/-- a block that holds the cells of values reads as them -/
theorem vals_of_cells {w : World} {b n : Nat} {L : List Vl} (h : CellsAt w b (flatV L)) (hl : L.length = n) (hn : n ≤ 1000) (hf : ∀ v ∈ L, v.fits) : ValsR w (some ⟨b, 0, none⟩) n L :=
  ⟨hl, hn, hf, fun _ => ⟨b, 0, rfl, h.1, fun k v hk j x hj => by
    rw [Nat.zero_add]
    exact (h.2 _ x (flatV_at L k v hk j x hj)).1⟩⟩
end Go.Proofs.YtebjedbppiphgaaGreatDoor.Lok
namespace Go.Proofs.YtebjedbppiphgaaGreatDoor.Cal
open Go.RowKit Kit Reg Dec Dig Val Fld
set_option maxRecDepth 100000 in
set_option maxHeartbeats 2000000 in
theorem one_c (xk xn : Int) (xt : ByteArray) (hx : (⟨xk, xn, xt⟩ : Vl).fits) (w : World) :
    Calls Tryz.prog 25 #[.agg #[.int .i64 xk, .int .i64 xn, .string xt]] w fun e w' => ∃ g, w.heap.size ≤ g ∧ e = .returned (.agg #[.int .i64 1, .int .i64 1, .slice (some ⟨g, 0, none⟩) 1 1]) ∧ ValsR w' (some ⟨g, 0, none⟩) 1 [⟨xk, xn, xt⟩] ∧ Below w.heap.size w w' := by
  go_enter Tryz.func25, Tryz.ntmps25
  go_wp2_with fail
  have hb := on_alloc (below2 w (.cells #[.int .i64 xk, .int .i64 xn, .string xt] 23) (.cells #[.int .i64 1, .int .i64 1, .slice (some ⟨w.heap.size + 1 + 1, 0, none⟩) 1 1] 33)) (.cells #[.int .i64 xk, .int .i64 xn, .string xt] 23)
  have h2 := (CellsAt.new (w.alloc (.cells #[.int .i64 xk, .int .i64 xn, .string xt] 23)) [.int .i64 1, .int .i64 1, .slice (some ⟨w.heap.size + 1 + 1, 0, none⟩) 1 1] 33).on_alloc (.cells #[.int .i64 xk, .int .i64 xn, .string xt] 23)
  have h3 := CellsAt.new ((w.alloc (.cells #[.int .i64 xk, .int .i64 xn, .string xt] 23)).alloc (.cells #[.int .i64 1, .int .i64 1, .slice (some ⟨w.heap.size + 1 + 1, 0, none⟩) 1 1] 33)) [.int .i64 xk, .int .i64 xn, .string xt] 23
  rw [show (w.alloc (.cells #[.int .i64 xk, .int .i64 xn, .string xt] 23)).heap.size = w.heap.size + 1 by simp] at h2
  rw [show ((w.alloc (.cells #[.int .i64 xk, .int .i64 xn, .string xt] 23)).alloc (.cells #[.int .i64 1, .int .i64 1, .slice (some ⟨w.heap.size + 1 + 1, 0, none⟩) 1 1] 33)).heap.size = w.heap.size + 1 + 1 by simp] at h3
  generalize (((w.alloc (.cells #[.int .i64 xk, .int .i64 xn, .string xt] 23)).alloc (.cells #[.int .i64 1, .int .i64 1, .slice (some ⟨w.heap.size + 1 + 1, 0, none⟩) 1 1] 33)).alloc (.cells #[.int .i64 xk, .int .i64 xn, .string xt] 23)) = W at *
  obtain ⟨z0, z1, z2, -⟩ := h2.three
  have hv : ValsR W (some ⟨w.heap.size + 1 + 1, 0, none⟩) 1 [⟨xk, xn, xt⟩] := Lok.vals_of_cells (L := [⟨xk, xn, xt⟩]) h3 rfl (by decide) (fun v hv => by rw [List.mem_singleton.1 hv]; exact hx)
  exact bodyPost_ret (v := .agg #[.int .i64 1, .int .i64 1, .slice (some ⟨w.heap.size + 1 + 1, 0, none⟩) 1 1]) (by simp [results, Tryz.results25, go_sem, z0, z1, z2]) rfl ⟨_, by omega, rfl, hv, hb⟩
end Go.Proofs.YtebjedbppiphgaaGreatDoor.Cal
namespace Go.Proofs.YtebjedbppiphgaaGreatDoor.Cal
open Go.RowKit Kit Reg Dec Dig Val Fld
open Crt (CLibs)
def LawEnd (w : World) : Ending → World → Prop := fun e w' => e = .returned (.bool true) ∧ Below w.heap.size w w'

end Go.Proofs.YtebjedbppiphgaaGreatDoor.Cal
