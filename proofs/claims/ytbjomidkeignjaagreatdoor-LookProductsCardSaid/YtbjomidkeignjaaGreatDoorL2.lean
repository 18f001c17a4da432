/- Whether a table may be: package look's shaped and May, the reference's Right and May, at every table of at most 1200 values. Written by wip/gen18a.py.
   What stands at a place of a table: package look's At, the reference's In and At. Written by wip/gen18b.py.
   Whether a table is small: the laws' small, at every table. Written by wip/gen18k.py. -/
import Derived.Test.YtbjomidkeignjaaGreatDoorL1
import Derived.Test.YtbjomidkeignjaaGreatDoorGa
import Derived.Test.YtbjomidkeignjaaGreatDoorG9
import Derived.Test.YtbjomidkeignjaaGreatDoorG14
namespace Go.Proofs.YtbjomidkeignjaaGreatDoor.Lok
open Go.RowKit Kit Reg Dec Dig Val Fld

set_option maxRecDepth 100000 in
set_option maxHeartbeats 2000000 in
theorem shaped_r (r c : Int) (A : Option Addr) (n cap : Nat) (h1 : r < 1) (w : World) :
    Calls Tryz.prog 31 #[.agg #[.int .i64 r, .int .i64 c, .slice A n cap]] w (Bit false w) := by
  have d1 : decide (r < 1) = true := decide_eq_true (by omega)
  go_enter Tryz.func31, Tryz.ntmps31
  go_wp2
  go_ret
  exact ⟨rfl, below1 _ _⟩
set_option maxRecDepth 100000 in
set_option maxHeartbeats 2000000 in
theorem shaped_c (r c : Int) (A : Option Addr) (n cap : Nat) (h1 : 1 ≤ r) (h2 : c < 1) (w : World) :
    Calls Tryz.prog 31 #[.agg #[.int .i64 r, .int .i64 c, .slice A n cap]] w (Bit false w) := by
  have d1 : decide (r < 1) = false := decide_eq_false (by omega)
  have d2 : decide (c < 1) = true := decide_eq_true (by omega)
  go_enter Tryz.func31, Tryz.ntmps31
  go_wp2
  go_ret
  exact ⟨rfl, below1 _ _⟩
set_option maxRecDepth 100000 in
set_option maxHeartbeats 2000000 in
theorem shaped_n (r c : Int) (A : Option Addr) (n cap : Nat) (h1 : 1 ≤ r) (h2 : 1 ≤ c) (h3 : 1000 < n) (w : World) :
    Calls Tryz.prog 31 #[.agg #[.int .i64 r, .int .i64 c, .slice A n cap]] w (Bit false w) := by
  have d1 : decide (r < 1) = false := decide_eq_false (by omega)
  have d2 : decide (c < 1) = false := decide_eq_false (by omega)
  have d3 : decide ((1000 : Int) < (n : Int)) = true := decide_eq_true (by omega)
  have d4 : decide (1000 < n) = true := decide_eq_true (by omega)
  go_enter Tryz.func31, Tryz.ntmps31
  go_wp2
  go_ret
  exact ⟨rfl, below1 _ _⟩
set_option maxRecDepth 100000 in
set_option maxHeartbeats 2000000 in
theorem shaped_m (r c : Int) (A : Option Addr) (n cap : Nat) (h1 : 1 ≤ r) (h2 : 1 ≤ c) (h3 : n ≤ 1000) (m : Int) (hm : (n : Int).tmod c = m) (hm0 : ¬ m = 0) (w : World) :
    Calls Tryz.prog 31 #[.agg #[.int .i64 r, .int .i64 c, .slice A n cap]] w (Bit false w) := by
  have d1 : decide (r < 1) = false := decide_eq_false (by omega)
  have d2 : decide (c < 1) = false := decide_eq_false (by omega)
  have d3 : decide ((1000 : Int) < (n : Int)) = false := decide_eq_false (by omega)
  have d4 : decide (1000 < n) = false := decide_eq_false (by omega)
  have q0 : (c == 0) = false := by rw [beq_eq_false_iff_ne]; omega
  have q1 : ¬ c = 0 := by omega
  have q2 : (m == 0) = false := by rw [beq_eq_false_iff_ne]; exact hm0
  go_enter Tryz.func31, Tryz.ntmps31
  go_wp2_with fail
  go_quiet (fail)
  go_wp2
  go_ret
  exact ⟨rfl, on (below1 _ _) (drew_below rfl)⟩
set_option maxRecDepth 100000 in
set_option maxHeartbeats 2000000 in
theorem shaped_q (r c : Int) (A : Option Addr) (n cap : Nat) (h1 : 1 ≤ r) (h2 : 1 ≤ c) (h3 : n ≤ 1000) (hm : (n : Int).tmod c = 0) (q : Int) (hq : (n : Int).tdiv c = q) (hqr : ¬ q = r) (w : World) :
    Calls Tryz.prog 31 #[.agg #[.int .i64 r, .int .i64 c, .slice A n cap]] w (Bit false w) := by
  have d1 : decide (r < 1) = false := decide_eq_false (by omega)
  have d2 : decide (c < 1) = false := decide_eq_false (by omega)
  have d3 : decide ((1000 : Int) < (n : Int)) = false := decide_eq_false (by omega)
  have d4 : decide (1000 < n) = false := decide_eq_false (by omega)
  have q0 : (c == 0) = false := by rw [beq_eq_false_iff_ne]; omega
  have q1 : ¬ c = 0 := by omega
  have q3 : 0 ≤ q := hq ▸ Int.tdiv_nonneg (by omega) (by omega)
  have q4 : q ≤ 1000 := hq ▸ Int.le_trans (Int.tdiv_le_self _ (by omega)) (by omega)
  have q2 : (q == r) = false := by rw [beq_eq_false_iff_ne]; exact hqr
  go_enter Tryz.func31, Tryz.ntmps31
  go_wp2_with fail
  go_quiet (fail)
  go_wp2
  go_ret
  exact ⟨rfl, on (below1 _ _) (drew_below rfl)⟩
set_option maxRecDepth 100000 in
set_option maxHeartbeats 2000000 in
theorem shaped_y (r c : Int) (A : Option Addr) (n cap : Nat) (h1 : 1 ≤ r) (h2 : 1 ≤ c) (h3 : n ≤ 1000) (hm : (n : Int).tmod c = 0) (hq : (n : Int).tdiv c = r) (w : World) :
    Calls Tryz.prog 31 #[.agg #[.int .i64 r, .int .i64 c, .slice A n cap]] w (Bit true w) := by
  have d1 : decide (r < 1) = false := decide_eq_false (by omega)
  have d2 : decide (c < 1) = false := decide_eq_false (by omega)
  have d3 : decide ((1000 : Int) < (n : Int)) = false := decide_eq_false (by omega)
  have d4 : decide (1000 < n) = false := decide_eq_false (by omega)
  have q0 : (c == 0) = false := by rw [beq_eq_false_iff_ne]; omega
  have q1 : ¬ c = 0 := by omega
  have q4 : r ≤ 1000 := hq ▸ Int.le_trans (Int.tdiv_le_self _ (by omega)) (by omega)
  go_enter Tryz.func31, Tryz.ntmps31
  go_wp2_with fail
  go_quiet (fail)
  go_wp2
  go_ret
  exact ⟨rfl, on (below1 _ _) (drew_below rfl)⟩
theorem shaped_no (r c : Int) (A : Option Addr) (n cap : Nat) (h : ¬ Good r c n) (w : World) :
    Calls Tryz.prog 31 #[.agg #[.int .i64 r, .int .i64 c, .slice A n cap]] w (Bit false w) := by
  rcases bad_ways h with h1 | ⟨h1, h2⟩ | ⟨h1, h2, h3⟩ | ⟨h1, h2, h3, h4⟩ | ⟨h1, h2, h3, h4, h5⟩
  · exact shaped_r r c A n cap h1 w
  · exact shaped_c r c A n cap h1 h2 w
  · exact shaped_n r c A n cap h1 h2 h3 w
  · exact shaped_m r c A n cap h1 h2 h3 _ rfl h4 w
  · exact shaped_q r c A n cap h1 h2 h3 h4 _ rfl h5 w
theorem shaped_yes (r c : Int) (A : Option Addr) (n cap : Nat) (h : Good r c n) (w : World) :
    Calls Tryz.prog 31 #[.agg #[.int .i64 r, .int .i64 c, .slice A n cap]] w (Bit true w) := by
  obtain ⟨R, C, rfl, rfl, h1, h2, h3, h4, _, _⟩ := h.nat
  exact shaped_y R C A n cap (by omega) (by omega) h3 (good_div h2 h4).1 (good_div h2 h4).2 w
set_option maxRecDepth 100000 in
set_option maxHeartbeats 2000000 in
theorem may_shape (r c : Int) (A : Option Addr) (n cap : Nat) (h : ¬ Good r c n) (w : World) :
    Calls Tryz.prog 8 #[.agg #[.int .i64 r, .int .i64 c, .slice A n cap]] w (Bit false w) := by
  have HS := Lib.hid (fun w1 => shaped_no r c A n cap h w1)
  have hc0 := CellsAt.new w [.int .i64 r, .int .i64 c, .slice A n cap] 24
  have hb0 := below1 w (.cells #[.int .i64 r, .int .i64 c, .slice A n cap] 24)
  go_enter Tryz.func8, Tryz.ntmps8
  go_wp2_with fail
  generalize w.alloc (.cells #[.int .i64 r, .int .i64 c, .slice A n cap] 24) = W at *
  refine (HS.out _).mono ?_
  rintro e w1 ⟨rfl, hb1⟩
  replace hc0 := hc0.on hb1
  replace hb0 := on hb0 hb1
  clear HS hb1
  go_wp2
  go_ret
  exact ⟨rfl, hb0⟩
set_option maxRecDepth 100000 in
set_option maxHeartbeats 2000000 in
theorem may_yes (r c : Int) (A : Option Addr) (n cap : Nat) (L : List Vl) (h : Good r c n) (hm : ∀ v ∈ L, v.may) (w : World) (hz : ValsR w A n L) :
    Calls Tryz.prog 8 #[.agg #[.int .i64 r, .int .i64 c, .slice A n cap]] w (Bit true w) := by
  have HS := Lib.hid (fun w1 => shaped_yes r c A n cap h w1)
  have HR := Lib.hid (fun k n t b (h : mayV k n t = b) w1 => mayv_c k n t b h w1)
  have hn9 := hz.2.1
  have HM : Hid (∀ (k : Nat) (v : Vl), L[k]? = some v → v.may) := Lib.hid fun k v hv => hm v (List.mem_of_getElem? hv)
  have hc0 := CellsAt.new w [.int .i64 r, .int .i64 c, .slice A n cap] 24
  have hb0 := below1 w (.cells #[.int .i64 r, .int .i64 c, .slice A n cap] 24)
  have HZ := Lib.hid (hz.on hb0)
  clear hz hm h
  go_enter Tryz.func8, Tryz.ntmps8
  go_wp2_with fail
  generalize w.alloc (.cells #[.int .i64 r, .int .i64 c, .slice A n cap] 24) = W at *
  refine (HS.out _).mono ?_
  rintro e w1 ⟨rfl, hb1⟩
  replace hc0 := hc0.on hb1
  replace hb0 := on hb0 hb1
  replace HZ := Lib.hid (HZ.out.on hb1)
  clear HS hb1
  obtain ⟨t0, t1, t2, _⟩ := hc0.three
  go_wp2_with fail
  clear t0 t1 t2
  go_loopw [11] (fun i wr => ∃ k : Nat, k ≤ n ∧ i = .int .i64 k ∧ Below w1.heap.size w1 wr) (fun i _ => n - (intOf i).toNat)
  case atStart => exact ⟨0, Nat.zero_le _, rfl, Below.refl _ _⟩
  case round =>
    obtain ⟨k, hk, rfl, hb1⟩ := hrel
    by_cases hlt : k < n
    · obtain ⟨v, hv⟩ := HZ.out.get hlt
      obtain ⟨b, o, rfl, hb, c0, c1, c2⟩ := (HZ.out.on hb1).at hv
      have hm := HM.out k v hv
      obtain ⟨vk, vn, vt⟩ := v
      dsimp only at c0 c1 c2
      have HR2 := Lib.hid (HR.out vk vn vt true hm)
      have hx := CellsAt.new wr [.int .i64 vk, .int .i64 vn, .string vt] 26
      obtain ⟨x0, x1, x2, _⟩ := hx.three
      replace hb1 := on_alloc hb1 (.cells #[.int .i64 vk, .int .i64 vn, .string vt] 26)
      clear hv hm HR hx
      go_wp2_with fail
      refine (HR2.out _).mono ?_
      rintro e w2 ⟨rfl, hb2⟩
      replace hb1 := on hb1 hb2
      clear hb2 HR2 c0 c1 c2 x0 x1 x2
      go_wp2_with fail
      go_roundw
      case rel => exact ⟨k + 1, by omega, by go_num, hb1⟩
      case measure => simp [intOf]; omega
    · obtain rfl : k = n := by omega
      clear HR
      go_wp2_with fail
      go_ret
      exact ⟨rfl, on hb0 hb1⟩
set_option maxRecDepth 100000 in
set_option maxHeartbeats 2000000 in
theorem may_bad (r c : Int) (A : Option Addr) (n cap : Nat) (L : List Vl) (h : Good r c n) (p : Nat) (x : Vl) (hp : L[p]? = some x) (hx : ¬ x.may) (hm : ∀ i (u : Vl), i < p → L[i]? = some u → u.may) (w : World) (hz : ValsR w A n L) :
    Calls Tryz.prog 8 #[.agg #[.int .i64 r, .int .i64 c, .slice A n cap]] w (Bit false w) := by
  have HS := Lib.hid (fun w1 => shaped_yes r c A n cap h w1)
  have HR := Lib.hid (fun k n t b (h : mayV k n t = b) w1 => mayv_c k n t b h w1)
  have hn9 := hz.2.1
  have HM := Lib.hid hm
  have HP := Lib.hid hp
  have HX := Lib.hid hx
  have hpn : p < n := by have := (List.getElem?_eq_some_iff.1 hp).1; rw [hz.1] at this; exact this
  have hc0 := CellsAt.new w [.int .i64 r, .int .i64 c, .slice A n cap] 24
  have hb0 := below1 w (.cells #[.int .i64 r, .int .i64 c, .slice A n cap] 24)
  have HZ := Lib.hid (hz.on hb0)
  clear hz hm h hp hx
  go_enter Tryz.func8, Tryz.ntmps8
  go_wp2_with fail
  generalize w.alloc (.cells #[.int .i64 r, .int .i64 c, .slice A n cap] 24) = W at *
  refine (HS.out _).mono ?_
  rintro e w1 ⟨rfl, hb1⟩
  replace hc0 := hc0.on hb1
  replace hb0 := on hb0 hb1
  replace HZ := Lib.hid (HZ.out.on hb1)
  clear HS hb1
  obtain ⟨t0, t1, t2, _⟩ := hc0.three
  go_wp2_with fail
  clear t0 t1 t2
  go_loopw [11] (fun i wr => ∃ k : Nat, k ≤ p ∧ i = .int .i64 k ∧ Below w1.heap.size w1 wr) (fun i _ => n - (intOf i).toNat)
  case atStart => exact ⟨0, Nat.zero_le _, rfl, Below.refl _ _⟩
  case round =>
    obtain ⟨k, hk, rfl, hb1⟩ := hrel
    have hlt : k < n := by omega
    obtain ⟨v, hv⟩ := HZ.out.get hlt
    obtain ⟨b, o, rfl, hb, c0, c1, c2⟩ := (HZ.out.on hb1).at hv
    have hyes : Hid (k < p → v.may) := Lib.hid fun h => HM.out k v h hv
    have hno : Hid (k = p → ¬ v.may) := Lib.hid fun h => by
      subst h
      obtain rfl := Option.some.inj (hv.symm.trans HP.out)
      exact HX.out
    clear HM HP HX hv
    obtain ⟨vk, vn, vt⟩ := v
    dsimp only at c0 c1 c2
    have hx := CellsAt.new wr [.int .i64 vk, .int .i64 vn, .string vt] 26
    obtain ⟨x0, x1, x2, _⟩ := hx.three
    replace hb1 := on_alloc hb1 (.cells #[.int .i64 vk, .int .i64 vn, .string vt] 26)
    clear hx
    by_cases hkp : k < p
    · have HR2 := Lib.hid (HR.out vk vn vt true (hyes.out hkp))
      clear HR hyes hno
      go_wp2_with fail
      refine (HR2.out _).mono ?_
      rintro e w2 ⟨rfl, hb2⟩
      replace hb1 := on hb1 hb2
      clear hb2 HR2 c0 c1 c2 x0 x1 x2
      go_wp2_with fail
      go_roundw
      case rel => exact ⟨k + 1, by omega, by go_num, hb1⟩
      case measure => simp [intOf]; omega
    · obtain rfl : k = p := by omega
      have HR2 := Lib.hid (HR.out vk vn vt false (Bool.eq_false_iff.2 (hno.out rfl)))
      clear HR hyes hno
      go_wp2_with fail
      refine (HR2.out _).mono ?_
      rintro e w2 ⟨rfl, hb2⟩
      replace hb1 := on hb1 hb2
      clear hb2 HR2 c0 c1 c2 x0 x1 x2
      go_wp2_with fail
      go_ret
      exact ⟨rfl, on hb0 hb1⟩
set_option maxRecDepth 100000 in
set_option maxHeartbeats 10000000 in
theorem right1000_yes (A : Option Addr) (n cap : Nat) (L : List Vl) (hn : n ≤ 1000) (hm : ∀ v ∈ L, v.may) (w : World) (hz : ValsR w A n L) :
    Calls Tryz.prog 33 #[.slice A n cap, .int .i64 1000] w fun e w' => e = .returned (.bool true) ∧ Below w.heap.size w w' := by
  have HZ := Lib.hid hz
  have HM : Hid (∀ k (v : Vl), L[k]? = some v → v.may) := Lib.hid fun k v hv => hm v (List.mem_of_getElem? hv)
  have d1 : decide ((1000 : Int) < (n : Int)) = false := decide_eq_false (by omega)
  have d2 : decide (1000 < n) = false := decide_eq_false (by omega)
  have HR := Lib.hid (fun k n t (h : mayV k n t = true) w1 => rmayv_c k n t true h w1)
  clear hz hm
  go_enter Tryz.func33, Tryz.ntmps33
  go_wp2_with fail
  go_loopw [5] (fun i wr => ∃ k : Nat, k ≤ n ∧ i = .int .i64 k ∧ Below w.heap.size w wr) (fun i _ => n - (intOf i).toNat)
  case atStart => exact ⟨0, Nat.zero_le _, rfl, Below.refl _ _⟩
  case round =>
    obtain ⟨k, hk, rfl, hb0⟩ := hrel
    by_cases hlt : k < n
    · obtain ⟨v, hv⟩ := HZ.out.get hlt
      obtain ⟨b, o, rfl, hb, c0, c1, c2⟩ := (HZ.out.on hb0).at hv
      have hm := HM.out k v hv
      obtain ⟨vk, vn, vt⟩ := v
      dsimp only at c0 c1 c2
      have HR2 := Lib.hid (HR.out vk vn vt hm)
      clear hv hm HR
      go_wp2_with fail
      refine (HR2.out _).mono ?_
      rintro e w1 ⟨rfl, hb1⟩
      replace hb0 := on hb0 hb1
      clear hb1 HR2 c0 c1 c2
      go_wp2_with fail
      go_roundw
      case rel => exact ⟨k + 1, by omega, by go_num, hb0⟩
      case measure => simp [intOf]; omega
    · obtain rfl : k = n := by omega
      clear HR
      go_wp2_with fail
      go_ret
      exact ⟨rfl, hb0⟩
set_option maxRecDepth 100000 in
set_option maxHeartbeats 10000000 in
theorem right1000_no (A : Option Addr) (n cap : Nat) (L : List Vl) (hn : n ≤ 1000) (p : Nat) (x : Vl) (hp : L[p]? = some x) (hx : ¬ x.may) (hm : ∀ i (u : Vl), i < p → L[i]? = some u → u.may) (w : World) (hz : ValsR w A n L) :
    Calls Tryz.prog 33 #[.slice A n cap, .int .i64 1000] w fun e w' => e = .returned (.bool false) ∧ Below w.heap.size w w' := by
  have HZ := Lib.hid hz
  have HM := Lib.hid hm
  have HP := Lib.hid hp
  have HX := Lib.hid hx
  have hpn : p < n := by have := (List.getElem?_eq_some_iff.1 hp).1; rw [hz.1] at this; exact this
  have d1 : decide ((1000 : Int) < (n : Int)) = false := decide_eq_false (by omega)
  have d2 : decide (1000 < n) = false := decide_eq_false (by omega)
  have HR := Lib.hid (fun k n t b (h : mayV k n t = b) w1 => rmayv_c k n t b h w1)
  clear hz hm hp hx
  go_enter Tryz.func33, Tryz.ntmps33
  go_wp2_with fail
  go_loopw [5] (fun i wr => ∃ k : Nat, k ≤ p ∧ i = .int .i64 k ∧ Below w.heap.size w wr) (fun i _ => n - (intOf i).toNat)
  case atStart => exact ⟨0, Nat.zero_le _, rfl, Below.refl _ _⟩
  case round =>
    obtain ⟨k, hk, rfl, hb0⟩ := hrel
    have hlt : k < n := by omega
    obtain ⟨v, hv⟩ := HZ.out.get hlt
    obtain ⟨b, o, rfl, hb, c0, c1, c2⟩ := (HZ.out.on hb0).at hv
    have hyes : Hid (k < p → v.may) := Lib.hid fun h => HM.out k v h hv
    have hno : Hid (k = p → ¬ v.may) := Lib.hid fun h => by
      subst h
      obtain rfl := Option.some.inj (hv.symm.trans HP.out)
      exact HX.out
    clear HM HP HX hv
    obtain ⟨vk, vn, vt⟩ := v
    dsimp only at c0 c1 c2
    by_cases hkp : k < p
    · have HR2 := Lib.hid (HR.out vk vn vt true (hyes.out hkp))
      clear HR hyes hno
      go_wp2_with fail
      refine (HR2.out _).mono ?_
      rintro e w1 ⟨rfl, hb1⟩
      replace hb0 := on hb0 hb1
      clear hb1 HR2 c0 c1 c2
      go_wp2_with fail
      go_roundw
      case rel => exact ⟨k + 1, by omega, by go_num, hb0⟩
      case measure => simp [intOf]; omega
    · obtain rfl : k = p := by omega
      have HR2 := Lib.hid (HR.out vk vn vt false (Bool.eq_false_iff.2 (hno.out rfl)))
      clear HR hyes hno
      go_wp2_with fail
      refine (HR2.out _).mono ?_
      rintro e w1 ⟨rfl, hb1⟩
      replace hb0 := on hb0 hb1
      clear hb1 HR2 c0 c1 c2
      go_wp2_with fail
      go_ret
      exact ⟨rfl, hb0⟩
set_option maxRecDepth 100000 in
theorem right1000_long (A : Option Addr) (n cap : Nat) (hn : 1000 < n) (w : World) :
    Calls Tryz.prog 33 #[.slice A n cap, .int .i64 1000] w fun e w' => e = .returned (.bool false) ∧ Below w.heap.size w w' := by
  have d1 : decide ((1000 : Int) < (n : Int)) = true := decide_eq_true (by omega)
  go_enter Tryz.func33, Tryz.ntmps33
  go_wp2_with fail
  go_ret
  exact ⟨rfl, Below.refl _ _⟩
set_option maxRecDepth 100000 in
set_option maxHeartbeats 2000000 in
theorem rmay_r (r c : Int) (A : Option Addr) (n cap : Nat) (h1 : r < 1) (w : World) :
    Calls Tryz.prog 9 #[.agg #[.int .i64 r, .int .i64 c, .slice A n cap]] w (Bit false w) := by
  have d1 : decide (r < 1) = true := decide_eq_true (by omega)
  go_enter Tryz.func9, Tryz.ntmps9
  go_wp2
  go_ret
  exact ⟨rfl, below1 _ _⟩
set_option maxRecDepth 100000 in
set_option maxHeartbeats 2000000 in
theorem rmay_c0 (r c : Int) (A : Option Addr) (n cap : Nat) (h1 : 1 ≤ r) (h2 : c < 1) (w : World) :
    Calls Tryz.prog 9 #[.agg #[.int .i64 r, .int .i64 c, .slice A n cap]] w (Bit false w) := by
  have d1 : decide (r < 1) = false := decide_eq_false (by omega)
  have d2 : decide (c < 1) = true := decide_eq_true (by omega)
  go_enter Tryz.func9, Tryz.ntmps9
  go_wp2
  go_ret
  exact ⟨rfl, below1 _ _⟩
set_option maxRecDepth 100000 in
set_option maxHeartbeats 2000000 in
theorem rmay_r9 (r c : Int) (A : Option Addr) (n cap : Nat) (_h1 : 1 ≤ r) (h2 : 1 ≤ c) (h3 : 1000 < r) (w : World) :
    Calls Tryz.prog 9 #[.agg #[.int .i64 r, .int .i64 c, .slice A n cap]] w (Bit false w) := by
  have d1 : decide (r < 1) = false := decide_eq_false (by omega)
  have d2 : decide (c < 1) = false := decide_eq_false (by omega)
  have e1 : decide ((1000 : Int) < r) = true := decide_eq_true (by omega)
  go_enter Tryz.func9, Tryz.ntmps9
  go_wp2
  go_ret
  exact ⟨rfl, below1 _ _⟩
set_option maxRecDepth 100000 in
set_option maxHeartbeats 2000000 in
theorem rmay_c9 (r c : Int) (A : Option Addr) (n cap : Nat) (h1 : 1 ≤ r) (_h2 : 1 ≤ c) (h3 : r ≤ 1000) (h4 : 1000 < c) (w : World) :
    Calls Tryz.prog 9 #[.agg #[.int .i64 r, .int .i64 c, .slice A n cap]] w (Bit false w) := by
  have d1 : decide (r < 1) = false := decide_eq_false (by omega)
  have d2 : decide (c < 1) = false := decide_eq_false (by omega)
  have e1 : decide ((1000 : Int) < r) = false := decide_eq_false (by omega)
  have e2 : decide ((1000 : Int) < c) = true := decide_eq_true (by omega)
  go_enter Tryz.func9, Tryz.ntmps9
  go_wp2
  go_ret
  exact ⟨rfl, below1 _ _⟩
set_option maxRecDepth 100000 in
set_option maxHeartbeats 2000000 in
theorem rmay_m (r c : Int) (A : Option Addr) (n cap : Nat) (h1 : 1 ≤ r) (h2 : 1 ≤ c) (h3 : r ≤ 1000) (h4 : c ≤ 1000) (m : Int) (hm : r * c = m) (hmn : ¬ m = n) (w : World) :
    Calls Tryz.prog 9 #[.agg #[.int .i64 r, .int .i64 c, .slice A n cap]] w (Bit false w) := by
  have d1 : decide (r < 1) = false := decide_eq_false (by omega)
  have d2 : decide (c < 1) = false := decide_eq_false (by omega)
  have e1 : decide ((1000 : Int) < r) = false := decide_eq_false (by omega)
  have e2 : decide ((1000 : Int) < c) = false := decide_eq_false (by omega)
  have m0 : 0 ≤ m := hm ▸ Int.mul_nonneg (by omega) (by omega)
  have m9 : m ≤ 1000000 := hm ▸ Int.le_trans (Int.mul_le_mul h3 h4 (by omega) (by omega)) (by omega)
  have q : (m == (n : Int)) = false := by rw [beq_eq_false_iff_ne]; exact hmn
  have q2 : (m != (n : Int)) = true := by rw [bne_iff_ne]; exact hmn
  go_enter Tryz.func9, Tryz.ntmps9
  go_wp2
  go_ret
  exact ⟨rfl, below1 _ _⟩
set_option maxRecDepth 100000 in
set_option maxHeartbeats 2000000 in
theorem rmay_in (r c : Int) (A : Option Addr) (n cap : Nat) (h1 : 1 ≤ r) (h2 : 1 ≤ c) (h3 : r ≤ 1000) (h4 : c ≤ 1000) (hm : r * c = (n : Int)) (b : Bool) (w : World) (HR : ∀ w1, Below w.heap.size w w1 → Calls Tryz.prog 33 #[.slice A n cap, .int .i64 1000] w1 (Bit b w1)) :
    Calls Tryz.prog 9 #[.agg #[.int .i64 r, .int .i64 c, .slice A n cap]] w (Bit b w) := by
  have d1 : decide (r < 1) = false := decide_eq_false (by omega)
  have d2 : decide (c < 1) = false := decide_eq_false (by omega)
  have e1 : decide ((1000 : Int) < r) = false := decide_eq_false (by omega)
  have e2 : decide ((1000 : Int) < c) = false := decide_eq_false (by omega)
  have n9 : n ≤ 1000000 := by have := Int.le_trans (Int.le_of_eq hm.symm) (Int.le_trans (Int.mul_le_mul h3 h4 (by omega) (by omega)) (show (1000 : Int) * 1000 ≤ 1000000 by omega)); omega
  have HR := Lib.hid HR
  have hb0 := below1 w (.cells #[.int .i64 r, .int .i64 c, .slice A n cap] 24)
  go_enter Tryz.func9, Tryz.ntmps9
  go_wp2_with fail
  generalize w.alloc (.cells #[.int .i64 r, .int .i64 c, .slice A n cap] 24) = W at *
  refine (HR.out _ hb0).mono ?_
  rintro e w1 ⟨rfl, hb1⟩
  go_wp2
  go_ret
  exact ⟨rfl, on hb0 hb1⟩
/-- whether a table may be -/
def MayT (r c : Int) (n : Nat) (L : List Vl) (b : Bool) : Prop := (b = true ∧ Good r c n ∧ ∀ v ∈ L, v.may) ∨ (b = false ∧ ¬ Good r c n) ∨ (b = false ∧ Good r c n ∧ ∃ (p : Nat) (x : Vl), L[p]? = some x ∧ ¬ x.may ∧ ∀ i (u : Vl), i < p → L[i]? = some u → u.may)
theorem mayT_some (r c : Int) (n : Nat) (L : List Vl) : ∃ b, MayT r c n L b := by
  by_cases h : Good r c n
  · rcases may_or L with h1 | h1
    · exact ⟨true, .inl ⟨rfl, h, h1⟩⟩
    · exact ⟨false, .inr (.inr ⟨rfl, h, h1⟩)⟩
  · exact ⟨false, .inr (.inl ⟨rfl, h⟩)⟩
theorem may_c (r c : Int) (A : Option Addr) (n cap : Nat) (L : List Vl) (b : Bool) (h : MayT r c n L b) (w : World) (hz : n ≤ 1000 → ValsR w A n L) :
    Calls Tryz.prog 8 #[.agg #[.int .i64 r, .int .i64 c, .slice A n cap]] w (Bit b w) := by
  rcases h with ⟨rfl, hg, hm⟩ | ⟨rfl, hg⟩ | ⟨rfl, hg, p, x, hp, hx, hm⟩
  · exact may_yes r c A n cap L hg hm w (hz hg.2.2.1)
  · exact may_shape r c A n cap hg w
  · exact may_bad r c A n cap L hg p x hp hx hm w (hz hg.2.2.1)
theorem rmay_c (r c : Int) (A : Option Addr) (n cap : Nat) (L : List Vl) (b : Bool) (h : MayT r c n L b) (w : World) (hz : n ≤ 1000 → ValsR w A n L) :
    Calls Tryz.prog 9 #[.agg #[.int .i64 r, .int .i64 c, .slice A n cap]] w (Bit b w) := by
  have hgo : Good r c n → 1 ≤ r ∧ 1 ≤ c ∧ r ≤ 1000 ∧ c ≤ 1000 := fun h => by
    obtain ⟨R, C, rfl, rfl, h1, h2, h3, h4, h5, h6⟩ := h.nat
    omega
  rcases h with ⟨rfl, hg, hm⟩ | ⟨rfl, hg⟩ | ⟨rfl, hg, p, x, hp, hx, hm⟩
  · obtain ⟨h1, h2, h3, h4⟩ := hgo hg
    exact rmay_in r c A n cap h1 h2 h3 h4 hg.2.2.2 true w (fun w1 hb => right1000_yes A n cap L hg.2.2.1 hm w1 ((hz hg.2.2.1).on hb))
  · rcases rbad_ways hg with h1 | ⟨h1, h2⟩ | ⟨h1, h2, h3⟩ | ⟨h1, h2, h3, h4⟩ | ⟨h1, h2, h3, h4, h5⟩ | ⟨h1, h2, h3, h4, h5, h6⟩
    · exact rmay_r r c A n cap h1 w
    · exact rmay_c0 r c A n cap h1 h2 w
    · exact rmay_r9 r c A n cap h1 h2 h3 w
    · exact rmay_c9 r c A n cap h1 h2 h3 h4 w
    · exact rmay_m r c A n cap h1 h2 h3 h4 _ rfl h5 w
    · exact rmay_in r c A n cap h1 h2 h3 h4 h5 false w (fun w1 _ => right1000_long A n cap h6 w1)
  · obtain ⟨h1, h2, h3, h4⟩ := hgo hg
    exact rmay_in r c A n cap h1 h2 h3 h4 hg.2.2.2 false w (fun w1 hb => right1000_no A n cap L hg.2.2.1 p x hp hx hm w1 ((hz hg.2.2.1).on hb))
end Go.Proofs.YtbjomidkeignjaaGreatDoor.Lok
namespace Go.Proofs.YtbjomidkeignjaaGreatDoor.Lok
open Go.RowKit Kit Reg Dec Dig Val Fld

theorem newAt {w0 : World} {g : Nat} (hg : w0.heap.size = g) (cs : List Value) (ty : TypeId) : CellsAt (w0.alloc (.cells cs.toArray ty)) g cs := hg ▸ CellsAt.new w0 cs ty
/-- a value that stands there, and true; or the empty one and false -/
def AtIs (v : Vl) (ok : Bool) (w : World) : Ending → World → Prop := fun e w' => e = .returned (.tuple #[.agg #[.int .i64 v.k, .int .i64 v.n, .string v.t], .bool ok]) ∧ Below w.heap.size w w'
/-- such a place there is not -/
def Out (r c row col : Int) : Prop := row < 1 ∨ (1 ≤ row ∧ r < row) ∨ (1 ≤ row ∧ row ≤ r ∧ col < 1) ∨ (1 ≤ row ∧ row ≤ r ∧ 1 ≤ col ∧ c < col)
def Inn (r c row col : Int) : Prop := 1 ≤ row ∧ row ≤ r ∧ 1 ≤ col ∧ col ≤ c
theorem in_or (r c row col : Int) : Inn r c row col ∨ Out r c row col := by unfold Inn Out; omega
/-- the numbers that lead to a place -/
structure Way (r c row col : Int) (n i m s k : Nat) : Prop where
  inn : Inn r c row col
  ei : row - 1 = i
  em : (i : Int) * c = m
  es : (m : Int) + col = s
  ek : (s : Int) - 1 = k
  bound : r ≤ 1000 ∧ m ≤ 1000 ∧ s ≤ 1000 ∧ k < n
theorem Way.of {r c row col : Int} {n : Nat} (h : Good r c n) (hi : Inn r c row col) : ∃ i m s k, Way r c row col n i m s k := by
  obtain ⟨R, C, rfl, rfl, h1, h2, h3, h4, h5, h6⟩ := h.nat
  obtain ⟨i, hi1⟩ := Int.eq_ofNat_of_zero_le (show 0 ≤ row - 1 by have := hi.1; omega)
  obtain ⟨j, hj1⟩ := Int.eq_ofNat_of_zero_le (show 0 ≤ col - 1 by have := hi.2.2.1; omega)
  have hij := place_lt h4 (i := i) (j := j) (by have := hi.2.1; omega) (by have := hi.2.2.2; omega)
  exact ⟨i, i * C, i * C + j + 1, i * C + j, hi, hi1, by rw [Int.natCast_mul], by omega, by omega, by omega, by omega, by omega, hij⟩
theorem Way.at {R C n i j : Nat} {row col : Int} (h1 : 1 ≤ R) (h2 : 1 ≤ C) (h3 : n ≤ 1000) (h4 : R * C = n) (hi : i < R) (hj : j < C) (hr : row = (i : Int) + 1) (hc : col = (j : Int) + 1) : Way R C row col n i (i * C) (i * C + j + 1) (i * C + j) := by
  have hij := place_lt h4 hi hj
  obtain ⟨R', C', e1, e2, _, _, _, _, h5, _⟩ := (good_of h1 h2 h3 h4).nat
  exact ⟨⟨by omega, by omega, by omega, by omega⟩, by omega, by rw [Int.natCast_mul], by omega, by omega, by omega, by omega, by omega, hij⟩

set_option maxRecDepth 100000 in
set_option maxHeartbeats 2000000 in
theorem at_r0 (r c row col : Int) (A : Option Addr) (n cap : Nat) (hG : Good r c n) (h1 : row < 1) (w : World) :
    Calls Tryz.prog 11 #[.agg #[.int .i64 r, .int .i64 c, .slice A n cap], .int .i64 row, .int .i64 col] w (AtIs zeroVl false w) := by
  have d1 : decide (row < 1) = true := decide_eq_true (by omega)
  have HS := Lib.hid (fun w1 => shaped_yes r c A n cap hG w1)
  clear hG
  have ht0 := (CellsAt.new w [.int .i64 r, .int .i64 c, .slice A n cap] 24).on_alloc (.cells #[.int .i64 0, .int .i64 0, .string ⟨#[]⟩] 26)
  have hx0 := newAt (w0 := w.alloc (.cells #[.int .i64 r, .int .i64 c, .slice A n cap] 24)) (g := w.heap.size + 1) (by simp) [.int .i64 0, .int .i64 0, .string ⟨#[]⟩] 26
  have hb0 := below2 w (.cells #[.int .i64 r, .int .i64 c, .slice A n cap] 24) (.cells #[.int .i64 0, .int .i64 0, .string ⟨#[]⟩] 26)
  go_enter Tryz.func11, Tryz.ntmps11
  go_wp2_with fail
  generalize (w.alloc (.cells #[.int .i64 r, .int .i64 c, .slice A n cap] 24)).alloc (.cells #[.int .i64 0, .int .i64 0, .string ⟨#[]⟩] 26) = W at *
  refine (HS.out _).mono ?_
  rintro e w1 ⟨rfl, hb1⟩
  replace ht0 := ht0.on hb1
  replace hx0 := hx0.on hb1
  replace hb0 := on hb0 hb1
  clear HS
  obtain ⟨t0, t1, t2, _⟩ := ht0.three
  obtain ⟨p0, p1, p2, f0, f1, f2⟩ := hx0.three
  have hl := hx0.1
  obtain ⟨z0, z1, z2⟩ := three_set (u := .int .i64 0) (v := .int .i64 0) (r := .string ⟨#[]⟩) p0 p1 p2
  have hb5 := set3 hb0 (b := w.heap.size + 1) (by omega) (.int .i64 0) (.int .i64 0) (.string ⟨#[]⟩)
  clear hb1 ht0 hx0 hb0
  go_wp2_with fail
  exact bodyPost_ret (v := .tuple #[.agg #[.int .i64 0, .int .i64 0, .string ⟨#[]⟩], .bool false]) (by simp [results, Tryz.results11, go_sem, z0, z1, z2]) rfl ⟨rfl, hb5⟩
set_option maxRecDepth 100000 in
set_option maxHeartbeats 2000000 in
theorem at_r9 (r c row col : Int) (A : Option Addr) (n cap : Nat) (hG : Good r c n) (h1 : 1 ≤ row) (h2 : r < row) (w : World) :
    Calls Tryz.prog 11 #[.agg #[.int .i64 r, .int .i64 c, .slice A n cap], .int .i64 row, .int .i64 col] w (AtIs zeroVl false w) := by
  have d1 : decide (row < 1) = false := decide_eq_false (by omega)
  have d2 : decide (r < row) = true := decide_eq_true (by omega)
  have HS := Lib.hid (fun w1 => shaped_yes r c A n cap hG w1)
  clear hG
  have ht0 := (CellsAt.new w [.int .i64 r, .int .i64 c, .slice A n cap] 24).on_alloc (.cells #[.int .i64 0, .int .i64 0, .string ⟨#[]⟩] 26)
  have hx0 := newAt (w0 := w.alloc (.cells #[.int .i64 r, .int .i64 c, .slice A n cap] 24)) (g := w.heap.size + 1) (by simp) [.int .i64 0, .int .i64 0, .string ⟨#[]⟩] 26
  have hb0 := below2 w (.cells #[.int .i64 r, .int .i64 c, .slice A n cap] 24) (.cells #[.int .i64 0, .int .i64 0, .string ⟨#[]⟩] 26)
  go_enter Tryz.func11, Tryz.ntmps11
  go_wp2_with fail
  generalize (w.alloc (.cells #[.int .i64 r, .int .i64 c, .slice A n cap] 24)).alloc (.cells #[.int .i64 0, .int .i64 0, .string ⟨#[]⟩] 26) = W at *
  refine (HS.out _).mono ?_
  rintro e w1 ⟨rfl, hb1⟩
  replace ht0 := ht0.on hb1
  replace hx0 := hx0.on hb1
  replace hb0 := on hb0 hb1
  clear HS
  obtain ⟨t0, t1, t2, _⟩ := ht0.three
  obtain ⟨p0, p1, p2, f0, f1, f2⟩ := hx0.three
  have hl := hx0.1
  obtain ⟨z0, z1, z2⟩ := three_set (u := .int .i64 0) (v := .int .i64 0) (r := .string ⟨#[]⟩) p0 p1 p2
  have hb5 := set3 hb0 (b := w.heap.size + 1) (by omega) (.int .i64 0) (.int .i64 0) (.string ⟨#[]⟩)
  clear hb1 ht0 hx0 hb0
  go_wp2_with fail
  exact bodyPost_ret (v := .tuple #[.agg #[.int .i64 0, .int .i64 0, .string ⟨#[]⟩], .bool false]) (by simp [results, Tryz.results11, go_sem, z0, z1, z2]) rfl ⟨rfl, hb5⟩
set_option maxRecDepth 100000 in
set_option maxHeartbeats 2000000 in
theorem at_c0 (r c row col : Int) (A : Option Addr) (n cap : Nat) (hG : Good r c n) (h1 : 1 ≤ row) (h2 : row ≤ r) (h3 : col < 1) (w : World) :
    Calls Tryz.prog 11 #[.agg #[.int .i64 r, .int .i64 c, .slice A n cap], .int .i64 row, .int .i64 col] w (AtIs zeroVl false w) := by
  have d1 : decide (row < 1) = false := decide_eq_false (by omega)
  have d2 : decide (r < row) = false := decide_eq_false (by omega)
  have d3 : decide (col < 1) = true := decide_eq_true (by omega)
  have HS := Lib.hid (fun w1 => shaped_yes r c A n cap hG w1)
  clear hG
  have ht0 := (CellsAt.new w [.int .i64 r, .int .i64 c, .slice A n cap] 24).on_alloc (.cells #[.int .i64 0, .int .i64 0, .string ⟨#[]⟩] 26)
  have hx0 := newAt (w0 := w.alloc (.cells #[.int .i64 r, .int .i64 c, .slice A n cap] 24)) (g := w.heap.size + 1) (by simp) [.int .i64 0, .int .i64 0, .string ⟨#[]⟩] 26
  have hb0 := below2 w (.cells #[.int .i64 r, .int .i64 c, .slice A n cap] 24) (.cells #[.int .i64 0, .int .i64 0, .string ⟨#[]⟩] 26)
  go_enter Tryz.func11, Tryz.ntmps11
  go_wp2_with fail
  generalize (w.alloc (.cells #[.int .i64 r, .int .i64 c, .slice A n cap] 24)).alloc (.cells #[.int .i64 0, .int .i64 0, .string ⟨#[]⟩] 26) = W at *
  refine (HS.out _).mono ?_
  rintro e w1 ⟨rfl, hb1⟩
  replace ht0 := ht0.on hb1
  replace hx0 := hx0.on hb1
  replace hb0 := on hb0 hb1
  clear HS
  obtain ⟨t0, t1, t2, _⟩ := ht0.three
  obtain ⟨p0, p1, p2, f0, f1, f2⟩ := hx0.three
  have hl := hx0.1
  obtain ⟨z0, z1, z2⟩ := three_set (u := .int .i64 0) (v := .int .i64 0) (r := .string ⟨#[]⟩) p0 p1 p2
  have hb5 := set3 hb0 (b := w.heap.size + 1) (by omega) (.int .i64 0) (.int .i64 0) (.string ⟨#[]⟩)
  clear hb1 ht0 hx0 hb0
  go_wp2_with fail
  exact bodyPost_ret (v := .tuple #[.agg #[.int .i64 0, .int .i64 0, .string ⟨#[]⟩], .bool false]) (by simp [results, Tryz.results11, go_sem, z0, z1, z2]) rfl ⟨rfl, hb5⟩
set_option maxRecDepth 100000 in
set_option maxHeartbeats 2000000 in
theorem at_c9 (r c row col : Int) (A : Option Addr) (n cap : Nat) (hG : Good r c n) (h1 : 1 ≤ row) (h2 : row ≤ r) (h3 : 1 ≤ col) (h4 : c < col) (w : World) :
    Calls Tryz.prog 11 #[.agg #[.int .i64 r, .int .i64 c, .slice A n cap], .int .i64 row, .int .i64 col] w (AtIs zeroVl false w) := by
  have d1 : decide (row < 1) = false := decide_eq_false (by omega)
  have d2 : decide (r < row) = false := decide_eq_false (by omega)
  have d3 : decide (col < 1) = false := decide_eq_false (by omega)
  have d4 : decide (c < col) = true := decide_eq_true (by omega)
  have HS := Lib.hid (fun w1 => shaped_yes r c A n cap hG w1)
  clear hG
  have ht0 := (CellsAt.new w [.int .i64 r, .int .i64 c, .slice A n cap] 24).on_alloc (.cells #[.int .i64 0, .int .i64 0, .string ⟨#[]⟩] 26)
  have hx0 := newAt (w0 := w.alloc (.cells #[.int .i64 r, .int .i64 c, .slice A n cap] 24)) (g := w.heap.size + 1) (by simp) [.int .i64 0, .int .i64 0, .string ⟨#[]⟩] 26
  have hb0 := below2 w (.cells #[.int .i64 r, .int .i64 c, .slice A n cap] 24) (.cells #[.int .i64 0, .int .i64 0, .string ⟨#[]⟩] 26)
  go_enter Tryz.func11, Tryz.ntmps11
  go_wp2_with fail
  generalize (w.alloc (.cells #[.int .i64 r, .int .i64 c, .slice A n cap] 24)).alloc (.cells #[.int .i64 0, .int .i64 0, .string ⟨#[]⟩] 26) = W at *
  refine (HS.out _).mono ?_
  rintro e w1 ⟨rfl, hb1⟩
  replace ht0 := ht0.on hb1
  replace hx0 := hx0.on hb1
  replace hb0 := on hb0 hb1
  clear HS
  obtain ⟨t0, t1, t2, _⟩ := ht0.three
  obtain ⟨p0, p1, p2, f0, f1, f2⟩ := hx0.three
  have hl := hx0.1
  obtain ⟨z0, z1, z2⟩ := three_set (u := .int .i64 0) (v := .int .i64 0) (r := .string ⟨#[]⟩) p0 p1 p2
  have hb5 := set3 hb0 (b := w.heap.size + 1) (by omega) (.int .i64 0) (.int .i64 0) (.string ⟨#[]⟩)
  clear hb1 ht0 hx0 hb0
  go_wp2_with fail
  exact bodyPost_ret (v := .tuple #[.agg #[.int .i64 0, .int .i64 0, .string ⟨#[]⟩], .bool false]) (by simp [results, Tryz.results11, go_sem, z0, z1, z2]) rfl ⟨rfl, hb5⟩
theorem at_no (r c row col : Int) (A : Option Addr) (n cap : Nat) (hG : Good r c n) (h : Out r c row col) (w : World) :
    Calls Tryz.prog 11 #[.agg #[.int .i64 r, .int .i64 c, .slice A n cap], .int .i64 row, .int .i64 col] w (AtIs zeroVl false w) := by
  rcases h with h1 | ⟨h1, h2⟩ | ⟨h1, h2, h3⟩ | ⟨h1, h2, h3, h4⟩
  · exact at_r0 r c row col A n cap hG h1 w
  · exact at_r9 r c row col A n cap hG h1 h2 w
  · exact at_c0 r c row col A n cap hG h1 h2 h3 w
  · exact at_c9 r c row col A n cap hG h1 h2 h3 h4 w
set_option maxRecDepth 100000 in
set_option maxHeartbeats 2000000 in
theorem at_yes (r c row col : Int) (A : Option Addr) (n cap : Nat) (L : List Vl) (hG : Good r c n) (i m s k : Nat) (hw : Way r c row col n i m s k) (v : Vl) (hv : L[k]? = some v) (w : World) (hz : ValsR w A n L) :
    Calls Tryz.prog 11 #[.agg #[.int .i64 r, .int .i64 c, .slice A n cap], .int .i64 row, .int .i64 col] w (AtIs v true w) := by
  obtain ⟨⟨h1, h2, h3, h4⟩, ei, em, es, ek, b1, b2, b3, b4⟩ := hw
  have d1 : decide (row < 1) = false := decide_eq_false (by omega)
  have d2 : decide (r < row) = false := decide_eq_false (by omega)
  have d3 : decide (col < 1) = false := decide_eq_false (by omega)
  have d4 : decide (c < col) = false := decide_eq_false (by omega)
  have HS := Lib.hid (fun w1 => shaped_yes r c A n cap hG w1)
  have HZ := Lib.hid (hz.on (below2 w (.cells #[.int .i64 r, .int .i64 c, .slice A n cap] 24) (.cells #[.int .i64 0, .int .i64 0, .string ⟨#[]⟩] 26)))
  have HV := Lib.hid hv
  have hn9 := hz.2.1
  obtain ⟨vk, vn, vt⟩ := v
  clear hG hz hv
  have ht0 := (CellsAt.new w [.int .i64 r, .int .i64 c, .slice A n cap] 24).on_alloc (.cells #[.int .i64 0, .int .i64 0, .string ⟨#[]⟩] 26)
  have hx0 := newAt (w0 := w.alloc (.cells #[.int .i64 r, .int .i64 c, .slice A n cap] 24)) (g := w.heap.size + 1) (by simp) [.int .i64 0, .int .i64 0, .string ⟨#[]⟩] 26
  have hb0 := below2 w (.cells #[.int .i64 r, .int .i64 c, .slice A n cap] 24) (.cells #[.int .i64 0, .int .i64 0, .string ⟨#[]⟩] 26)
  go_enter Tryz.func11, Tryz.ntmps11
  go_wp2_with fail
  generalize (w.alloc (.cells #[.int .i64 r, .int .i64 c, .slice A n cap] 24)).alloc (.cells #[.int .i64 0, .int .i64 0, .string ⟨#[]⟩] 26) = W at *
  refine (HS.out _).mono ?_
  rintro e w1 ⟨rfl, hb1⟩
  replace ht0 := ht0.on hb1
  replace hx0 := hx0.on hb1
  replace hb0 := on hb0 hb1
  clear HS
  obtain ⟨t0, t1, t2, _⟩ := ht0.three
  obtain ⟨p0, p1, p2, f0, f1, f2⟩ := hx0.three
  have hl := hx0.1
  obtain ⟨z0, z1, z2⟩ := three_set (u := .int .i64 vk) (v := .int .i64 vn) (r := .string vt) p0 p1 p2
  have hb5 := set3 hb0 (b := w.heap.size + 1) (by omega) (.int .i64 vk) (.int .i64 vn) (.string vt)
  obtain ⟨b, o, rfl, hb, c0, c1, c2⟩ := (HZ.out.on hb1).at HV.out
  dsimp only at c0 c1 c2
  clear hb1 ht0 hx0 hb0
  go_wp2_with fail
  exact bodyPost_ret (v := .tuple #[.agg #[.int .i64 vk, .int .i64 vn, .string vt], .bool true]) (by simp [results, Tryz.results11, go_sem, z0, z1, z2]) rfl ⟨rfl, hb5⟩
set_option maxRecDepth 100000 in
set_option maxHeartbeats 2000000 in
theorem rin_r0 (r c row col : Int) (A : Option Addr) (n cap : Nat) (h1 : row < 1) (w : World) :
    Calls Tryz.prog 12 #[.agg #[.int .i64 r, .int .i64 c, .slice A n cap], .int .i64 row, .int .i64 col] w (Bit false w) := by
  have d1 : decide (1 ≤ row) = false := decide_eq_false (by omega)
  go_enter Tryz.func12, Tryz.ntmps12
  go_wp2
  go_ret
  exact ⟨rfl, below1 _ _⟩
set_option maxRecDepth 100000 in
set_option maxHeartbeats 2000000 in
theorem rin_r9 (r c row col : Int) (A : Option Addr) (n cap : Nat) (h1 : 1 ≤ row) (h2 : r < row) (w : World) :
    Calls Tryz.prog 12 #[.agg #[.int .i64 r, .int .i64 c, .slice A n cap], .int .i64 row, .int .i64 col] w (Bit false w) := by
  have d1 : decide (1 ≤ row) = true := decide_eq_true (by omega)
  have d2 : decide (row ≤ r) = false := decide_eq_false (by omega)
  go_enter Tryz.func12, Tryz.ntmps12
  go_wp2
  go_ret
  exact ⟨rfl, below1 _ _⟩
set_option maxRecDepth 100000 in
set_option maxHeartbeats 2000000 in
theorem rin_c0 (r c row col : Int) (A : Option Addr) (n cap : Nat) (h1 : 1 ≤ row) (h2 : row ≤ r) (h3 : col < 1) (w : World) :
    Calls Tryz.prog 12 #[.agg #[.int .i64 r, .int .i64 c, .slice A n cap], .int .i64 row, .int .i64 col] w (Bit false w) := by
  have d1 : decide (1 ≤ row) = true := decide_eq_true (by omega)
  have d2 : decide (row ≤ r) = true := decide_eq_true (by omega)
  have d3 : decide (1 ≤ col) = false := decide_eq_false (by omega)
  go_enter Tryz.func12, Tryz.ntmps12
  go_wp2
  go_ret
  exact ⟨rfl, below1 _ _⟩
set_option maxRecDepth 100000 in
set_option maxHeartbeats 2000000 in
theorem rin_c9 (r c row col : Int) (A : Option Addr) (n cap : Nat) (h1 : 1 ≤ row) (h2 : row ≤ r) (h3 : 1 ≤ col) (h4 : c < col) (w : World) :
    Calls Tryz.prog 12 #[.agg #[.int .i64 r, .int .i64 c, .slice A n cap], .int .i64 row, .int .i64 col] w (Bit false w) := by
  have d1 : decide (1 ≤ row) = true := decide_eq_true (by omega)
  have d2 : decide (row ≤ r) = true := decide_eq_true (by omega)
  have d3 : decide (1 ≤ col) = true := decide_eq_true (by omega)
  have d4 : decide (col ≤ c) = false := decide_eq_false (by omega)
  go_enter Tryz.func12, Tryz.ntmps12
  go_wp2
  go_ret
  exact ⟨rfl, below1 _ _⟩
set_option maxRecDepth 100000 in
set_option maxHeartbeats 2000000 in
theorem rin_y (r c row col : Int) (A : Option Addr) (n cap : Nat) (h1 : 1 ≤ row) (h2 : row ≤ r) (h3 : 1 ≤ col) (h4 : col ≤ c) (w : World) :
    Calls Tryz.prog 12 #[.agg #[.int .i64 r, .int .i64 c, .slice A n cap], .int .i64 row, .int .i64 col] w (Bit true w) := by
  have d1 : decide (1 ≤ row) = true := decide_eq_true (by omega)
  have d2 : decide (row ≤ r) = true := decide_eq_true (by omega)
  have d3 : decide (1 ≤ col) = true := decide_eq_true (by omega)
  have d4 : decide (col ≤ c) = true := decide_eq_true (by omega)
  go_enter Tryz.func12, Tryz.ntmps12
  go_wp2
  go_ret
  exact ⟨rfl, below1 _ _⟩
theorem rin_no (r c row col : Int) (A : Option Addr) (n cap : Nat) (h : Out r c row col) (w : World) :
    Calls Tryz.prog 12 #[.agg #[.int .i64 r, .int .i64 c, .slice A n cap], .int .i64 row, .int .i64 col] w (Bit false w) := by
  rcases h with h1 | ⟨h1, h2⟩ | ⟨h1, h2, h3⟩ | ⟨h1, h2, h3, h4⟩
  · exact rin_r0 r c row col A n cap h1 w
  · exact rin_r9 r c row col A n cap h1 h2 w
  · exact rin_c0 r c row col A n cap h1 h2 h3 w
  · exact rin_c9 r c row col A n cap h1 h2 h3 h4 w
theorem rin_yes (r c row col : Int) (A : Option Addr) (n cap : Nat) (h : Inn r c row col) (w : World) :
    Calls Tryz.prog 12 #[.agg #[.int .i64 r, .int .i64 c, .slice A n cap], .int .i64 row, .int .i64 col] w (Bit true w) := by
  exact rin_y r c row col A n cap h.1 h.2.1 h.2.2.1 h.2.2.2 w
set_option maxRecDepth 100000 in
set_option maxHeartbeats 2000000 in
theorem rat_yes (r c row col : Int) (A : Option Addr) (n cap : Nat) (L : List Vl) (i m s k : Nat) (hw : Way r c row col n i m s k) (v : Vl) (hv : L[k]? = some v) (w : World) (hz : ValsR w A n L) :
    Calls Tryz.prog 13 #[.agg #[.int .i64 r, .int .i64 c, .slice A n cap], .int .i64 row, .int .i64 col] w (ValIs v.k v.n v.t w) := by
  obtain ⟨⟨h1, h2, h3, h4⟩, ei, em, es, ek, b1, b2, b3, b4⟩ := hw
  have hn9 := hz.2.1
  have hb0 := below2 w (.cells #[.int .i64 r, .int .i64 c, .slice A n cap] 24) (.cells #[.int .i64 0, .int .i64 0, .string ⟨#[]⟩] 26)
  have hz1 := hz.on hb0
  obtain ⟨vk, vn, vt⟩ := v
  have ht0 := (CellsAt.new w [.int .i64 r, .int .i64 c, .slice A n cap] 24).on_alloc (.cells #[.int .i64 0, .int .i64 0, .string ⟨#[]⟩] 26)
  have hx0 := newAt (w0 := w.alloc (.cells #[.int .i64 r, .int .i64 c, .slice A n cap] 24)) (g := w.heap.size + 1) (by simp) [.int .i64 0, .int .i64 0, .string ⟨#[]⟩] 26
  obtain ⟨b, o, rfl, hb, c0, c1, c2⟩ := hz1.at hv
  dsimp only at c0 c1 c2
  clear hz hz1 hv
  obtain ⟨t0, t1, t2, _⟩ := ht0.three
  obtain ⟨p0, p1, p2, f0, f1, f2⟩ := hx0.three
  have hl := hx0.1
  clear ht0 hx0
  go_enter Tryz.func13, Tryz.ntmps13
  go_wp2_with fail
  exact bodyPost_ret (v := .agg #[.int .i64 vk, .int .i64 vn, .string vt]) (by simp [results, Tryz.results13, go_sem]) rfl ⟨rfl, below2 _ _ _⟩
end Go.Proofs.YtbjomidkeignjaaGreatDoor.Lok
namespace Go.Proofs.YtbjomidkeignjaaGreatDoor.Lok
open Go.RowKit Kit Reg Dec Dig Val Fld

set_option maxRecDepth 100000 in
set_option maxHeartbeats 2000000 in
theorem small_no (r c : Int) (A : Option Addr) (n cap : Nat) (w : World) (HR : ∀ w1, Below w.heap.size w w1 → Calls Tryz.prog 9 #[.agg #[.int .i64 r, .int .i64 c, .slice A n cap]] w1 (Bit false w1)) :
    Calls Tryz.prog 16 #[.agg #[.int .i64 r, .int .i64 c, .slice A n cap]] w (Bit false w) := by
  have HR := Lib.hid HR
  have hc0 := CellsAt.new w [.int .i64 r, .int .i64 c, .slice A n cap] 24
  have hb0 := below1 w (.cells #[.int .i64 r, .int .i64 c, .slice A n cap] 24)
  obtain ⟨t0, t1, t2, _⟩ := hc0.three
  go_enter Tryz.func16, Tryz.ntmps16
  go_wp2_with fail
  refine (HR.out _ hb0).mono ?_
  rintro e w1 ⟨rfl, hb1⟩
  clear t0 t1 t2 HR
  replace hc0 := hc0.on hb1
  replace hb0 := on hb0 hb1
  obtain ⟨t0, t1, t2, _⟩ := hc0.three
  clear hb1
  go_wp2
  go_ret
  exact ⟨rfl, hb0⟩
set_option maxRecDepth 100000 in
set_option maxHeartbeats 2000000 in
theorem small_long (r c : Int) (A : Option Addr) (n cap : Nat) (h : 60 < n) (w : World) (HR : ∀ w1, Below w.heap.size w w1 → Calls Tryz.prog 9 #[.agg #[.int .i64 r, .int .i64 c, .slice A n cap]] w1 (Bit true w1)) :
    Calls Tryz.prog 16 #[.agg #[.int .i64 r, .int .i64 c, .slice A n cap]] w (Bit false w) := by
  have d1 : decide ((60 : Int) < (n : Int)) = true := decide_eq_true (by omega)
  have d2 : decide (60 < n) = true := decide_eq_true (by omega)
  have HR := Lib.hid HR
  have hc0 := CellsAt.new w [.int .i64 r, .int .i64 c, .slice A n cap] 24
  have hb0 := below1 w (.cells #[.int .i64 r, .int .i64 c, .slice A n cap] 24)
  obtain ⟨t0, t1, t2, _⟩ := hc0.three
  go_enter Tryz.func16, Tryz.ntmps16
  go_wp2_with fail
  refine (HR.out _ hb0).mono ?_
  rintro e w1 ⟨rfl, hb1⟩
  clear t0 t1 t2 HR
  replace hc0 := hc0.on hb1
  replace hb0 := on hb0 hb1
  obtain ⟨t0, t1, t2, _⟩ := hc0.three
  clear hb1
  go_wp2
  go_ret
  exact ⟨rfl, hb0⟩
set_option maxRecDepth 100000 in
set_option maxHeartbeats 2000000 in
theorem small_yes (r c : Int) (A : Option Addr) (n cap : Nat) (L : List Vl) (h : n ≤ 60) (hs : ∀ v ∈ L, v.t.size ≤ 60) (w : World) (hz : ValsR w A n L) (HR : ∀ w1, Below w.heap.size w w1 → Calls Tryz.prog 9 #[.agg #[.int .i64 r, .int .i64 c, .slice A n cap]] w1 (Bit true w1)) :
    Calls Tryz.prog 16 #[.agg #[.int .i64 r, .int .i64 c, .slice A n cap]] w (Bit true w) := by
  have d1 : decide ((60 : Int) < (n : Int)) = false := decide_eq_false (by omega)
  have d2 : decide (60 < n) = false := decide_eq_false (by omega)
  have HZ := Lib.hid hz
  have HS : Hid (∀ (k : Nat) (v : Vl), L[k]? = some v → v.t.size ≤ 60) := Lib.hid fun k v hv => hs v (List.mem_of_getElem? hv)
  clear hz hs
  have HR := Lib.hid HR
  have hc0 := CellsAt.new w [.int .i64 r, .int .i64 c, .slice A n cap] 24
  have hb0 := below1 w (.cells #[.int .i64 r, .int .i64 c, .slice A n cap] 24)
  obtain ⟨t0, t1, t2, _⟩ := hc0.three
  go_enter Tryz.func16, Tryz.ntmps16
  go_wp2_with fail
  refine (HR.out _ hb0).mono ?_
  rintro e w1 ⟨rfl, hb1⟩
  clear t0 t1 t2 HR
  replace hc0 := hc0.on hb1
  replace hb0 := on hb0 hb1
  obtain ⟨t0, t1, t2, _⟩ := hc0.three
  replace HZ := Lib.hid (HZ.out.on hb0)
  clear hb1
  go_wp2_with fail
  clear t0 t1 t2 hc0
  go_loopw [17] (fun i wr => ∃ k : Nat, k ≤ n ∧ i = .int .i64 k ∧ Below w1.heap.size w1 wr) (fun i _ => n - (intOf i).toNat)
  case atStart => exact ⟨0, Nat.zero_le _, rfl, Below.refl _ _⟩
  case round =>
    obtain ⟨k, hk, rfl, hb1⟩ := hrel
    by_cases hlt : k < n
    · obtain ⟨v, hv⟩ := HZ.out.get hlt
      have hsz := HS.out k v hv
      obtain ⟨b, o, rfl, hb, c0, c1, c2⟩ := (HZ.out.on hb1).at hv
      obtain ⟨vk, vn, vt⟩ := v
      dsimp only at c0 c1 c2 hsz
      have hx := CellsAt.new wr [.int .i64 vk, .int .i64 vn, .string vt] 26
      obtain ⟨x0, x1, x2, _⟩ := hx.three
      have hb3 := on_alloc hb1 (.cells #[.int .i64 vk, .int .i64 vn, .string vt] 26)
      have e1 : decide ((60 : Int) < (vt.size : Int)) = false := decide_eq_false (by omega)
      have e2 : decide (60 < vt.size) = false := decide_eq_false (by omega)
      clear hv hx HS
      go_wp2_with fail
      go_roundw
      case rel => exact ⟨k + 1, by omega, by go_num, hb3⟩
      case measure => simp [intOf]; omega
    · obtain rfl : k = n := by omega
      clear HS
      go_wp2_with fail
      go_ret
      exact ⟨rfl, on hb0 hb1⟩
set_option maxRecDepth 100000 in
set_option maxHeartbeats 2000000 in
theorem small_text (r c : Int) (A : Option Addr) (n cap : Nat) (L : List Vl) (h : n ≤ 60) (p : Nat) (x : Vl) (hp : L[p]? = some x) (hx : 60 < x.t.size) (hs : ∀ (i : Nat) (u : Vl), i < p → L[i]? = some u → u.t.size ≤ 60) (w : World) (hz : ValsR w A n L) (HR : ∀ w1, Below w.heap.size w w1 → Calls Tryz.prog 9 #[.agg #[.int .i64 r, .int .i64 c, .slice A n cap]] w1 (Bit true w1)) :
    Calls Tryz.prog 16 #[.agg #[.int .i64 r, .int .i64 c, .slice A n cap]] w (Bit false w) := by
  have d1 : decide ((60 : Int) < (n : Int)) = false := decide_eq_false (by omega)
  have d2 : decide (60 < n) = false := decide_eq_false (by omega)
  have HZ := Lib.hid hz
  have HS := Lib.hid hs
  have HP := Lib.hid hp
  have HX := Lib.hid hx
  have hpn : p < n := by have := (List.getElem?_eq_some_iff.1 hp).1; rw [hz.1] at this; exact this
  clear hz hs hp hx
  have HR := Lib.hid HR
  have hc0 := CellsAt.new w [.int .i64 r, .int .i64 c, .slice A n cap] 24
  have hb0 := below1 w (.cells #[.int .i64 r, .int .i64 c, .slice A n cap] 24)
  obtain ⟨t0, t1, t2, _⟩ := hc0.three
  go_enter Tryz.func16, Tryz.ntmps16
  go_wp2_with fail
  refine (HR.out _ hb0).mono ?_
  rintro e w1 ⟨rfl, hb1⟩
  clear t0 t1 t2 HR
  replace hc0 := hc0.on hb1
  replace hb0 := on hb0 hb1
  obtain ⟨t0, t1, t2, _⟩ := hc0.three
  replace HZ := Lib.hid (HZ.out.on hb0)
  clear hb1
  go_wp2_with fail
  clear t0 t1 t2 hc0
  go_loopw [17] (fun i wr => ∃ k : Nat, k ≤ p ∧ i = .int .i64 k ∧ Below w1.heap.size w1 wr) (fun i _ => n - (intOf i).toNat)
  case atStart => exact ⟨0, Nat.zero_le _, rfl, Below.refl _ _⟩
  case round =>
    obtain ⟨k, hk, rfl, hb1⟩ := hrel
    have hlt : k < n := by omega
    obtain ⟨v, hv⟩ := HZ.out.get hlt
    by_cases hkp : k < p
    · have hsz := HS.out k v hkp hv
      obtain ⟨b, o, rfl, hb, c0, c1, c2⟩ := (HZ.out.on hb1).at hv
      obtain ⟨vk, vn, vt⟩ := v
      dsimp only at c0 c1 c2 hsz
      have hx := CellsAt.new wr [.int .i64 vk, .int .i64 vn, .string vt] 26
      obtain ⟨x0, x1, x2, _⟩ := hx.three
      have hb3 := on_alloc hb1 (.cells #[.int .i64 vk, .int .i64 vn, .string vt] 26)
      have e1 : decide ((60 : Int) < (vt.size : Int)) = false := decide_eq_false (by omega)
      have e2 : decide (60 < vt.size) = false := decide_eq_false (by omega)
      clear hv hx HS HP HX
      go_wp2_with fail
      go_roundw
      case rel => exact ⟨k + 1, by omega, by go_num, hb3⟩
      case measure => simp [intOf]; omega
    · obtain rfl : k = p := by omega
      obtain rfl := Option.some.inj (hv.symm.trans HP.out)
      have hsz := HX.out
      obtain ⟨b, o, rfl, hb, c0, c1, c2⟩ := (HZ.out.on hb1).at hv
      obtain ⟨vk, vn, vt⟩ := v
      dsimp only at c0 c1 c2 hsz
      have hx := CellsAt.new wr [.int .i64 vk, .int .i64 vn, .string vt] 26
      obtain ⟨x0, x1, x2, _⟩ := hx.three
      have hb3 := on_alloc hb1 (.cells #[.int .i64 vk, .int .i64 vn, .string vt] 26)
      have e1 : decide ((60 : Int) < (vt.size : Int)) = true := decide_eq_true (by omega)
      have e2 : decide (60 < vt.size) = true := decide_eq_true (by omega)
      clear hv hx HS HP HX
      go_wp2_with fail
      go_ret
      exact ⟨rfl, on hb0 hb3⟩
/-- whether a table is small -/
def SmallT (r c : Int) (n : Nat) (L : List Vl) (b : Bool) : Prop := (b = true ∧ Good r c n ∧ (∀ v ∈ L, v.may) ∧ n ≤ 60 ∧ ∀ v ∈ L, v.t.size ≤ 60) ∨ (b = false ∧ MayT r c n L false) ∨
  (b = false ∧ MayT r c n L true ∧ (60 < n ∨ (n ≤ 60 ∧ ∃ (p : Nat) (x : Vl), L[p]? = some x ∧ 60 < x.t.size ∧ ∀ (i : Nat) (u : Vl), i < p → L[i]? = some u → u.t.size ≤ 60)))
theorem text_or : ∀ L : List Vl, (∀ v ∈ L, v.t.size ≤ 60) ∨ ∃ (p : Nat) (x : Vl), L[p]? = some x ∧ 60 < x.t.size ∧ ∀ (i : Nat) (u : Vl), i < p → L[i]? = some u → u.t.size ≤ 60
  | [] => .inl fun v h => by cases h
  | u :: r => by
    by_cases h : u.t.size ≤ 60
    · rcases text_or r with h1 | ⟨p, v, h1, h2, h3⟩
      · exact .inl fun v hv => by
          rcases List.mem_cons.1 hv with rfl | hv
          · exact h
          · exact h1 v hv
      · refine .inr ⟨p + 1, v, by simpa using h1, h2, fun i x hi hx => ?_⟩
        cases i with
        | zero => simp at hx; subst hx; exact h
        | succ i => exact h3 i x (by omega) (by simpa using hx)
    · exact .inr ⟨0, u, rfl, by omega, fun i x hi => by omega⟩
theorem small_some (r c : Int) (n : Nat) (L : List Vl) : ∃ b, SmallT r c n L b := by
  obtain ⟨b, hb⟩ := mayT_some r c n L
  cases b
  · exact ⟨false, .inr (.inl ⟨rfl, hb⟩)⟩
  · by_cases h : n ≤ 60
    · rcases text_or L with h1 | h1
      · have hg : Good r c n ∧ ∀ v ∈ L, v.may := by
          rcases hb with ⟨_, h2, h3⟩ | ⟨h, _⟩ | ⟨h, _⟩
          · exact ⟨h2, h3⟩
          · cases h
          · cases h
        exact ⟨true, .inl ⟨rfl, hg.1, hg.2, h, h1⟩⟩
      · exact ⟨false, .inr (.inr ⟨rfl, hb, .inr ⟨h, h1⟩⟩)⟩
    · exact ⟨false, .inr (.inr ⟨rfl, hb, .inl (by omega)⟩)⟩
theorem small_c (r c : Int) (A : Option Addr) (n cap : Nat) (L : List Vl) (b : Bool) (h : SmallT r c n L b) (w : World) (hz : n ≤ 1000 → ValsR w A n L) :
    Calls Tryz.prog 16 #[.agg #[.int .i64 r, .int .i64 c, .slice A n cap]] w (Bit b w) := by
  rcases h with ⟨rfl, hg, hm, h6, hs⟩ | ⟨rfl, hm⟩ | ⟨rfl, hm, h6 | ⟨h6, p, x, hp, hx, hs⟩⟩
  · exact small_yes r c A n cap L h6 hs w (hz (by omega)) (fun w1 hb => rmay_c r c A n cap L true (.inl ⟨rfl, hg, hm⟩) w1 (fun h => (hz h).on hb))
  · exact small_no r c A n cap w (fun w1 hb => rmay_c r c A n cap L false hm w1 (fun h => (hz h).on hb))
  · exact small_long r c A n cap h6 w (fun w1 hb => rmay_c r c A n cap L true hm w1 (fun h => (hz h).on hb))
  · exact small_text r c A n cap L h6 p x hp hx hs w (hz (by omega)) (fun w1 hb => rmay_c r c A n cap L true hm w1 (fun h => (hz h).on hb))
end Go.Proofs.YtbjomidkeignjaaGreatDoor.Lok
