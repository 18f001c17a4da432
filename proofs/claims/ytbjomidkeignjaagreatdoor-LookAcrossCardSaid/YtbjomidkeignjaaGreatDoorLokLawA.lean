/- What the statement LookAcross answers: yes, for every table, value and number. Written by wip/gen18p.py. -/
import Derived.Test.YtbjomidkeignjaaGreatDoorLokAlive
import Derived.Test.YtbjomidkeignjaaGreatDoorL2
namespace Go.Proofs.YtbjomidkeignjaaGreatDoor.Lok
open Go.RowKit Kit Reg Dec Dig Val Fld
open Crt (CLibs LawEnd)

/-- a table that is turned about -/
def turnG (R C p : Nat) : Nat := p % R * C + p / R
theorem turn_at {R C : Nat} (k : Nat) {j : Nat} (hj : j < R) : turnG R C (k * R + j) = j * C + k := by
  unfold turnG
  have h1 : (k * R + j) % R = j := by rw [Nat.add_comm, Nat.add_mul_mod_self_right, Nat.mod_eq_of_lt hj]
  have h2 : (k * R + j) / R = k := by rw [Nat.add_comm, Nat.add_mul_div_right _ _ (by omega), Nat.div_eq_of_lt hj, Nat.zero_add]
  rw [h1, h2]
theorem turn_lt {R C n p : Nat} (_h2 : 1 ≤ C) (h4 : R * C = n) (hp : p < n) : turnG R C p < n := by
  unfold turnG
  have hR : 0 < R := Nat.pos_of_ne_zero fun e => by rw [e, Nat.zero_mul] at h4; omega
  refine place_lt h4 (Nat.mod_lt _ hR) ?_
  rw [Nat.div_lt_iff_lt_mul hR, Nat.mul_comm, h4]
  exact hp
theorem pick_get {L : List Vl} {g : Nat → Nat} {m p : Nat} (hp : p < m) : ((pickL L g m)[p]?).getD zeroVl = (L[g p]?).getD zeroVl := by
  unfold pickL
  rw [List.getElem?_map, List.getElem?_range hp]
  rfl
/-- its rows are the columns, its columns the rows -/
theorem turn_row {L : List Vl} {R C n : Nat} (_h2 : 1 ≤ C) (h4 : R * C = n) {i : Nat} (hi : i < C) : rowK (pickL L (turnG R C) n) R i = colK L R C i := by
  unfold rowK colK pickL
  refine List.map_congr_left fun j hj => ?_
  have hj := List.mem_range.1 hj
  have hlt : i * R + j < n := place_lt (R := C) (C := R) (by rw [Nat.mul_comm]; exact h4) hi hj
  show ((pickL L (turnG R C) n)[i * R + j]?).getD zeroVl = _
  rw [pick_get hlt, turn_at i hj]
theorem turn_col {L : List Vl} {R C n : Nat} (_h2 : 1 ≤ C) (h4 : R * C = n) {j : Nat} (hj : j < R) : colK (pickL L (turnG R C) n) C R j = rowK L C j := by
  unfold rowK colK pickL
  refine List.map_congr_left fun i hi => ?_
  have hi := List.mem_range.1 hi
  have hlt : i * R + j < n := place_lt (R := C) (C := R) (by rw [Nat.mul_comm]; exact h4) hi hj
  show ((pickL L (turnG R C) n)[i * R + j]?).getD zeroVl = _
  rw [pick_get hlt, turn_at i hj]
theorem turn_across {x : Vl} {L : List Vl} {R C n : Nat} (_h1 : 1 ≤ R) (h2 : 1 ≤ C) (h4 : R * C = n) {q : Int} {v : Vl} (h : DownIs x L R C q v) : AcrossIs x (pickL L (turnG R C) n) C R q v := by
  have e0 := turn_row (L := L) h2 h4 (i := 0) (by omega)
  rcases h with ⟨j, hj, hq, hl⟩ | ⟨hq, hl⟩
  · exact .inl ⟨j, hj, hq, by rw [e0, turn_row h2 h4 hj]; exact hl⟩
  · exact .inr ⟨hq, by rw [e0]; exact hl⟩
theorem turn_down {x : Vl} {L : List Vl} {R C n : Nat} (h1 : 1 ≤ R) (h2 : 1 ≤ C) (h4 : R * C = n) {q : Int} {v : Vl} (h : AcrossIs x L R C q v) : DownIs x (pickL L (turnG R C) n) C R q v := by
  have e0 := turn_col (L := L) h2 h4 (j := 0) (by omega)
  rcases h with ⟨j, hj, hq, hl⟩ | ⟨hq, hl⟩
  · exact .inl ⟨j, hj, hq, by rw [e0, turn_col h2 h4 hj]; exact hl⟩
  · exact .inr ⟨hq, by rw [e0]; exact hl⟩
theorem turn_mem {L : List Vl} {R C n : Nat} (h2 : 1 ≤ C) (h4 : R * C = n) (hl : L.length = n) {v : Vl} (h : v ∈ pickL L (turnG R C) n) : v ∈ L := pick_mem (fun i hi => by rw [hl]; exact turn_lt h2 h4 hi) h
theorem own_slice {B : Nat} {v : Value} {L : List Vl} {w : World} (h : OwnV B v L w) : ∃ A m c, v = .slice A m c := by
  rcases h.2 with ⟨rfl, _⟩ | ⟨g, cap, cur, rfl, _⟩
  · exact ⟨_, _, _, rfl⟩
  · exact ⟨_, _, _, rfl⟩
/-- where the loops stand -/
def TurnAt (L : List Vl) (R C : Nat) (r c : Int) (A : Option Addr) (n cap : Nat) (xk xn : Int) (xt : ByteArray) (w0 : World) (g p : Nat) (wr : World) : Prop :=
  ∃ o, OwnV (g + 1) o (pickL L (turnG R C) p) wr ∧ CellsAt wr g [.int .i64 c, .int .i64 r, o] ∧ Below w0.heap.size w0 wr ∧ CellsAt wr w0.heap.size [.int .i64 r, .int .i64 c, .slice A n cap] ∧ CellsAt wr (w0.heap.size + 1) [.int .i64 xk, .int .i64 xn, .string xt] ∧ w0.heap.size + 1 < g

set_option maxRecDepth 100000 in
set_option maxHeartbeats 16000000 in
theorem across_law_1 (r c : Int) (A : Option Addr) (n cap : Nat) (xk xn : Int) (xt : ByteArray) (num : Int) (w : World) (H1 : ∀ w1, Below w.heap.size w w1 → Calls Tryz.prog 16 #[.agg #[.int .i64 r, .int .i64 c, .slice A n cap]] w1 (Bit false w1)) (hL : CLibs w) :
    Calls Tryz.prog 4 #[.agg #[.int .i64 r, .int .i64 c, .slice A n cap], .agg #[.int .i64 xk, .int .i64 xn, .string xt], .int .i64 num] w (LawEnd w) := by
  have H1 := Lib.hid H1
  have HA := Lib.hid (fun w1 h => life_c w1 h)
  have HL := Lib.hid hL
  have ht0 := (CellsAt.new w [.int .i64 r, .int .i64 c, .slice A n cap] 24).on_alloc (.cells #[.int .i64 xk, .int .i64 xn, .string xt] 26)
  have hx0 := newAt (w0 := w.alloc (.cells #[.int .i64 r, .int .i64 c, .slice A n cap] 24)) (g := w.heap.size + 1) (by simp) [.int .i64 xk, .int .i64 xn, .string xt] 26
  have hb0 := below2 w (.cells #[.int .i64 r, .int .i64 c, .slice A n cap] 24) (.cells #[.int .i64 xk, .int .i64 xn, .string xt] 26)
  clear hL
  obtain ⟨t0, t1, t2, _⟩ := ht0.three
  obtain ⟨x0, x1, x2, _⟩ := hx0.three
  go_enter Tryz.func4, Tryz.ntmps4
  go_wp2_with fail
  refine (H1.out _ hb0).mono ?_
  rintro e w1 ⟨rfl, hb1⟩
  clear t0 t1 t2 x0 x1 x2
  replace ht0 := ht0.on hb1
  replace hx0 := hx0.on hb1
  replace hb0 := on hb0 hb1
  clear hb1 H1
  obtain ⟨t0, t1, t2, _⟩ := ht0.three
  obtain ⟨x0, x1, x2, _⟩ := hx0.three
  have HL1 := Lib.hid (HL.out.grown hb0)
  go_wp2_with fail
  refine (HA.out _ HL1.out).mono ?_
  rintro e w9 ⟨rfl, hb9⟩
  clear t0 t1 t2 x0 x1 x2
  clear ht0 hx0
  go_wp2
  go_ret
  exact ⟨rfl, on hb0 hb9⟩
set_option maxRecDepth 100000 in
set_option maxHeartbeats 16000000 in
theorem across_law_2 (r c : Int) (A : Option Addr) (n cap : Nat) (xk xn : Int) (xt : ByteArray) (num : Int) (w : World) (H1 : ∀ w1, Below w.heap.size w w1 → Calls Tryz.prog 16 #[.agg #[.int .i64 r, .int .i64 c, .slice A n cap]] w1 (Bit true w1)) (HX : ∀ w1, Calls Tryz.prog 10 #[.agg #[.int .i64 xk, .int .i64 xn, .string xt]] w1 (Bit false w1)) (hL : CLibs w) :
    Calls Tryz.prog 4 #[.agg #[.int .i64 r, .int .i64 c, .slice A n cap], .agg #[.int .i64 xk, .int .i64 xn, .string xt], .int .i64 num] w (LawEnd w) := by
  have H1 := Lib.hid H1
  have HX := Lib.hid HX
  have HA := Lib.hid (fun w1 h => life_c w1 h)
  have HL := Lib.hid hL
  have ht0 := (CellsAt.new w [.int .i64 r, .int .i64 c, .slice A n cap] 24).on_alloc (.cells #[.int .i64 xk, .int .i64 xn, .string xt] 26)
  have hx0 := newAt (w0 := w.alloc (.cells #[.int .i64 r, .int .i64 c, .slice A n cap] 24)) (g := w.heap.size + 1) (by simp) [.int .i64 xk, .int .i64 xn, .string xt] 26
  have hb0 := below2 w (.cells #[.int .i64 r, .int .i64 c, .slice A n cap] 24) (.cells #[.int .i64 xk, .int .i64 xn, .string xt] 26)
  clear hL
  obtain ⟨t0, t1, t2, _⟩ := ht0.three
  obtain ⟨x0, x1, x2, _⟩ := hx0.three
  go_enter Tryz.func4, Tryz.ntmps4
  go_wp2_with fail
  refine (H1.out _ hb0).mono ?_
  rintro e w1 ⟨rfl, hb1⟩
  clear t0 t1 t2 x0 x1 x2
  replace ht0 := ht0.on hb1
  replace hx0 := hx0.on hb1
  replace hb0 := on hb0 hb1
  clear hb1 H1
  obtain ⟨t0, t1, t2, _⟩ := ht0.three
  obtain ⟨x0, x1, x2, _⟩ := hx0.three
  go_wp2_with fail
  refine (HX.out _).mono ?_
  rintro e w2 ⟨rfl, hb2⟩
  clear t0 t1 t2 x0 x1 x2
  replace ht0 := ht0.on hb2
  replace hx0 := hx0.on hb2
  replace hb0 := on hb0 hb2
  clear hb2 HX
  obtain ⟨t0, t1, t2, _⟩ := ht0.three
  obtain ⟨x0, x1, x2, _⟩ := hx0.three
  have HL1 := Lib.hid (HL.out.grown hb0)
  go_wp2_with fail
  refine (HA.out _ HL1.out).mono ?_
  rintro e w9 ⟨rfl, hb9⟩
  clear t0 t1 t2 x0 x1 x2
  clear ht0 hx0
  go_wp2
  go_ret
  exact ⟨rfl, on hb0 hb9⟩
set_option maxRecDepth 100000 in
set_option maxHeartbeats 16000000 in
theorem across_law_3 (r c : Int) (A : Option Addr) (n cap : Nat) (xk xn : Int) (xt : ByteArray) (num : Int) (h : 60 < xt.size) (w : World) (H1 : ∀ w1, Below w.heap.size w w1 → Calls Tryz.prog 16 #[.agg #[.int .i64 r, .int .i64 c, .slice A n cap]] w1 (Bit true w1)) (HX : ∀ w1, Calls Tryz.prog 10 #[.agg #[.int .i64 xk, .int .i64 xn, .string xt]] w1 (Bit true w1)) (hL : CLibs w) :
    Calls Tryz.prog 4 #[.agg #[.int .i64 r, .int .i64 c, .slice A n cap], .agg #[.int .i64 xk, .int .i64 xn, .string xt], .int .i64 num] w (LawEnd w) := by
  have d1 : decide ((60 : Int) < (xt.size : Int)) = true := decide_eq_true (by omega)
  have d2 : decide (60 < xt.size) = true := decide_eq_true (by omega)
  have H1 := Lib.hid H1
  have HX := Lib.hid HX
  have HA := Lib.hid (fun w1 h => life_c w1 h)
  have HL := Lib.hid hL
  have ht0 := (CellsAt.new w [.int .i64 r, .int .i64 c, .slice A n cap] 24).on_alloc (.cells #[.int .i64 xk, .int .i64 xn, .string xt] 26)
  have hx0 := newAt (w0 := w.alloc (.cells #[.int .i64 r, .int .i64 c, .slice A n cap] 24)) (g := w.heap.size + 1) (by simp) [.int .i64 xk, .int .i64 xn, .string xt] 26
  have hb0 := below2 w (.cells #[.int .i64 r, .int .i64 c, .slice A n cap] 24) (.cells #[.int .i64 xk, .int .i64 xn, .string xt] 26)
  clear hL
  obtain ⟨t0, t1, t2, _⟩ := ht0.three
  obtain ⟨x0, x1, x2, _⟩ := hx0.three
  go_enter Tryz.func4, Tryz.ntmps4
  go_wp2_with fail
  refine (H1.out _ hb0).mono ?_
  rintro e w1 ⟨rfl, hb1⟩
  clear t0 t1 t2 x0 x1 x2
  replace ht0 := ht0.on hb1
  replace hx0 := hx0.on hb1
  replace hb0 := on hb0 hb1
  clear hb1 H1
  obtain ⟨t0, t1, t2, _⟩ := ht0.three
  obtain ⟨x0, x1, x2, _⟩ := hx0.three
  go_wp2_with fail
  refine (HX.out _).mono ?_
  rintro e w2 ⟨rfl, hb2⟩
  clear t0 t1 t2 x0 x1 x2
  replace ht0 := ht0.on hb2
  replace hx0 := hx0.on hb2
  replace hb0 := on hb0 hb2
  clear hb2 HX
  obtain ⟨t0, t1, t2, _⟩ := ht0.three
  obtain ⟨x0, x1, x2, _⟩ := hx0.three
  have HL1 := Lib.hid (HL.out.grown hb0)
  go_wp2_with fail
  refine (HA.out _ HL1.out).mono ?_
  rintro e w9 ⟨rfl, hb9⟩
  clear t0 t1 t2 x0 x1 x2
  clear ht0 hx0
  go_wp2
  go_ret
  exact ⟨rfl, on hb0 hb9⟩
set_option maxRecDepth 100000 in
set_option maxHeartbeats 16000000 in
theorem across_law_4 (r c : Int) (A : Option Addr) (n cap : Nat) (xk xn : Int) (xt : ByteArray) (num : Int) (ak an : Int) (at_ : ByteArray) (bk bn : Int) (bt : ByteArray) (L : List Vl) (R C : Nat) (h2 : 1 ≤ C) (hr : r = (R : Int)) (hc : c = (C : Int)) (h4 : R * C = n) (hn6 : n ≤ 60) (hR6 : R ≤ 60) (hC6 : C ≤ 60) (h : xt.size ≤ 60) (w : World) (hz : ValsR w A n L) (H1 : ∀ w1, Below w.heap.size w w1 → Calls Tryz.prog 16 #[.agg #[.int .i64 r, .int .i64 c, .slice A n cap]] w1 (Bit true w1)) (HX : ∀ w1, Calls Tryz.prog 10 #[.agg #[.int .i64 xk, .int .i64 xn, .string xt]] w1 (Bit true w1)) (HAt : ∀ (k j : Nat) (v : Vl) (w1 : World), k < C → j < R → L[j * C + k]? = some v → ValsR w1 A n L → Calls Tryz.prog 13 #[.agg #[.int .i64 r, .int .i64 c, .slice A n cap], .int .i64 ((j : Int) + 1), .int .i64 ((k : Int) + 1)] w1 (ValIs v.k v.n v.t w1)) (HD : ∀ w1, Below w.heap.size w w1 → Calls Tryz.prog 17 #[.agg #[.int .i64 xk, .int .i64 xn, .string xt], .agg #[.int .i64 r, .int .i64 c, .slice A n cap], .int .i64 num] w1 (ValIs ak an at_ w1)) (HAc : ∀ w1, Below w.heap.size w w1 → Calls Tryz.prog 18 #[.agg #[.int .i64 xk, .int .i64 xn, .string xt], .agg #[.int .i64 r, .int .i64 c, .slice A n cap], .int .i64 num] w1 (ValIs bk bn bt w1)) (HRD : ∀ w1, Below w.heap.size w w1 → Calls Tryz.prog 19 #[.agg #[.int .i64 xk, .int .i64 xn, .string xt], .agg #[.int .i64 r, .int .i64 c, .slice A n cap], .int .i64 num] w1 (ValIs ak an at_ w1)) (HRA : ∀ w1, Below w.heap.size w w1 → Calls Tryz.prog 20 #[.agg #[.int .i64 xk, .int .i64 xn, .string xt], .agg #[.int .i64 r, .int .i64 c, .slice A n cap], .int .i64 num] w1 (ValIs bk bn bt w1)) (HTA : ∀ A7 c7 w1, ValsR w1 A7 n (pickL L (turnG R C) n) → Calls Tryz.prog 18 #[.agg #[.int .i64 xk, .int .i64 xn, .string xt], .agg #[.int .i64 c, .int .i64 r, .slice A7 n c7], .int .i64 num] w1 (ValIs ak an at_ w1)) (HTD : ∀ A7 c7 w1, ValsR w1 A7 n (pickL L (turnG R C) n) → Calls Tryz.prog 17 #[.agg #[.int .i64 xk, .int .i64 xn, .string xt], .agg #[.int .i64 c, .int .i64 r, .slice A7 n c7], .int .i64 num] w1 (ValIs bk bn bt w1)) (hL : CLibs w) :
    Calls Tryz.prog 4 #[.agg #[.int .i64 r, .int .i64 c, .slice A n cap], .agg #[.int .i64 xk, .int .i64 xn, .string xt], .int .i64 num] w (LawEnd w) := by
  have d1 : decide ((60 : Int) < (xt.size : Int)) = false := decide_eq_false (by omega)
  have d2 : decide (60 < xt.size) = false := decide_eq_false (by omega)
  replace H1 := Lib.hid H1
  replace HX := Lib.hid HX
  replace HAt := Lib.hid HAt
  replace HD := Lib.hid HD
  replace HAc := Lib.hid HAc
  replace HRD := Lib.hid HRD
  replace HRA := Lib.hid HRA
  replace HTA := Lib.hid HTA
  replace HTD := Lib.hid HTD
  obtain ⟨i0, hi, hi0, hi1, hi2⟩ := info_parts infoV
  have HZ := Lib.hid hz
  have HLn := Lib.hid hz.1
  have HFit := Lib.hid hz.2.2.1
  have HR := Lib.hid hr
  have HC := Lib.hid hc
  have H4 := Lib.hid h4
  clear hz hr hc h4
  have HA := Lib.hid (fun w1 h => life_c w1 h)
  have HL := Lib.hid hL
  have ht0 := (CellsAt.new w [.int .i64 r, .int .i64 c, .slice A n cap] 24).on_alloc (.cells #[.int .i64 xk, .int .i64 xn, .string xt] 26)
  have hx0 := newAt (w0 := w.alloc (.cells #[.int .i64 r, .int .i64 c, .slice A n cap] 24)) (g := w.heap.size + 1) (by simp) [.int .i64 xk, .int .i64 xn, .string xt] 26
  have hb0 := below2 w (.cells #[.int .i64 r, .int .i64 c, .slice A n cap] 24) (.cells #[.int .i64 xk, .int .i64 xn, .string xt] 26)
  clear hL
  obtain ⟨t0, t1, t2, _⟩ := ht0.three
  obtain ⟨x0, x1, x2, _⟩ := hx0.three
  go_enter Tryz.func4, Tryz.ntmps4
  go_wp2_with fail
  refine (H1.out _ hb0).mono ?_
  rintro e w1 ⟨rfl, hb1⟩
  clear t0 t1 t2 x0 x1 x2
  replace ht0 := ht0.on hb1
  replace hx0 := hx0.on hb1
  replace hb0 := on hb0 hb1
  clear hb1 H1
  obtain ⟨t0, t1, t2, _⟩ := ht0.three
  obtain ⟨x0, x1, x2, _⟩ := hx0.three
  go_wp2_with fail
  refine (HX.out _).mono ?_
  rintro e w2 ⟨rfl, hb2⟩
  clear t0 t1 t2 x0 x1 x2
  replace ht0 := ht0.on hb2
  replace hx0 := hx0.on hb2
  replace hb0 := on hb0 hb2
  clear hb2 HX
  obtain ⟨t0, t1, t2, _⟩ := ht0.three
  obtain ⟨x0, x1, x2, _⟩ := hx0.three
  have hg0 := CellsAt.new w2 [.int .i64 c, .int .i64 r, .slice none 0 0] 24
  have hgl : w.heap.size + 1 < w2.heap.size := hx0.1
  replace ht0 := ht0.on_alloc (.cells #[.int .i64 c, .int .i64 r, .slice none 0 0] 24)
  replace hx0 := hx0.on_alloc (.cells #[.int .i64 c, .int .i64 r, .slice none 0 0] 24)
  replace hb0 := on_alloc hb0 (.cells #[.int .i64 c, .int .i64 r, .slice none 0 0] 24)
  have hsz : (w2.alloc (.cells #[.int .i64 c, .int .i64 r, .slice none 0 0] 24)).heap.size = w2.heap.size + 1 := by simp
  go_wp2_with fail
  generalize w2.alloc (.cells #[.int .i64 c, .int .i64 r, .slice none 0 0] 24) = X at *
  clear t0 t1 t2 x0 x1 x2
  have hst : TurnAt L R C r c A n cap xk xn xt w w2.heap.size 0 X := ⟨_, World.ownsRow_nil _ _ _ _, hg0, hb0, ht0, hx0, hgl⟩
  clear hg0 ht0 hx0 hb0
  go_loopw [8] (fun i wr => ∃ k : Nat, k ≤ C ∧ i = .int .i64 ((k : Int) + 1) ∧ TurnAt L R C r c A n cap xk xn xt w w2.heap.size (k * R) wr) (fun i _ => C + 1 - (intOf i).toNat)
  case atStart => exact ⟨0, Nat.zero_le _, rfl, by rw [Nat.zero_mul]; exact hst⟩
  case round =>
    clear hst
    obtain ⟨k, hk, rfl, hst⟩ := hrel
    by_cases hkl : k < C
    · have e1 : decide ((k : Int) + 1 ≤ c) = true := decide_eq_true (by rw [HC.out]; omega)
      have e2 : decide ((k : Int) < c) = true := decide_eq_true (by rw [HC.out]; omega)
      have htq : CellsAt wr w.heap.size [.int .i64 r, .int .i64 c, .slice A n cap] := by obtain ⟨_, _, _, _, h, _⟩ := hst; exact h
      obtain ⟨t0, t1, t2, _⟩ := htq.three
      go_wp2_with fail
      clear t0 t1 t2 htq e1 e2
      go_loopw [9] (fun i wr => ∃ j : Nat, j ≤ R ∧ i = .int .i64 ((j : Int) + 1) ∧ TurnAt L R C r c A n cap xk xn xt w w2.heap.size (k * R + j) wr) (fun i _ => R + 1 - (intOf i).toNat)
      case atStart => exact ⟨0, Nat.zero_le _, rfl, hst⟩
      case round =>
        clear hst
        obtain ⟨j, hj, rfl, hst⟩ := hrel
        obtain ⟨o0, hrow, hg0, hb0, ht0, hx0, hgl⟩ := hst
        obtain ⟨t0, t1, t2, _⟩ := ht0.three
        by_cases hjl : j < R
        · have e1 : decide ((j : Int) + 1 ≤ r) = true := decide_eq_true (by rw [HR.out]; omega)
          have e2 : decide ((j : Int) < r) = true := decide_eq_true (by rw [HR.out]; omega)
          have hpl : j * C + k < n := place_lt H4.out hjl hkl
          have hql : k * R + j < n := place_lt (R := C) (C := R) (by rw [Nat.mul_comm]; exact H4.out) hkl hjl
          obtain ⟨v, hv⟩ := HZ.out.get hpl
          have HN : Hid (pickL L (turnG R C) (k * R + (j + 1)) = pickL L (turnG R C) (k * R + j) ++ [v]) := Lib.hid (by rw [← Nat.add_assoc]; exact pick_snoc (by rw [turn_at k hjl]; exact hv))
          have HA2 := Lib.hid (fun w1 h => HAt.out k j v w1 hkl hjl hv h)
          have hlen : (pickL L (turnG R C) (k * R + j)).length = k * R + j := pick_len _ _ _
          obtain ⟨g0, g1, g2, _⟩ := hg0.three
          obtain ⟨vk, vn, vt⟩ := v
          have hs0 := hb0.size
          have hgl1 := hg0.1
          clear hv
          go_wp2_with fail
          have T0 := fun d os => cell_regrown t0 d os
          have T1 := fun d os => cell_regrown t1 d os
          have T2 := fun d os => cell_regrown t2 d os
          have G0 := fun d os => cell_regrown g0 d os
          have G1 := fun d os => cell_regrown g1 d os
          have G2 := fun d os => cell_regrown g2 d os
          clear t0 t1 t2 g0 g1 g2 e1 e2
          refine wp_region_mem 7 (fun d => match d with
            | 49 => some (Is (.agg #[.int .i64 vk, .int .i64 vn, .string vt]))
            | 50 => some (NewV [.int .i64 vk, .int .i64 vn, .string vt])
            | _ => none) (by kernel_rfl) (by kernel_rfl) ?_
          simp only [List.take_succ_cons, List.take_zero, List.drop_succ_cons, List.drop_zero]
          repeat (first | ((with_reducible refine wpM_calm ?_ ?_ ?_ ?_); exact rfl; exact rfl; exact rfl; intro K hK; go_big_quiet_op; go_big_quiet_on) | ((with_reducible refine wpM_skip ?_ ?_); exact rfl; simp only [Act.put, List.setIfInBounds_toArray, List.set_cons_succ, List.set_cons_zero]))
          refine wpM_exact rfl rfl rfl Tryz.func13 (by kernel_rfl) (by kernel_rfl) (fun w1 hw1 _ => HA2.out w1 (HZ.out.on (on hb0 hw1))) rfl (by simp only [Act.put, List.setIfInBounds_toArray, List.set_cons_succ, List.set_cons_zero]; rfl) ?_
          refine wpM_makes _ rfl rfl (fun w5 hw5 _ => ?_) ?_
          · simp [go_sem, variesUpon]
            exact ⟨below1 _ _, w5.heap.size, rfl, CellsAt.new w5 [.int .i64 vk, .int .i64 vn, .string vt] _⟩
          rintro v9 ⟨_, b9, rfl, _⟩ a9 ha9
          simp only [Act.put, List.setIfInBounds_toArray, List.set_cons_succ, List.set_cons_zero] at ha9
          subst ha9
          refine wpM_nil ?_
          intro w5 hw5 hF
          obtain ⟨b8, e8, hN8⟩ := NewV.up ((hF 6).2 rfl)
          obtain rfl : b9 = b8 := by simpa using e8
          have hnews := news_at hN8
          replace hrow := hrow.on hw5
          replace hg0 := hg0.on hw5
          replace ht0 := ht0.on hw5
          replace hx0 := hx0.on hw5
          replace hb0 := on hb0 hw5
          have hs5 := hb0.size
          have hg5 := hg0.1
          clear hF hw5 e8 T0 T1 T2 G0 G1 G2 HA2
          generalize pickL L (turnG R C) (k * R + j) = K at *
          generalize hpn : k * R + j = pn at *
          unfold OwnV at hrow
          go_wp2_with (at_builtin; refine wpList_append_own _ rfl _ _ 22 rfl (w2.heap.size + 1) 26 i0 _ 3 32 Tryz.underlying22 hi hi0 hi1 hi2 rfl (by decide) _ _ _ rfl hrow ⟨b9, 0, none⟩ 1 1 [.int .i64 vk, .int .i64 vn, .string vt] rfl rfl hnews (by simp [Value.oneCell']) (by unfold maxLen; omega) (by omega) (by omega) ?_)
          intro v1 w6 hown1 hg9 _
          have hb6 : Below w.heap.size w w6 := hb0.grown hg9 hs5 (fun b e => Nat.le_trans (by omega) (World.ownsRow.lt hrow b e).1)
          have hg6 := cells_grown hg0 hg9 (own_far hrow (by omega))
          have ht6 := cells_grown ht0 hg9 (own_far hrow (by omega))
          have hx6 := cells_grown hx0 hg9 (own_far hrow (by omega))
          have hrow1 := own_snoc (L := K) ⟨vk, vn, vt⟩ (by rw [hlen]; exact hown1)
          obtain ⟨A9, m9, c9, rfl⟩ := own_slice hrow1
          obtain ⟨g0, g1, g2, fg0, fg1, fg2⟩ := hg6.three
          have hg7 : CellsAt (w6.setCell ⟨w2.heap.size, 2, none⟩ (.slice A9 m9 c9)) w2.heap.size [.int .i64 c, .int .i64 r, .slice A9 m9 c9] := hg6.set (i := 2) (by simp) (.slice A9 m9 c9)
          have ht7 := ht6.far (p := ⟨w2.heap.size, 2, none⟩) (by show w2.heap.size ≠ w.heap.size; omega) (.slice A9 m9 c9)
          have hx7 := hx6.far (p := ⟨w2.heap.size, 2, none⟩) (by show w2.heap.size ≠ w.heap.size + 1; omega) (.slice A9 m9 c9)
          have hb7 : Below w.heap.size w (w6.setCell ⟨w2.heap.size, 2, none⟩ (.slice A9 m9 c9)) := hb6.setCell (p := ⟨w2.heap.size, 2, none⟩) (by show w.heap.size ≤ w2.heap.size; omega) (.slice A9 m9 c9)
          have hrow7 : OwnV (w2.heap.size + 1) (.slice A9 m9 c9) (K ++ [⟨vk, vn, vt⟩]) (w6.setCell ⟨w2.heap.size, 2, none⟩ (.slice A9 m9 c9)) := ownsRow_setCell_below hrow1 (by show w2.heap.size < w2.heap.size + 1; omega) (.slice A9 m9 c9)
          clear hown1 hg9 hrow hb0 ht0 hx0 hg0 hnews hN8 hrow1 hb6 ht6 hx6 hg6
          go_wp2
          go_roundw
          case rel => exact ⟨j + 1, by omega, by go_num, _, by rw [HN.out]; exact hrow7, hg7, hb7, ht7, hx7, hgl⟩
          case measure => simp [intOf]; omega
        · obtain rfl : j = R := by omega
          have e1 : decide ((j : Int) + 1 ≤ r) = false := decide_eq_false (by rw [HR.out]; omega)
          have e2 : decide ((j : Int) < r) = false := decide_eq_false (by rw [HR.out]; omega)
          go_wp2_with fail
          go_roundw
          case rel => exact ⟨k + 1, by omega, by go_num, o0, by rw [Nat.succ_mul]; exact hrow, hg0, hb0, ht0, hx0, hgl⟩
          case measure => simp [intOf]; omega
    · obtain rfl : k = C := by omega
      have e1 : decide ((k : Int) + 1 ≤ c) = false := decide_eq_false (by rw [HC.out]; omega)
      have e2 : decide ((k : Int) < c) = false := decide_eq_false (by rw [HC.out]; omega)
      obtain ⟨o0, hrow, hg0, hb0, ht0, hx0, hgl⟩ := hst
      rw [Nat.mul_comm, H4.out] at hrow
      obtain ⟨A7, c7, rfl, hz7⟩ := hrow.reads (n := n) (pick_len _ _ _) (by omega) (fun y hy => HFit.out y (turn_mem h2 H4.out HLn.out hy))
      have HZ7 := Lib.hid hz7
      have HTA2 := Lib.hid (fun w1 h => HTA.out A7 c7 w1 h)
      have HTD2 := Lib.hid (fun w1 h => HTD.out A7 c7 w1 h)
      clear hrow hz7 HTA HTD HAt HZ
      obtain ⟨t0, t1, t2, _⟩ := ht0.three
      obtain ⟨x0, x1, x2, _⟩ := hx0.three
      go_wp2_with fail
      clear e1 e2
      have T0 := fun d os => cell_regrown t0 d os
      have T1 := fun d os => cell_regrown t1 d os
      have T2 := fun d os => cell_regrown t2 d os
      have X0 := fun d os => cell_regrown x0 d os
      have X1 := fun d os => cell_regrown x1 d os
      have X2 := fun d os => cell_regrown x2 d os
      clear t0 t1 t2 x0 x1 x2
      refine wp_region_new 10 (fun d => match d with
        | 56 => some (Is (.agg #[.int .i64 ak, .int .i64 an, .string at_]))
        | 60 => some (Is (.agg #[.int .i64 bk, .int .i64 bn, .string bt]))
        | 10 => some (NewCells wr.heap.size [.int .i64 0, .int .i64 0, .string ⟨#[]⟩])
        | 11 => some (NewCells wr.heap.size [.int .i64 0, .int .i64 0, .string ⟨#[]⟩])
        | _ => none) (fun d => d == 10 || d == 11) (by kernel_rfl) (by kernel_rfl) ?_
      simp only [List.take_succ_cons, List.take_zero, List.drop_succ_cons, List.drop_zero]
      repeat (first | ((with_reducible refine wpM_calm ?_ ?_ ?_ ?_); exact rfl; exact rfl; exact rfl; intro K hK; go_big_quiet_op; go_big_quiet_on) | ((with_reducible refine wpM_skip ?_ ?_); exact rfl; simp only [Act.put, List.setIfInBounds_toArray, List.set_cons_succ, List.set_cons_zero]))
      refine wpM_exact rfl rfl rfl Tryz.func17 (by kernel_rfl) (by kernel_rfl) (fun w1 hw1 _ => HD.out w1 (on hb0 hw1)) rfl (by simp only [Act.put, List.setIfInBounds_toArray, List.set_cons_succ, List.set_cons_zero]; rfl) ?_
      repeat (first | ((with_reducible refine wpM_calm ?_ ?_ ?_ ?_); exact rfl; exact rfl; exact rfl; intro K hK; go_big_quiet_op; go_big_quiet_on) | ((with_reducible refine wpM_skip ?_ ?_); exact rfl; simp only [Act.put, List.setIfInBounds_toArray, List.set_cons_succ, List.set_cons_zero]))
      refine wpM_exact rfl rfl rfl Tryz.func18 (by kernel_rfl) (by kernel_rfl) (fun w1 hw1 _ => HAc.out w1 (on hb0 hw1)) rfl (by simp only [Act.put, List.setIfInBounds_toArray, List.set_cons_succ, List.set_cons_zero]; rfl) ?_
      refine wpM_alloc _ (.cells #[.int .i64 0, .int .i64 0, .string ⟨#[]⟩] 26) rfl rfl rfl (fun w1 => by simp [go_sem]) (fun w1 h1 => (NewCells.mk w1 _ _ h1.size).2) ?_ (by rintro v ⟨_, b, rfl, _⟩; exact ⟨b, rfl⟩)
      intro b5 a' ha'
      simp only [Act.put, List.setIfInBounds_toArray, List.set_cons_succ, List.set_cons_zero] at ha'
      subst ha'
      refine wpM_alloc _ (.cells #[.int .i64 0, .int .i64 0, .string ⟨#[]⟩] 26) rfl rfl rfl (fun w1 => by simp [go_sem]) (fun w1 h1 => (NewCells.mk w1 _ _ h1.size).2) ?_ (by rintro v ⟨_, b, rfl, _⟩; exact ⟨b, rfl⟩)
      intro b6 a' ha'
      simp only [Act.put, List.setIfInBounds_toArray, List.set_cons_succ, List.set_cons_zero] at ha'
      subst ha'
      refine wpM_nil ?_
      intro w3 hw3 hG
      have hne : b5 ≠ b6 := hG.2.1 8 b5 9 b6 (.inl (.inr ⟨rfl, rfl⟩)) (.inr ⟨rfl, rfl⟩) (by decide)
      obtain ⟨hB6, k6⟩ := NewCells.at (Fct.put_at (hG.2.2.1 9))
      obtain ⟨hB5, k5⟩ := NewCells.at (Fct.put_at (Fct.put_old (hG.2.2.1 8)))
      have lt := ht0.1
      have lx := hx0.1
      have lg := hg0.1
      have hs2 := hb0.size
      have HZ8 : Hid (ValsR (put3 (put3 w3 b5 (.int .i64 ak) (.int .i64 an) (.string at_)) b6 (.int .i64 bk) (.int .i64 bn) (.string bt)) A7 n (pickL L (turnG R k) n)) := Lib.hid (HZ7.out.on (set3 (set3 hw3 (b := b5) hB5 (.int .i64 ak) (.int .i64 an) (.string at_)) (b := b6) hB6 (.int .i64 bk) (.int .i64 bn) (.string bt)))
      clear hG T0 T1 T2 X0 X1 X2
      replace ht0 := ((ht0.on hw3).put3_far (c := b5) (by omega) (.int .i64 ak) (.int .i64 an) (.string at_)).put3_far (c := b6) (by omega) (.int .i64 bk) (.int .i64 bn) (.string bt)
      replace hx0 := ((hx0.on hw3).put3_far (c := b5) (by omega) (.int .i64 ak) (.int .i64 an) (.string at_)).put3_far (c := b6) (by omega) (.int .i64 bk) (.int .i64 bn) (.string bt)
      replace hg0 := ((hg0.on hw3).put3_far (c := b5) (by omega) (.int .i64 ak) (.int .i64 an) (.string at_)).put3_far (c := b6) (by omega) (.int .i64 bk) (.int .i64 bn) (.string bt)
      obtain ⟨m0, m1, m2, f0, f1, f2⟩ := k5.three
      obtain ⟨j0, j1, j2, y0, y1, y2⟩ := (k6.put3_far hne (.int .i64 ak) (.int .i64 an) (.string at_)).three
      have q5 := (k5.put3 (.int .i64 ak) (.int .i64 an) (.string at_)).put3_far hne.symm (.int .i64 bk) (.int .i64 bn) (.string bt)
      have q6 := (k6.put3_far hne (.int .i64 ak) (.int .i64 an) (.string at_)).put3 (.int .i64 bk) (.int .i64 bn) (.string bt)
      replace hb0 := set3 (set3 (on hb0 hw3) (b := b5) (by omega) (.int .i64 ak) (.int .i64 an) (.string at_)) (b := b6) (by omega) (.int .i64 bk) (.int .i64 bn) (.string bt)
      simp only [put3] at ht0 hx0 hg0 q5 q6 HZ8
      clear k5 k6 hw3 HZ7 HD HAc
      go_wp2_with fail
      generalize ((((((w3.setCell ⟨b5, 0, none⟩ (.int .i64 ak)).setCell ⟨b5, 1, none⟩ (.int .i64 an)).setCell ⟨b5, 2, none⟩ (.string at_)).setCell ⟨b6, 0, none⟩ (.int .i64 bk)).setCell ⟨b6, 1, none⟩ (.int .i64 bn)).setCell ⟨b6, 2, none⟩ (.string bt)) = W3 at *
      clear m0 m1 m2 f0 f1 f2 j0 j1 j2 y0 y1 y2
      obtain ⟨p0, p1, p2, _⟩ := q5.three
      obtain ⟨s0, s1, s2, _⟩ := q6.three
      obtain ⟨g0, g1, g2, _⟩ := hg0.three
      have P0 := fun d os => cell_regrown p0 d os
      have P1 := fun d os => cell_regrown p1 d os
      have P2 := fun d os => cell_regrown p2 d os
      have S0 := fun d os => cell_regrown s0 d os
      have S1 := fun d os => cell_regrown s1 d os
      have S2 := fun d os => cell_regrown s2 d os
      have G0 := fun d os => cell_regrown g0 d os
      have G1 := fun d os => cell_regrown g1 d os
      have G2 := fun d os => cell_regrown g2 d os
      obtain ⟨t0, t1, t2, _⟩ := ht0.three
      obtain ⟨x0, x1, x2, _⟩ := hx0.three
      have T0 := fun d os => cell_regrown t0 d os
      have T1 := fun d os => cell_regrown t1 d os
      have T2 := fun d os => cell_regrown t2 d os
      have X0 := fun d os => cell_regrown x0 d os
      have X1 := fun d os => cell_regrown x1 d os
      have X2 := fun d os => cell_regrown x2 d os
      clear t0 t1 t2 x0 x1 x2
      clear p0 p1 p2 s0 s1 s2 g0 g1 g2 ht0 hx0 hg0 q5 q6
      refine wp_region_mem 34 (fun d => match d with
        | 65 => some (Is (.agg #[.int .i64 ak, .int .i64 an, .string at_]))
        | 72 => some (Is (.agg #[.int .i64 bk, .int .i64 bn, .string bt]))
        | 79 => some (Is (.agg #[.int .i64 ak, .int .i64 an, .string at_]))
        | 87 => some (Is (.agg #[.int .i64 bk, .int .i64 bn, .string bt]))
        | 92 => some (Is (.bool true))
        | _ => none) (by kernel_rfl) (by kernel_rfl) ?_
      try simp only [List.append]
      simp only [List.take_succ_cons, List.take_zero, List.drop_succ_cons, List.drop_zero]
      repeat (first | ((with_reducible refine wpM_calm ?_ ?_ ?_ ?_); exact rfl; exact rfl; exact rfl; intro K hK; go_big_quiet_op; go_big_quiet_on) | ((with_reducible refine wpM_skip ?_ ?_); exact rfl; simp only [Act.put, List.setIfInBounds_toArray, List.set_cons_succ, List.set_cons_zero]))
      refine wpM_exact rfl rfl rfl Tryz.func19 (by kernel_rfl) (by kernel_rfl) (fun w1 hw1 _ => HRD.out w1 (on hb0 hw1)) rfl (by simp only [Act.put, List.setIfInBounds_toArray, List.set_cons_succ, List.set_cons_zero]; rfl) ?_
      repeat (first | ((with_reducible refine wpM_calm ?_ ?_ ?_ ?_); exact rfl; exact rfl; exact rfl; intro K hK; go_big_quiet_op; go_big_quiet_on) | ((with_reducible refine wpM_skip ?_ ?_); exact rfl; simp only [Act.put, List.setIfInBounds_toArray, List.set_cons_succ, List.set_cons_zero]))
      refine wpM_exact rfl rfl rfl Tryz.func20 (by kernel_rfl) (by kernel_rfl) (fun w1 hw1 _ => HRA.out w1 (on hb0 hw1)) rfl (by simp only [Act.put, List.setIfInBounds_toArray, List.set_cons_succ, List.set_cons_zero]; rfl) ?_
      repeat (first | ((with_reducible refine wpM_calm ?_ ?_ ?_ ?_); exact rfl; exact rfl; exact rfl; intro K hK; go_big_quiet_op; go_big_quiet_on) | ((with_reducible refine wpM_skip ?_ ?_); exact rfl; simp only [Act.put, List.setIfInBounds_toArray, List.set_cons_succ, List.set_cons_zero]))
      refine wpM_exact rfl rfl rfl Tryz.func18 (by kernel_rfl) (by kernel_rfl) (fun w1 hw1 _ => HTA2.out w1 (HZ8.out.on hw1)) rfl (by simp only [Act.put, List.setIfInBounds_toArray, List.set_cons_succ, List.set_cons_zero]; rfl) ?_
      repeat (first | ((with_reducible refine wpM_calm ?_ ?_ ?_ ?_); exact rfl; exact rfl; exact rfl; intro K hK; go_big_quiet_op; go_big_quiet_on) | ((with_reducible refine wpM_skip ?_ ?_); exact rfl; simp only [Act.put, List.setIfInBounds_toArray, List.set_cons_succ, List.set_cons_zero]))
      refine wpM_exact rfl rfl rfl Tryz.func17 (by kernel_rfl) (by kernel_rfl) (fun w1 hw1 _ => HTD2.out w1 (HZ8.out.on hw1)) rfl (by simp only [Act.put, List.setIfInBounds_toArray, List.set_cons_succ, List.set_cons_zero]; rfl) ?_
      repeat (first | ((with_reducible refine wpM_calm ?_ ?_ ?_ ?_); exact rfl; exact rfl; exact rfl; intro K hK; go_big_quiet_op; go_big_quiet_on) | ((with_reducible refine wpM_skip ?_ ?_); exact rfl; simp only [Act.put, List.setIfInBounds_toArray, List.set_cons_succ, List.set_cons_zero]))
      refine wpM_exact rfl rfl rfl Tryz.func7 (by kernel_rfl) (by kernel_rfl) (fun w1 hw1 _ => HA.out w1 (HL.out.grown (on hb0 hw1))) rfl (by simp only [Act.put, List.setIfInBounds_toArray, List.set_cons_succ, List.set_cons_zero]; rfl) ?_
      repeat (first | ((with_reducible refine wpM_calm ?_ ?_ ?_ ?_); exact rfl; exact rfl; exact rfl; intro K hK; go_big_quiet_op; go_big_quiet_on) | ((with_reducible refine wpM_skip ?_ ?_); exact rfl; simp only [Act.put, List.setIfInBounds_toArray, List.set_cons_succ, List.set_cons_zero]))
      refine wpM_nil ?_
      intro w9 hw9 _
      clear T0 T1 T2 X0 X1 X2 P0 P1 P2 S0 S1 S2 G0 G1 G2
      go_wp2
      go_ret
      exact ⟨rfl, on hb0 hw9⟩
set_option maxRecDepth 100000 in
theorem across_law (r c : Int) (A : Option Addr) (n cap : Nat) (xk xn : Int) (xt : ByteArray) (num : Int) (L : List Vl) (w : World) (hz : n ≤ 1000 → ValsR w A n L) (hL : CLibs w) :
    Calls Tryz.prog 4 #[.agg #[.int .i64 r, .int .i64 c, .slice A n cap], .agg #[.int .i64 xk, .int .i64 xn, .string xt], .int .i64 num] w (LawEnd w) := by
  obtain ⟨b1, h1⟩ := small_some r c n L
  have H1 : ∀ w1, Below w.heap.size w w1 → Calls Tryz.prog 16 #[.agg #[.int .i64 r, .int .i64 c, .slice A n cap]] w1 (Bit b1 w1) := fun w1 hw => small_c r c A n cap L b1 h1 w1 (fun h => (hz h).on hw)
  cases b1
  · exact across_law_1 r c A n cap xk xn xt num w H1 hL
  obtain ⟨hg, hm, hs⟩ : Good r c n ∧ (∀ v ∈ L, v.may) ∧ n ≤ 60 := by
    rcases h1 with ⟨_, h, hm, hs, _⟩ | ⟨h, _⟩ | ⟨h, _⟩
    · exact ⟨h, hm, hs⟩
    · cases h
    · cases h
  have z := hz (by omega)
  cases hx : mayV xk xn xt
  · exact across_law_2 r c A n cap xk xn xt num w H1 (fun w1 => rmayv_c xk xn xt false hx w1) hL
  have HX : ∀ w1, Calls Tryz.prog 10 #[.agg #[.int .i64 xk, .int .i64 xn, .string xt]] w1 (Bit true w1) := fun w1 => rmayv_c xk xn xt true hx w1
  by_cases h6 : xt.size ≤ 60
  · obtain ⟨R, C, rfl, rfl, g1, g2, g3, g4, g5, g6⟩ := hg.nat
    have g4' : C * R = n := by rw [Nat.mul_comm]; exact g4
    obtain ⟨va, ha⟩ := down_some ⟨xk, xn, xt⟩ L R C num
    obtain ⟨vb, hb⟩ := across_some ⟨xk, xn, xt⟩ L R C num
    have hmt : ∀ v ∈ pickL L (turnG R C) n, v.may := fun v hv => hm v (turn_mem g2 g4 z.1 hv)
    exact across_law_4 R C A n cap xk xn xt num va.k va.n va.t vb.k vb.n vb.t L R C g2 rfl rfl g4 hs (by omega) (by omega) h6 w z H1 HX
      (fun k j v w1 hk hj hv hz1 => rat_yes R C _ _ A n cap L _ _ _ _ (Way.at g1 g2 g3 g4 hj hk rfl rfl) v hv w1 hz1)
      (fun w1 hw => down_c g1 g2 g3 g4 ⟨xk, xn, xt⟩ hx A cap L hm num va ha w1 (z.on hw)) (fun w1 hw => across_c g1 g2 g3 g4 ⟨xk, xn, xt⟩ hx A cap L hm num vb hb w1 (z.on hw))
      (fun w1 hw => rdown_c g1 g2 g3 g4 ⟨xk, xn, xt⟩ hx A cap L hm num va ha w1 (z.on hw)) (fun w1 hw => racross_c g1 g2 g3 g4 ⟨xk, xn, xt⟩ hx A cap L hm num vb hb w1 (z.on hw))
      (fun A7 c7 w1 h7 => across_c g2 g1 g3 g4' ⟨xk, xn, xt⟩ hx A7 c7 _ hmt num va (turn_across g1 g2 g4 ha) w1 h7) (fun A7 c7 w1 h7 => down_c g2 g1 g3 g4' ⟨xk, xn, xt⟩ hx A7 c7 _ hmt num vb (turn_down g1 g2 g4 hb) w1 h7) hL
  · exact across_law_3 r c A n cap xk xn xt num (by omega) w H1 HX hL
end Go.Proofs.YtbjomidkeignjaaGreatDoor.Lok
