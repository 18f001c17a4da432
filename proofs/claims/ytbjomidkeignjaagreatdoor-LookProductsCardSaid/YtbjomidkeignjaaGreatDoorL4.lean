/- The values of a column and of a row: package look's column and line, as rows of one's own. Written by wip/gen18e.py.
   What is looked up: package look's beside, Down and Across. Written by wip/gen18f.py.
   What is looked up, the reference's way: its Down and Across. Written by wip/gen18f.py. -/
import Derived.Test.YtbjomidkeignjaaGreatDoorL2
import Derived.Test.YtbjomidkeignjaaGreatDoorGa
import Derived.Test.YtbjomidkeignjaaGreatDoorL3
import Derived.Test.YtbjomidkeignjaaGreatDoorG8
namespace Go.Proofs.YtbjomidkeignjaaGreatDoor.Lok
open Go.RowKit Kit Reg Dec Dig Val Fld

theorem infoV : (Tryz.prog.info? 26).map (fun i => (i.zero, i.size, i.bytes)) = some (some (.agg #[.int .i64 0, .int .i64 0, .string ⟨#[]⟩]), 3, 32) := by kernel_rfl
theorem three_new {w : World} {g : Nat} (hg : g = w.heap.size) (x y z : Value) (ty : TypeId) : ∀ j u, [x, y, z][j]? = some u → (w.alloc (.cells #[x, y, z] ty)).cell? ((⟨g, 0, none⟩ : Addr).add j) = some u := by
  intro j u hj
  rw [show ((⟨g, 0, none⟩ : Addr).add j) = ⟨g, j, none⟩ by unfold Addr.add; split <;> simp_all, hg]
  exact ((CellsAt.new w [x, y, z] ty).2 j u hj).1
theorem own_snoc {B : Nat} {w : World} {v : Value} {L : List Vl} (x : Vl) (h : w.ownsRow B 26 3 v (L.length + 1) (flatV L ++ x.cells)) : OwnV B v (L ++ [x]) w := by
  unfold OwnV
  rw [flatV_snoc, List.length_append]
  exact h
/-- a row of one's own, of such values -/
def RowIs (K : List Vl) (m : Nat) (w : World) : Ending → World → Prop := fun e w' => ∃ A2 c2, e = .returned (.slice A2 m c2) ∧ ValsR w' A2 m K ∧ Below w.heap.size w w'
theorem vals_nil (w : World) (A : Option Addr) : ValsR w A 0 [] := ⟨rfl, Nat.zero_le _, (by intro v hv; cases hv), fun h => absurd rfl h⟩

set_option maxRecDepth 100000 in
set_option maxHeartbeats 2000000 in
theorem column_out (r c col : Int) (A : Option Addr) (n cap : Nat) (m : Nat) (hm : r = (m : Int)) (m9 : m ≤ 1000) (HA : ∀ (k : Nat) w1, k < m → Calls Tryz.prog 11 #[.agg #[.int .i64 r, .int .i64 c, .slice A n cap], .int .i64 ((k : Int) + 1), .int .i64 (col)] w1 (AtIs zeroVl false w1)) (w : World) :
    Calls Tryz.prog 39 #[.agg #[.int .i64 r, .int .i64 c, .slice A n cap], .int .i64 col] w (RowIs [] 0 w) := by
  have HA := Lib.hid HA
  have HB := Lib.hid hm
  have hb0 := below1 w (.cells #[.int .i64 r, .int .i64 c, .slice A n cap] 24)
  have ht0 := (CellsAt.new w [.int .i64 r, .int .i64 c, .slice A n cap] 24).on_alloc (.cells #[] 26)
  have hrow := World.ownsRow_lit (base := w.heap.size + 1) (e := 26) (size := 3) (w.alloc (.cells #[.int .i64 r, .int .i64 c, .slice A n cap] 24)) #[] 0 (by simp) (by simp [maxLen]) rfl
  rw [show (w.alloc (.cells #[.int .i64 r, .int .i64 c, .slice A n cap] 24)).heap.size = w.heap.size + 1 by simp] at hrow
  replace hb0 := on_alloc hb0 (.cells #[] 26)
  obtain ⟨t0, t1, t2, _⟩ := ht0.three
  clear hm
  go_enter Tryz.func39, Tryz.ntmps39
  go_wp2_with fail
  generalize (w.alloc (.cells #[.int .i64 r, .int .i64 c, .slice A n cap] 24)).alloc (.cells #[] 26) = W at *
  clear t0 t1 t2
  clear hrow
  go_loopw [5, 12] (fun o i wr => ∃ k : Nat, k ≤ m ∧ i = .int .i64 k ∧ o = .slice (some ⟨w.heap.size + 1, 0, none⟩) 0 0 ∧ Below W.heap.size W wr) (fun _ i _ => m - (intOf i).toNat)
  case atStart => exact ⟨0, Nat.zero_le _, rfl, rfl, Below.refl _ _⟩
  case round =>
    obtain ⟨k, hk, rfl, rfl, hbW⟩ := hrel
    by_cases hlt : k < m
    · have d : decide ((k : Int) < r) = true := decide_eq_true (by rw [HB.out]; omega)
      obtain ⟨t0, t1, t2, _⟩ := (ht0.on hbW).three
      have HA2 := Lib.hid (fun w1 => HA.out k w1 hlt)
      clear HA HB
      go_wp2_with fail
      refine (HA2.out _).mono ?_
      rintro e w2 ⟨rfl, hb2⟩
      replace hbW := on_alloc (on hbW hb2) (.cells #[.int .i64 0, .int .i64 0, .string ⟨#[]⟩] 26)
      clear hb2 HA2 t0 t1 t2 d
      unfold zeroVl
      go_wp2_with fail
      go_roundw
      case rel => exact ⟨k + 1, by omega, by go_num, rfl, hbW⟩
      case measure => simp [intOf]; omega
    · have d : decide ((k : Int) < r) = false := decide_eq_false (by rw [HB.out]; omega)
      clear HA HB
      go_wp2_with fail
      go_ret
      exact ⟨_, _, rfl, vals_nil _ _, on hb0 hbW⟩
set_option maxRecDepth 100000 in
set_option maxHeartbeats 2000000 in
theorem column_in (r c col : Int) (A : Option Addr) (n cap : Nat) (L : List Vl) (g : Nat → Nat) (m : Nat) (hm : r = (m : Int)) (m9 : m ≤ 1000) (hg : ∀ i, i < m → g i < n) (HA : ∀ (k : Nat) v w1, k < m → L[g k]? = some v → ValsR w1 A n L → Calls Tryz.prog 11 #[.agg #[.int .i64 r, .int .i64 c, .slice A n cap], .int .i64 ((k : Int) + 1), .int .i64 (col)] w1 (AtIs v true w1)) (w : World) (hz : ValsR w A n L) :
    Calls Tryz.prog 39 #[.agg #[.int .i64 r, .int .i64 c, .slice A n cap], .int .i64 col] w (RowIs (pickL L g m) m w) := by
  obtain ⟨i0, hi, hz0, hz1, hz2⟩ := info_parts infoV
  have HA := Lib.hid HA
  have HB := Lib.hid hm
  have HZ := Lib.hid hz
  have HG := Lib.hid hg
  have HLn := Lib.hid hz.1
  have HFit := Lib.hid hz.2.2.1
  have hb0 := below1 w (.cells #[.int .i64 r, .int .i64 c, .slice A n cap] 24)
  have ht0 := (CellsAt.new w [.int .i64 r, .int .i64 c, .slice A n cap] 24).on_alloc (.cells #[] 26)
  have hrow := World.ownsRow_lit (base := w.heap.size + 1) (e := 26) (size := 3) (w.alloc (.cells #[.int .i64 r, .int .i64 c, .slice A n cap] 24)) #[] 0 (by simp) (by simp [maxLen]) rfl
  rw [show (w.alloc (.cells #[.int .i64 r, .int .i64 c, .slice A n cap] 24)).heap.size = w.heap.size + 1 by simp] at hrow
  replace hb0 := on_alloc hb0 (.cells #[] 26)
  obtain ⟨t0, t1, t2, _⟩ := ht0.three
  clear hm hz hg
  go_enter Tryz.func39, Tryz.ntmps39
  go_wp2_with fail
  generalize (w.alloc (.cells #[.int .i64 r, .int .i64 c, .slice A n cap] 24)).alloc (.cells #[] 26) = W at *
  clear t0 t1 t2
  go_loopw [5, 12] (fun o i wr => ∃ k : Nat, k ≤ m ∧ i = .int .i64 k ∧ OwnV (w.heap.size + 1) o (pickL L g k) wr ∧ Below w.heap.size w wr ∧ CellsAt wr w.heap.size [.int .i64 r, .int .i64 c, .slice A n cap]) (fun _ i _ => m - (intOf i).toNat)
  case atStart => exact ⟨0, Nat.zero_le _, rfl, hrow, hb0, ht0⟩
  case round =>
    have hs2 := hb0.size
    clear hb0 hrow ht0
    obtain ⟨k, hk, rfl, hrow, hb0, ht0⟩ := hrel
    have hlen : (pickL L g k).length = k := pick_len _ _ _
    have hs0 := hb0.size
    by_cases hlt : k < m
    · have d : decide ((k : Int) < r) = true := decide_eq_true (by rw [HB.out]; omega)
      obtain ⟨v, hv⟩ := HZ.out.get (HG.out k hlt)
      have HN : Hid (pickL L g (k + 1) = pickL L g k ++ [v]) := Lib.hid (pick_snoc hv)
      obtain ⟨t0, t1, t2, _⟩ := ht0.three
      have HA2 := Lib.hid (fun w1 h => HA.out k v w1 hlt hv h)
      replace HZ := Lib.hid (HZ.out.on hb0)
      obtain ⟨vk, vn, vt⟩ := v
      clear HA HB hv
      go_wp2_with fail
      refine (HA2.out _ HZ.out).mono ?_
      rintro e w2 ⟨rfl, hb2⟩
      dsimp only
      have hX := CellsAt.new w2 [.int .i64 vk, .int .i64 vn, .string vt] 26
      have hsX := hX.1
      obtain ⟨y0, y1, y2, _⟩ := hX.three
      replace hrow := (hrow.on hb2).on (below1 w2 (.cells #[.int .i64 vk, .int .i64 vn, .string vt] 26))
      replace hb0 := on_alloc (on hb0 hb2) (.cells #[.int .i64 vk, .int .i64 vn, .string vt] 26)
      replace ht0 := (ht0.on hb2).on_alloc (.cells #[.int .i64 vk, .int .i64 vn, .string vt] 26)
      have hs3 := hb0.size
      have hlx : (w2.alloc (.cells #[.int .i64 vk, .int .i64 vn, .string vt] 26)).heap.size = w2.heap.size + 1 := by simp
      have hs4 := hb2.size
      generalize pickL L g k = K at *
      clear hb2 HA2 t0 t1 t2 d HZ
      unfold OwnV at hrow
      go_wp2_with (at_builtin; refine wpList_append_own _ rfl _ _ 22 rfl (w.heap.size + 1) 26 i0 _ 3 32 Tryz.underlying22 hi hz0 hz1 hz2 rfl (by decide) _ _ _ rfl (hrow.alloc _) ⟨_, 0, none⟩ 1 1 [.int .i64 vk, .int .i64 vn, .string vt] rfl rfl (three_new (by simp) _ _ _ _) (by simp [Value.oneCell']) (by unfold maxLen; omega) (by omega) (by simp; omega) ?_)
      intro v1 w3 hown1 hg1 _
      have hb3 := own_below hrow hb0 (by omega) hg1
      have hb4 := cells_grown (ht0.on_alloc _) hg1 (own_far hrow (by omega))
      have hrow1 := own_snoc (L := K) ⟨vk, vn, vt⟩ (by rw [hlen]; exact hown1)
      clear hown1 hg1 hrow hb0 ht0 y0 y1 y2 hX
      go_wp2
      go_roundw
      case rel => exact ⟨k + 1, by omega, by go_num, by rw [HN.out]; exact hrow1, hb3, hb4⟩
      case measure => simp [intOf]; omega
    · obtain rfl : k = m := by omega
      have d : decide ((k : Int) < r) = false := decide_eq_false (by rw [HB.out]; omega)
      obtain ⟨t0, t1, t2, _⟩ := ht0.three
      obtain ⟨A2, c2, rfl, hZ2⟩ := hrow.reads (n := k) hlen m9 (fun x hx => HFit.out x (pick_mem (fun i hi => by rw [HLn.out]; exact HG.out i hi) hx))
      have HZ2 := Lib.hid hZ2
      clear HA HB hrow hZ2
      go_wp2_with fail
      go_ret
      exact ⟨A2, c2, rfl, HZ2.out, hb0⟩
set_option maxRecDepth 100000 in
set_option maxHeartbeats 2000000 in
theorem line_out (r c row : Int) (A : Option Addr) (n cap : Nat) (m : Nat) (hm : c = (m : Int)) (m9 : m ≤ 1000) (HA : ∀ (k : Nat) w1, k < m → Calls Tryz.prog 11 #[.agg #[.int .i64 r, .int .i64 c, .slice A n cap], .int .i64 (row), .int .i64 ((k : Int) + 1)] w1 (AtIs zeroVl false w1)) (w : World) :
    Calls Tryz.prog 40 #[.agg #[.int .i64 r, .int .i64 c, .slice A n cap], .int .i64 row] w (RowIs [] 0 w) := by
  have HA := Lib.hid HA
  have HB := Lib.hid hm
  have hb0 := below1 w (.cells #[.int .i64 r, .int .i64 c, .slice A n cap] 24)
  have ht0 := (CellsAt.new w [.int .i64 r, .int .i64 c, .slice A n cap] 24).on_alloc (.cells #[] 26)
  have hrow := World.ownsRow_lit (base := w.heap.size + 1) (e := 26) (size := 3) (w.alloc (.cells #[.int .i64 r, .int .i64 c, .slice A n cap] 24)) #[] 0 (by simp) (by simp [maxLen]) rfl
  rw [show (w.alloc (.cells #[.int .i64 r, .int .i64 c, .slice A n cap] 24)).heap.size = w.heap.size + 1 by simp] at hrow
  replace hb0 := on_alloc hb0 (.cells #[] 26)
  obtain ⟨t0, t1, t2, _⟩ := ht0.three
  clear hm
  go_enter Tryz.func40, Tryz.ntmps40
  go_wp2_with fail
  generalize (w.alloc (.cells #[.int .i64 r, .int .i64 c, .slice A n cap] 24)).alloc (.cells #[] 26) = W at *
  clear t0 t1 t2
  clear hrow
  go_loopw [5, 12] (fun o i wr => ∃ k : Nat, k ≤ m ∧ i = .int .i64 k ∧ o = .slice (some ⟨w.heap.size + 1, 0, none⟩) 0 0 ∧ Below W.heap.size W wr) (fun _ i _ => m - (intOf i).toNat)
  case atStart => exact ⟨0, Nat.zero_le _, rfl, rfl, Below.refl _ _⟩
  case round =>
    obtain ⟨k, hk, rfl, rfl, hbW⟩ := hrel
    by_cases hlt : k < m
    · have d : decide ((k : Int) < c) = true := decide_eq_true (by rw [HB.out]; omega)
      obtain ⟨t0, t1, t2, _⟩ := (ht0.on hbW).three
      have HA2 := Lib.hid (fun w1 => HA.out k w1 hlt)
      clear HA HB
      go_wp2_with fail
      refine (HA2.out _).mono ?_
      rintro e w2 ⟨rfl, hb2⟩
      replace hbW := on_alloc (on hbW hb2) (.cells #[.int .i64 0, .int .i64 0, .string ⟨#[]⟩] 26)
      clear hb2 HA2 t0 t1 t2 d
      unfold zeroVl
      go_wp2_with fail
      go_roundw
      case rel => exact ⟨k + 1, by omega, by go_num, rfl, hbW⟩
      case measure => simp [intOf]; omega
    · have d : decide ((k : Int) < c) = false := decide_eq_false (by rw [HB.out]; omega)
      clear HA HB
      go_wp2_with fail
      go_ret
      exact ⟨_, _, rfl, vals_nil _ _, on hb0 hbW⟩
set_option maxRecDepth 100000 in
set_option maxHeartbeats 2000000 in
theorem line_in (r c row : Int) (A : Option Addr) (n cap : Nat) (L : List Vl) (g : Nat → Nat) (m : Nat) (hm : c = (m : Int)) (m9 : m ≤ 1000) (hg : ∀ i, i < m → g i < n) (HA : ∀ (k : Nat) v w1, k < m → L[g k]? = some v → ValsR w1 A n L → Calls Tryz.prog 11 #[.agg #[.int .i64 r, .int .i64 c, .slice A n cap], .int .i64 (row), .int .i64 ((k : Int) + 1)] w1 (AtIs v true w1)) (w : World) (hz : ValsR w A n L) :
    Calls Tryz.prog 40 #[.agg #[.int .i64 r, .int .i64 c, .slice A n cap], .int .i64 row] w (RowIs (pickL L g m) m w) := by
  obtain ⟨i0, hi, hz0, hz1, hz2⟩ := info_parts infoV
  have HA := Lib.hid HA
  have HB := Lib.hid hm
  have HZ := Lib.hid hz
  have HG := Lib.hid hg
  have HLn := Lib.hid hz.1
  have HFit := Lib.hid hz.2.2.1
  have hb0 := below1 w (.cells #[.int .i64 r, .int .i64 c, .slice A n cap] 24)
  have ht0 := (CellsAt.new w [.int .i64 r, .int .i64 c, .slice A n cap] 24).on_alloc (.cells #[] 26)
  have hrow := World.ownsRow_lit (base := w.heap.size + 1) (e := 26) (size := 3) (w.alloc (.cells #[.int .i64 r, .int .i64 c, .slice A n cap] 24)) #[] 0 (by simp) (by simp [maxLen]) rfl
  rw [show (w.alloc (.cells #[.int .i64 r, .int .i64 c, .slice A n cap] 24)).heap.size = w.heap.size + 1 by simp] at hrow
  replace hb0 := on_alloc hb0 (.cells #[] 26)
  obtain ⟨t0, t1, t2, _⟩ := ht0.three
  clear hm hz hg
  go_enter Tryz.func40, Tryz.ntmps40
  go_wp2_with fail
  generalize (w.alloc (.cells #[.int .i64 r, .int .i64 c, .slice A n cap] 24)).alloc (.cells #[] 26) = W at *
  clear t0 t1 t2
  go_loopw [5, 12] (fun o i wr => ∃ k : Nat, k ≤ m ∧ i = .int .i64 k ∧ OwnV (w.heap.size + 1) o (pickL L g k) wr ∧ Below w.heap.size w wr ∧ CellsAt wr w.heap.size [.int .i64 r, .int .i64 c, .slice A n cap]) (fun _ i _ => m - (intOf i).toNat)
  case atStart => exact ⟨0, Nat.zero_le _, rfl, hrow, hb0, ht0⟩
  case round =>
    have hs2 := hb0.size
    clear hb0 hrow ht0
    obtain ⟨k, hk, rfl, hrow, hb0, ht0⟩ := hrel
    have hlen : (pickL L g k).length = k := pick_len _ _ _
    have hs0 := hb0.size
    by_cases hlt : k < m
    · have d : decide ((k : Int) < c) = true := decide_eq_true (by rw [HB.out]; omega)
      obtain ⟨v, hv⟩ := HZ.out.get (HG.out k hlt)
      have HN : Hid (pickL L g (k + 1) = pickL L g k ++ [v]) := Lib.hid (pick_snoc hv)
      obtain ⟨t0, t1, t2, _⟩ := ht0.three
      have HA2 := Lib.hid (fun w1 h => HA.out k v w1 hlt hv h)
      replace HZ := Lib.hid (HZ.out.on hb0)
      obtain ⟨vk, vn, vt⟩ := v
      clear HA HB hv
      go_wp2_with fail
      refine (HA2.out _ HZ.out).mono ?_
      rintro e w2 ⟨rfl, hb2⟩
      dsimp only
      have hX := CellsAt.new w2 [.int .i64 vk, .int .i64 vn, .string vt] 26
      have hsX := hX.1
      obtain ⟨y0, y1, y2, _⟩ := hX.three
      replace hrow := (hrow.on hb2).on (below1 w2 (.cells #[.int .i64 vk, .int .i64 vn, .string vt] 26))
      replace hb0 := on_alloc (on hb0 hb2) (.cells #[.int .i64 vk, .int .i64 vn, .string vt] 26)
      replace ht0 := (ht0.on hb2).on_alloc (.cells #[.int .i64 vk, .int .i64 vn, .string vt] 26)
      have hs3 := hb0.size
      have hlx : (w2.alloc (.cells #[.int .i64 vk, .int .i64 vn, .string vt] 26)).heap.size = w2.heap.size + 1 := by simp
      have hs4 := hb2.size
      generalize pickL L g k = K at *
      clear hb2 HA2 t0 t1 t2 d HZ
      unfold OwnV at hrow
      go_wp2_with (at_builtin; refine wpList_append_own _ rfl _ _ 22 rfl (w.heap.size + 1) 26 i0 _ 3 32 Tryz.underlying22 hi hz0 hz1 hz2 rfl (by decide) _ _ _ rfl (hrow.alloc _) ⟨_, 0, none⟩ 1 1 [.int .i64 vk, .int .i64 vn, .string vt] rfl rfl (three_new (by simp) _ _ _ _) (by simp [Value.oneCell']) (by unfold maxLen; omega) (by omega) (by simp; omega) ?_)
      intro v1 w3 hown1 hg1 _
      have hb3 := own_below hrow hb0 (by omega) hg1
      have hb4 := cells_grown (ht0.on_alloc _) hg1 (own_far hrow (by omega))
      have hrow1 := own_snoc (L := K) ⟨vk, vn, vt⟩ (by rw [hlen]; exact hown1)
      clear hown1 hg1 hrow hb0 ht0 y0 y1 y2 hX
      go_wp2
      go_roundw
      case rel => exact ⟨k + 1, by omega, by go_num, by rw [HN.out]; exact hrow1, hb3, hb4⟩
      case measure => simp [intOf]; omega
    · obtain rfl : k = m := by omega
      have d : decide ((k : Int) < c) = false := decide_eq_false (by rw [HB.out]; omega)
      obtain ⟨t0, t1, t2, _⟩ := ht0.three
      obtain ⟨A2, c2, rfl, hZ2⟩ := hrow.reads (n := k) hlen m9 (fun x hx => HFit.out x (pick_mem (fun i hi => by rw [HLn.out]; exact HG.out i hi) hx))
      have HZ2 := Lib.hid hZ2
      clear HA HB hrow hZ2
      go_wp2_with fail
      go_ret
      exact ⟨A2, c2, rfl, HZ2.out, hb0⟩
end Go.Proofs.YtbjomidkeignjaaGreatDoor.Lok
namespace Go.Proofs.YtbjomidkeignjaaGreatDoor.Lok
open Go.RowKit Kit Reg Dec Dig Val Fld

/-- a slice that reads as such values -/
def RowV (K : List Vl) (m : Nat) (v : Value) (w : World) : Prop := ∃ A c, v = .slice A m c ∧ ValsR w A m K
theorem RowV.up {K : List Vl} {m : Nat} {v : Value} {w : World} (h : Up (RowV K m v) w) : RowV K m v w := by
  obtain ⟨w1, ⟨A, c, e, h1⟩, hb⟩ := h
  exact ⟨A, c, e, h1.on hb⟩

set_option maxRecDepth 100000 in
set_option maxHeartbeats 2000000 in
theorem side_fault (x : Vl) (h4 : x.k = 4) (A1 : Option Addr) (m1 c1 : Nat) (A2 : Option Addr) (m2 c2 : Nat) (w : World) :
    Calls Tryz.prog 38 #[.agg #[.int .i64 x.k, .int .i64 x.n, .string x.t], .slice A1 m1 c1, .slice A2 m2 c2] w (ValIs x.k x.n x.t w) := by
  obtain ⟨xk, xn, xt⟩ := x
  obtain rfl : xk = 4 := h4
  go_enter Tryz.func38, Tryz.ntmps38
  go_wp2_with fail
  exact bodyPost_ret (v := .agg #[.int .i64 4, .int .i64 xn, .string xt]) (by simp [results, Tryz.results38, go_sem]) rfl ⟨rfl, below2 _ _ _⟩
set_option maxRecDepth 100000 in
set_option maxHeartbeats 2000000 in
theorem side_none (x : Vl) (h4 : ¬ x.k = 4) (A1 : Option Addr) (m1 c1 : Nat) (A2 : Option Addr) (c2 : Nat) (w : World) :
    Calls Tryz.prog 38 #[.agg #[.int .i64 x.k, .int .i64 x.n, .string x.t], .slice A1 m1 c1, .slice A2 0 c2] w (ValIs 4 3 ⟨#[]⟩ w) := by
  have q4 := k4_no h4
  obtain ⟨xk, xn, xt⟩ := x
  dsimp only at q4 ⊢
  have HB : Hid (∀ w1, Calls Tryz.prog 37 #[.int .i64 3] w1 (ValIs 4 3 ⟨#[]⟩ w1)) := Lib.hid (fun w1 => bad_c 3 w1)
  have hr0 := newAt (w0 := w.alloc (.cells #[.int .i64 xk, .int .i64 xn, .string xt] 26)) (g := w.heap.size + 1) (by simp) [.int .i64 0, .int .i64 0, .string ⟨#[]⟩] 26
  have hb0 := below2 w (.cells #[.int .i64 xk, .int .i64 xn, .string xt] 26) (.cells #[.int .i64 0, .int .i64 0, .string ⟨#[]⟩] 26)
  clear h4
  go_enter Tryz.func38, Tryz.ntmps38
  go_wp2_with fail
  generalize (w.alloc (.cells #[.int .i64 xk, .int .i64 xn, .string xt] 26)).alloc (.cells #[.int .i64 0, .int .i64 0, .string ⟨#[]⟩] 26) = W at *
  refine (HB.out _).mono ?_
  rintro e w1 ⟨rfl, hb1⟩
  replace hr0 := hr0.on hb1
  replace hb0 := on hb0 hb1
  clear HB hb1
  obtain ⟨p0, p1, p2, f0, f1, f2⟩ := hr0.three
  have hl := hr0.1
  obtain ⟨z0, z1, z2⟩ := three_set (u := .int .i64 4) (v := .int .i64 3) (r := .string ⟨#[]⟩) p0 p1 p2
  have hb5 := set3 hb0 (b := w.heap.size + 1) (by omega) (.int .i64 4) (.int .i64 3) (.string ⟨#[]⟩)
  clear hb0 hr0
  go_wp2_with fail
  exact bodyPost_ret (v := .agg #[.int .i64 4, .int .i64 3, .string ⟨#[]⟩]) (by simp [results, Tryz.results38, go_sem, z0, z1, z2]) rfl ⟨rfl, hb5⟩
set_option maxRecDepth 100000 in
set_option maxHeartbeats 2000000 in
theorem side_no (x : Vl) (hx : x.may) (h4 : ¬ x.k = 4) (A1 : Option Addr) (m1 c1 : Nat) (A2 : Option Addr) (m2 c2 : Nat) (h2 : ¬ m2 = 0) (K : List Vl) (hm : ∀ v ∈ K, v.may) (hs : NoS x K) (w : World) (hz : ValsR w A1 m1 K) :
    Calls Tryz.prog 38 #[.agg #[.int .i64 x.k, .int .i64 x.n, .string x.t], .slice A1 m1 c1, .slice A2 m2 c2] w (ValIs 4 5 ⟨#[]⟩ w) := by
  have HF := Lib.hid (fun w1 hz => found_no x hx h4 A1 m1 c1 K hm hs w1 hz)
  have q4 := k4_no h4
  have q2 : ((m2 : Int) == 0) = false := by rw [beq_eq_false_iff_ne]; omega
  have q3 : (m2 == 0) = false := by rw [beq_eq_false_iff_ne]; exact h2
  have HB : Hid (∀ w1, Calls Tryz.prog 37 #[.int .i64 5] w1 (ValIs 4 5 ⟨#[]⟩ w1)) := Lib.hid (fun w1 => bad_c 5 w1)
  obtain ⟨xk, xn, xt⟩ := x
  dsimp only at q4 HF ⊢
  have hr0 := newAt (w0 := w.alloc (.cells #[.int .i64 xk, .int .i64 xn, .string xt] 26)) (g := w.heap.size + 1) (by simp) [.int .i64 0, .int .i64 0, .string ⟨#[]⟩] 26
  have hx0 := (CellsAt.new w [.int .i64 xk, .int .i64 xn, .string xt] 26).on_alloc (.cells #[.int .i64 0, .int .i64 0, .string ⟨#[]⟩] 26)
  have hb0 := below2 w (.cells #[.int .i64 xk, .int .i64 xn, .string xt] 26) (.cells #[.int .i64 0, .int .i64 0, .string ⟨#[]⟩] 26)
  have HZ := Lib.hid (hz.on hb0)
  obtain ⟨x0, x1, x2, _⟩ := hx0.three
  clear h4 h2 hx hm hs hz hx0
  go_enter Tryz.func38, Tryz.ntmps38
  go_wp2_with fail
  generalize (w.alloc (.cells #[.int .i64 xk, .int .i64 xn, .string xt] 26)).alloc (.cells #[.int .i64 0, .int .i64 0, .string ⟨#[]⟩] 26) = W at *
  refine (HF.out _ HZ.out).mono ?_
  rintro e w1 ⟨rfl, hb1⟩
  replace hr0 := hr0.on hb1
  replace hb0 := on hb0 hb1
  clear HF x0 x1 x2
  clear hb1
  go_wp2_with fail
  refine (HB.out _).mono ?_
  rintro e w2 ⟨rfl, hb2⟩
  replace hr0 := hr0.on hb2
  replace hb0 := on hb0 hb2
  clear HB hb2
  obtain ⟨p0, p1, p2, f0, f1, f2⟩ := hr0.three
  have hl := hr0.1
  obtain ⟨z0, z1, z2⟩ := three_set (u := .int .i64 4) (v := .int .i64 5) (r := .string ⟨#[]⟩) p0 p1 p2
  have hb5 := set3 hb0 (b := w.heap.size + 1) (by omega) (.int .i64 4) (.int .i64 5) (.string ⟨#[]⟩)
  clear hb0 hr0
  go_wp2_with fail
  exact bodyPost_ret (v := .agg #[.int .i64 4, .int .i64 5, .string ⟨#[]⟩]) (by simp [results, Tryz.results38, go_sem, z0, z1, z2]) rfl ⟨rfl, hb5⟩
set_option maxRecDepth 100000 in
set_option maxHeartbeats 2000000 in
theorem side_yes (x : Vl) (hx : x.may) (h4 : ¬ x.k = 4) (A1 : Option Addr) (m1 c1 : Nat) (A2 : Option Addr) (m2 c2 : Nat) (h2 : ¬ m2 = 0) (K : List Vl) (hm : ∀ v ∈ K, v.may) (p : Nat) (u : Vl) (hs : FirstS x K p u) (J : List Vl) (v : Vl) (hv : J[p]? = some v) (w : World) (hz : ValsR w A1 m1 K) (hj : ValsR w A2 m2 J) :
    Calls Tryz.prog 38 #[.agg #[.int .i64 x.k, .int .i64 x.n, .string x.t], .slice A1 m1 c1, .slice A2 m2 c2] w (ValIs v.k v.n v.t w) := by
  have HF := Lib.hid (fun w1 hz => found_yes x hx h4 A1 m1 c1 K hm p u hs w1 hz)
  have q4 := k4_no h4
  have q2 : ((m2 : Int) == 0) = false := by rw [beq_eq_false_iff_ne]; omega
  have q3 : (m2 == 0) = false := by rw [beq_eq_false_iff_ne]; exact h2
  obtain ⟨vk, vn, vt⟩ := v
  have hp9 : p < m2 := by have := (List.getElem?_eq_some_iff.1 hv).1; rw [hj.1] at this; exact this
  have hm9 := hj.2.1
  have HV := Lib.hid hv
  obtain ⟨xk, xn, xt⟩ := x
  dsimp only at q4 HF ⊢
  have hr0 := newAt (w0 := w.alloc (.cells #[.int .i64 xk, .int .i64 xn, .string xt] 26)) (g := w.heap.size + 1) (by simp) [.int .i64 0, .int .i64 0, .string ⟨#[]⟩] 26
  have hx0 := (CellsAt.new w [.int .i64 xk, .int .i64 xn, .string xt] 26).on_alloc (.cells #[.int .i64 0, .int .i64 0, .string ⟨#[]⟩] 26)
  have hb0 := below2 w (.cells #[.int .i64 xk, .int .i64 xn, .string xt] 26) (.cells #[.int .i64 0, .int .i64 0, .string ⟨#[]⟩] 26)
  have HZ := Lib.hid (hz.on hb0)
  have HJ := Lib.hid (hj.on hb0)
  obtain ⟨x0, x1, x2, _⟩ := hx0.three
  clear h4 h2 hx hm hs hz hx0 hj hv
  go_enter Tryz.func38, Tryz.ntmps38
  go_wp2_with fail
  generalize (w.alloc (.cells #[.int .i64 xk, .int .i64 xn, .string xt] 26)).alloc (.cells #[.int .i64 0, .int .i64 0, .string ⟨#[]⟩] 26) = W at *
  refine (HF.out _ HZ.out).mono ?_
  rintro e w1 ⟨rfl, hb1⟩
  replace hr0 := hr0.on hb1
  replace hb0 := on hb0 hb1
  clear HF x0 x1 x2
  obtain ⟨b, o, rfl, hb, c0, c1, c2⟩ := (HJ.out.on hb1).at HV.out
  dsimp only at c0 c1 c2
  clear hb1
  obtain ⟨p0, p1, p2, f0, f1, f2⟩ := hr0.three
  have hl := hr0.1
  obtain ⟨z0, z1, z2⟩ := three_set (u := .int .i64 vk) (v := .int .i64 vn) (r := .string vt) p0 p1 p2
  have hb5 := set3 hb0 (b := w.heap.size + 1) (by omega) (.int .i64 vk) (.int .i64 vn) (.string vt)
  clear hb0 hr0
  go_wp2_with fail
  exact bodyPost_ret (v := .agg #[.int .i64 vk, .int .i64 vn, .string vt]) (by simp [results, Tryz.results38, go_sem, z0, z1, z2]) rfl ⟨rfl, hb5⟩
theorem side_c (x : Vl) (hx : x.may) (K J : List Vl) (hm : ∀ v ∈ K, v.may) (valid : Bool) (v : Vl) (h : LookIs x K J valid v) (A1 : Option Addr) (m1 c1 : Nat) (A2 : Option Addr) (m2 c2 : Nat) (h2 : valid = !decide (m2 = 0)) (w : World) (hz : ValsR w A1 m1 K) (hj : ValsR w A2 m2 J) :
    Calls Tryz.prog 38 #[.agg #[.int .i64 x.k, .int .i64 x.n, .string x.t], .slice A1 m1 c1, .slice A2 m2 c2] w (ValIs v.k v.n v.t w) := by
  rcases h with ⟨h4, rfl⟩ | ⟨h4, rfl, rfl⟩ | ⟨h4, rfl, hs, rfl⟩ | ⟨h4, rfl, p, u, hs, hv⟩
  · exact side_fault v h4 A1 m1 c1 A2 m2 c2 w
  · obtain rfl : m2 = 0 := by simpa using h2
    exact side_none x h4 A1 m1 c1 A2 c2 w
  · exact side_no x hx h4 A1 m1 c1 A2 m2 c2 (by simpa using h2) K hm hs w hz
  · exact side_yes x hx h4 A1 m1 c1 A2 m2 c2 (by simpa using h2) K hm p u hs J v hv w hz hj
set_option maxRecDepth 100000 in
set_option maxHeartbeats 2000000 in
theorem down_walk (x : Vl) (r c col : Int) (A : Option Addr) (n cap : Nat) (hG : Good r c n) (K J : List Vl) (m1 m2 : Nat) (v : Vl)
    (w : World) (HK : ∀ w1, Below w.heap.size w w1 → Calls Tryz.prog 39 #[.agg #[.int .i64 r, .int .i64 c, .slice A n cap], .int .i64 1] w1 (RowIs K m1 w1)) (HJ : ∀ w1, Below w.heap.size w w1 → Calls Tryz.prog 39 #[.agg #[.int .i64 r, .int .i64 c, .slice A n cap], .int .i64 col] w1 (RowIs J m2 w1))
    (HB : ∀ A1 c1 A2 c2 w1, ValsR w1 A1 m1 K → ValsR w1 A2 m2 J → Calls Tryz.prog 38 #[.agg #[.int .i64 x.k, .int .i64 x.n, .string x.t], .slice A1 m1 c1, .slice A2 m2 c2] w1 (ValIs v.k v.n v.t w1)) :
    Calls Tryz.prog 17 #[.agg #[.int .i64 x.k, .int .i64 x.n, .string x.t], .agg #[.int .i64 r, .int .i64 c, .slice A n cap], .int .i64 col] w (ValIs v.k v.n v.t w) := by
  have HS := Lib.hid (fun w1 => shaped_yes r c A n cap hG w1)
  have HK := Lib.hid HK
  have HJ := Lib.hid HJ
  have HB := Lib.hid HB
  obtain ⟨xk, xn, xt⟩ := x
  obtain ⟨vk, vn, vt⟩ := v
  dsimp only at HB ⊢
  have hx0 := ((CellsAt.new w [.int .i64 xk, .int .i64 xn, .string xt] 26).on_alloc (.cells #[.int .i64 r, .int .i64 c, .slice A n cap] 24)).on_alloc (.cells #[.int .i64 0, .int .i64 0, .string ⟨#[]⟩] 26)
  have ht0 := (newAt (w0 := w.alloc (.cells #[.int .i64 xk, .int .i64 xn, .string xt] 26)) (g := w.heap.size + 1) (by simp) [.int .i64 r, .int .i64 c, .slice A n cap] 24).on_alloc (.cells #[.int .i64 0, .int .i64 0, .string ⟨#[]⟩] 26)
  have hr0 := newAt (w0 := (w.alloc (.cells #[.int .i64 xk, .int .i64 xn, .string xt] 26)).alloc (.cells #[.int .i64 r, .int .i64 c, .slice A n cap] 24)) (g := w.heap.size + 2) (by simp) [.int .i64 0, .int .i64 0, .string ⟨#[]⟩] 26
  have hb0 := below3 w (.cells #[.int .i64 xk, .int .i64 xn, .string xt] 26) (.cells #[.int .i64 r, .int .i64 c, .slice A n cap] 24) (.cells #[.int .i64 0, .int .i64 0, .string ⟨#[]⟩] 26)
  obtain ⟨t0, t1, t2, _⟩ := ht0.three
  clear hG
  go_enter Tryz.func17, Tryz.ntmps17
  go_wp2_with fail
  generalize ((w.alloc (.cells #[.int .i64 xk, .int .i64 xn, .string xt] 26)).alloc (.cells #[.int .i64 r, .int .i64 c, .slice A n cap] 24)).alloc (.cells #[.int .i64 0, .int .i64 0, .string ⟨#[]⟩] 26) = W at *
  refine (HS.out _).mono ?_
  rintro e w1 ⟨rfl, hb1⟩
  clear t0 t1 t2 HS
  replace hx0 := hx0.on hb1
  replace ht0 := ht0.on hb1
  replace hr0 := hr0.on hb1
  replace hb0 := on hb0 hb1
  clear hb1
  obtain ⟨x0, x1, x2, _⟩ := hx0.three
  obtain ⟨t0, t1, t2, _⟩ := ht0.three
  go_wp2_with fail
  have X0 := fun d os => cell_regrown x0 d os
  have X1 := fun d os => cell_regrown x1 d os
  have X2 := fun d os => cell_regrown x2 d os
  have T0 := fun d os => cell_regrown t0 d os
  have T1 := fun d os => cell_regrown t1 d os
  have T2 := fun d os => cell_regrown t2 d os
  clear x0 x1 x2 t0 t1 t2 hx0 ht0
  refine wp_region_mem 7 (fun d => match d with
    | 13 => some (RowV K m1)
    | 16 => some (RowV J m2)
    | 17 => some (Is (.agg #[.int .i64 vk, .int .i64 vn, .string vt]))
    | _ => none) (by kernel_rfl) (by kernel_rfl) ?_
  simp only [List.take_succ_cons, List.take_zero, List.drop_succ_cons, List.drop_zero]
  repeat (first | ((with_reducible refine wpM_calm ?_ ?_ ?_ ?_); exact rfl; exact rfl; exact rfl; intro K hK; go_big_quiet_op; go_big_quiet_on) | ((with_reducible refine wpM_skip ?_ ?_); exact rfl; simp only [Act.put, List.setIfInBounds_toArray, List.set_cons_succ, List.set_cons_zero]))
  refine wpM_call _ rfl rfl rfl Tryz.func39 (by kernel_rfl) (by kernel_rfl) (fun w1 hw1 _ => (HK.out w1 (on hb0 hw1)).mono fun e w2 ⟨A1, c1, e1, h1, h2⟩ => ⟨_, e1, h2, A1, c1, rfl, h1⟩) rfl ?_
  rintro v1 ⟨_, A1, c1, rfl, _⟩ a1 ha1
  simp only [Act.put, List.setIfInBounds_toArray, List.set_cons_succ, List.set_cons_zero] at ha1
  subst ha1
  repeat (first | ((with_reducible refine wpM_calm ?_ ?_ ?_ ?_); exact rfl; exact rfl; exact rfl; intro K hK; go_big_quiet_op; go_big_quiet_on) | ((with_reducible refine wpM_skip ?_ ?_); exact rfl; simp only [Act.put, List.setIfInBounds_toArray, List.set_cons_succ, List.set_cons_zero]))
  refine wpM_call _ rfl rfl rfl Tryz.func39 (by kernel_rfl) (by kernel_rfl) (fun w1 hw1 _ => (HJ.out w1 (on hb0 hw1)).mono fun e w2 ⟨A2, c2, e1, h1, h2⟩ => ⟨_, e1, h2, A2, c2, rfl, h1⟩) rfl ?_
  rintro v2 ⟨_, A2, c2, rfl, _⟩ a2 ha2
  simp only [Act.put, List.setIfInBounds_toArray, List.set_cons_succ, List.set_cons_zero] at ha2
  subst ha2
  refine wpM_exact rfl rfl rfl Tryz.func38 (by kernel_rfl) (by kernel_rfl) ?_ rfl (by simp only [Act.put, List.setIfInBounds_toArray, List.set_cons_succ, List.set_cons_zero]; rfl) ?_
  · intro w1 hw1 hl
    obtain ⟨B1, d1, e1, g1⟩ := RowV.up ((looks_at (k := 2) (d := 13) hl (by kernel_rfl) (by kernel_rfl)).1.2 rfl)
    obtain ⟨B2, d2, e2, g2⟩ := RowV.up ((looks_at (k := 5) (d := 16) hl (by kernel_rfl) (by kernel_rfl)).2 rfl)
    simp only [Value.slice.injEq] at e1 e2
    obtain ⟨rfl, _, rfl⟩ := e1
    obtain ⟨rfl, _, rfl⟩ := e2
    exact HB.out _ _ _ _ w1 g1 g2
  refine wpM_nil ?_
  intro w2 hw2 _
  replace hr0 := hr0.on hw2
  replace hb0 := on hb0 hw2
  clear X0 X1 X2 T0 T1 T2 HK HJ HB hw2
  obtain ⟨p0, p1, p2, f0, f1, f2⟩ := hr0.three
  have hl := hr0.1
  obtain ⟨z0, z1, z2⟩ := three_set (u := .int .i64 vk) (v := .int .i64 vn) (r := .string vt) p0 p1 p2
  have hb5 := set3 hb0 (b := w.heap.size + 2) (by omega) (.int .i64 vk) (.int .i64 vn) (.string vt)
  clear hb0 hr0
  go_wp2_with fail
  exact bodyPost_ret (v := .agg #[.int .i64 vk, .int .i64 vn, .string vt]) (by simp [results, Tryz.results17, go_sem, z0, z1, z2]) rfl ⟨rfl, hb5⟩
set_option maxRecDepth 100000 in
set_option maxHeartbeats 2000000 in
theorem across_walk (x : Vl) (r c row : Int) (A : Option Addr) (n cap : Nat) (hG : Good r c n) (K J : List Vl) (m1 m2 : Nat) (v : Vl)
    (w : World) (HK : ∀ w1, Below w.heap.size w w1 → Calls Tryz.prog 40 #[.agg #[.int .i64 r, .int .i64 c, .slice A n cap], .int .i64 1] w1 (RowIs K m1 w1)) (HJ : ∀ w1, Below w.heap.size w w1 → Calls Tryz.prog 40 #[.agg #[.int .i64 r, .int .i64 c, .slice A n cap], .int .i64 row] w1 (RowIs J m2 w1))
    (HB : ∀ A1 c1 A2 c2 w1, ValsR w1 A1 m1 K → ValsR w1 A2 m2 J → Calls Tryz.prog 38 #[.agg #[.int .i64 x.k, .int .i64 x.n, .string x.t], .slice A1 m1 c1, .slice A2 m2 c2] w1 (ValIs v.k v.n v.t w1)) :
    Calls Tryz.prog 18 #[.agg #[.int .i64 x.k, .int .i64 x.n, .string x.t], .agg #[.int .i64 r, .int .i64 c, .slice A n cap], .int .i64 row] w (ValIs v.k v.n v.t w) := by
  have HS := Lib.hid (fun w1 => shaped_yes r c A n cap hG w1)
  have HK := Lib.hid HK
  have HJ := Lib.hid HJ
  have HB := Lib.hid HB
  obtain ⟨xk, xn, xt⟩ := x
  obtain ⟨vk, vn, vt⟩ := v
  dsimp only at HB ⊢
  have hx0 := ((CellsAt.new w [.int .i64 xk, .int .i64 xn, .string xt] 26).on_alloc (.cells #[.int .i64 r, .int .i64 c, .slice A n cap] 24)).on_alloc (.cells #[.int .i64 0, .int .i64 0, .string ⟨#[]⟩] 26)
  have ht0 := (newAt (w0 := w.alloc (.cells #[.int .i64 xk, .int .i64 xn, .string xt] 26)) (g := w.heap.size + 1) (by simp) [.int .i64 r, .int .i64 c, .slice A n cap] 24).on_alloc (.cells #[.int .i64 0, .int .i64 0, .string ⟨#[]⟩] 26)
  have hr0 := newAt (w0 := (w.alloc (.cells #[.int .i64 xk, .int .i64 xn, .string xt] 26)).alloc (.cells #[.int .i64 r, .int .i64 c, .slice A n cap] 24)) (g := w.heap.size + 2) (by simp) [.int .i64 0, .int .i64 0, .string ⟨#[]⟩] 26
  have hb0 := below3 w (.cells #[.int .i64 xk, .int .i64 xn, .string xt] 26) (.cells #[.int .i64 r, .int .i64 c, .slice A n cap] 24) (.cells #[.int .i64 0, .int .i64 0, .string ⟨#[]⟩] 26)
  obtain ⟨t0, t1, t2, _⟩ := ht0.three
  clear hG
  go_enter Tryz.func18, Tryz.ntmps18
  go_wp2_with fail
  generalize ((w.alloc (.cells #[.int .i64 xk, .int .i64 xn, .string xt] 26)).alloc (.cells #[.int .i64 r, .int .i64 c, .slice A n cap] 24)).alloc (.cells #[.int .i64 0, .int .i64 0, .string ⟨#[]⟩] 26) = W at *
  refine (HS.out _).mono ?_
  rintro e w1 ⟨rfl, hb1⟩
  clear t0 t1 t2 HS
  replace hx0 := hx0.on hb1
  replace ht0 := ht0.on hb1
  replace hr0 := hr0.on hb1
  replace hb0 := on hb0 hb1
  clear hb1
  obtain ⟨x0, x1, x2, _⟩ := hx0.three
  obtain ⟨t0, t1, t2, _⟩ := ht0.three
  go_wp2_with fail
  have X0 := fun d os => cell_regrown x0 d os
  have X1 := fun d os => cell_regrown x1 d os
  have X2 := fun d os => cell_regrown x2 d os
  have T0 := fun d os => cell_regrown t0 d os
  have T1 := fun d os => cell_regrown t1 d os
  have T2 := fun d os => cell_regrown t2 d os
  clear x0 x1 x2 t0 t1 t2 hx0 ht0
  refine wp_region_mem 7 (fun d => match d with
    | 13 => some (RowV K m1)
    | 16 => some (RowV J m2)
    | 17 => some (Is (.agg #[.int .i64 vk, .int .i64 vn, .string vt]))
    | _ => none) (by kernel_rfl) (by kernel_rfl) ?_
  simp only [List.take_succ_cons, List.take_zero, List.drop_succ_cons, List.drop_zero]
  repeat (first | ((with_reducible refine wpM_calm ?_ ?_ ?_ ?_); exact rfl; exact rfl; exact rfl; intro K hK; go_big_quiet_op; go_big_quiet_on) | ((with_reducible refine wpM_skip ?_ ?_); exact rfl; simp only [Act.put, List.setIfInBounds_toArray, List.set_cons_succ, List.set_cons_zero]))
  refine wpM_call _ rfl rfl rfl Tryz.func40 (by kernel_rfl) (by kernel_rfl) (fun w1 hw1 _ => (HK.out w1 (on hb0 hw1)).mono fun e w2 ⟨A1, c1, e1, h1, h2⟩ => ⟨_, e1, h2, A1, c1, rfl, h1⟩) rfl ?_
  rintro v1 ⟨_, A1, c1, rfl, _⟩ a1 ha1
  simp only [Act.put, List.setIfInBounds_toArray, List.set_cons_succ, List.set_cons_zero] at ha1
  subst ha1
  repeat (first | ((with_reducible refine wpM_calm ?_ ?_ ?_ ?_); exact rfl; exact rfl; exact rfl; intro K hK; go_big_quiet_op; go_big_quiet_on) | ((with_reducible refine wpM_skip ?_ ?_); exact rfl; simp only [Act.put, List.setIfInBounds_toArray, List.set_cons_succ, List.set_cons_zero]))
  refine wpM_call _ rfl rfl rfl Tryz.func40 (by kernel_rfl) (by kernel_rfl) (fun w1 hw1 _ => (HJ.out w1 (on hb0 hw1)).mono fun e w2 ⟨A2, c2, e1, h1, h2⟩ => ⟨_, e1, h2, A2, c2, rfl, h1⟩) rfl ?_
  rintro v2 ⟨_, A2, c2, rfl, _⟩ a2 ha2
  simp only [Act.put, List.setIfInBounds_toArray, List.set_cons_succ, List.set_cons_zero] at ha2
  subst ha2
  refine wpM_exact rfl rfl rfl Tryz.func38 (by kernel_rfl) (by kernel_rfl) ?_ rfl (by simp only [Act.put, List.setIfInBounds_toArray, List.set_cons_succ, List.set_cons_zero]; rfl) ?_
  · intro w1 hw1 hl
    obtain ⟨B1, d1, e1, g1⟩ := RowV.up ((looks_at (k := 2) (d := 13) hl (by kernel_rfl) (by kernel_rfl)).1.2 rfl)
    obtain ⟨B2, d2, e2, g2⟩ := RowV.up ((looks_at (k := 5) (d := 16) hl (by kernel_rfl) (by kernel_rfl)).2 rfl)
    simp only [Value.slice.injEq] at e1 e2
    obtain ⟨rfl, _, rfl⟩ := e1
    obtain ⟨rfl, _, rfl⟩ := e2
    exact HB.out _ _ _ _ w1 g1 g2
  refine wpM_nil ?_
  intro w2 hw2 _
  replace hr0 := hr0.on hw2
  replace hb0 := on hb0 hw2
  clear X0 X1 X2 T0 T1 T2 HK HJ HB hw2
  obtain ⟨p0, p1, p2, f0, f1, f2⟩ := hr0.three
  have hl := hr0.1
  obtain ⟨z0, z1, z2⟩ := three_set (u := .int .i64 vk) (v := .int .i64 vn) (r := .string vt) p0 p1 p2
  have hb5 := set3 hb0 (b := w.heap.size + 2) (by omega) (.int .i64 vk) (.int .i64 vn) (.string vt)
  clear hb0 hr0
  go_wp2_with fail
  exact bodyPost_ret (v := .agg #[.int .i64 vk, .int .i64 vn, .string vt]) (by simp [results, Tryz.results18, go_sem, z0, z1, z2]) rfl ⟨rfl, hb5⟩
/-- a column's and a row's values -/
def colK (L : List Vl) (R C j : Nat) : List Vl := pickL L (fun i => i * C + j) R
def rowK (L : List Vl) (C i : Nat) : List Vl := pickL L (fun j => i * C + j) C
def DownIs (x : Vl) (L : List Vl) (R C : Nat) (col : Int) (v : Vl) : Prop := (∃ j : Nat, j < C ∧ col = (j : Int) + 1 ∧ LookIs x (colK L R C 0) (colK L R C j) true v) ∨ ((col < 1 ∨ (C : Int) < col) ∧ LookIs x (colK L R C 0) [] false v)
def AcrossIs (x : Vl) (L : List Vl) (R C : Nat) (row : Int) (v : Vl) : Prop := (∃ i : Nat, i < R ∧ row = (i : Int) + 1 ∧ LookIs x (rowK L C 0) (rowK L C i) true v) ∨ ((row < 1 ∨ (R : Int) < row) ∧ LookIs x (rowK L C 0) [] false v)
theorem down_some (x : Vl) (L : List Vl) (R C : Nat) (col : Int) : ∃ v, DownIs x L R C col v := by
  by_cases h : 1 ≤ col ∧ col ≤ C
  · obtain ⟨j, hj⟩ := Int.eq_ofNat_of_zero_le (show 0 ≤ col - 1 by omega)
    obtain ⟨v, hv⟩ := look_some x (colK L R C 0) (colK L R C j) true (by unfold colK; rw [pick_len, pick_len])
    exact ⟨v, .inl ⟨j, by omega, by omega, hv⟩⟩
  · by_cases h4 : x.k = 4
    · exact ⟨x, .inr ⟨by omega, .inl ⟨h4, rfl⟩⟩⟩
    · exact ⟨_, .inr ⟨by omega, .inr (.inl ⟨h4, rfl, rfl⟩)⟩⟩
theorem across_some (x : Vl) (L : List Vl) (R C : Nat) (row : Int) : ∃ v, AcrossIs x L R C row v := by
  by_cases h : 1 ≤ row ∧ row ≤ R
  · obtain ⟨i, hi⟩ := Int.eq_ofNat_of_zero_le (show 0 ≤ row - 1 by omega)
    obtain ⟨v, hv⟩ := look_some x (rowK L C 0) (rowK L C i) true (by unfold rowK; rw [pick_len, pick_len])
    exact ⟨v, .inl ⟨i, by omega, by omega, hv⟩⟩
  · by_cases h4 : x.k = 4
    · exact ⟨x, .inr ⟨by omega, .inl ⟨h4, rfl⟩⟩⟩
    · exact ⟨_, .inr ⟨by omega, .inr (.inl ⟨h4, rfl, rfl⟩)⟩⟩
theorem col_may {R C n : Nat} (h4 : R * C = n) {L : List Vl} (hm : ∀ v ∈ L, v.may) (hl : L.length = n) {j : Nat} (hj : j < C) : ∀ v ∈ colK L R C j, v.may := fun v hv => hm v (pick_mem (fun i hi => by rw [hl]; exact place_lt h4 hi hj) hv)
theorem row_may {R C n : Nat} (h4 : R * C = n) {L : List Vl} (hm : ∀ v ∈ L, v.may) (hl : L.length = n) {i : Nat} (hi : i < R) : ∀ v ∈ rowK L C i, v.may := fun v hv => hm v (pick_mem (fun j hj => by rw [hl]; exact place_lt h4 hi hj) hv)
section
variable {R C n : Nat} (h1 : 1 ≤ R) (h2 : 1 ≤ C) (h3 : n ≤ 1000) (h4 : R * C = n)
include h1 h2 h3 h4
theorem column_at (A : Option Addr) (cap : Nat) (L : List Vl) (j : Nat) (hj : j < C) (col : Int) (hc : col = (j : Int) + 1) (w : World) (hz : ValsR w A n L) :
    Calls Tryz.prog 39 #[.agg #[.int .i64 R, .int .i64 C, .slice A n cap], .int .i64 col] w (RowIs (colK L R C j) R w) := by
  obtain ⟨_, _, _, _, _, _, _, _, h5, h6⟩ := (good_of h1 h2 h3 h4).nat
  refine column_in R C col A n cap L (fun i => i * C + j) R rfl (by omega) (fun i hi => place_lt h4 hi hj) (fun k v w1 hk hv hz1 => ?_) w hz
  exact at_yes R C _ _ A n cap L (good_of h1 h2 h3 h4) _ _ _ _ (Way.at h1 h2 h3 h4 hk hj rfl hc) v hv w1 hz1
theorem column_no (A : Option Addr) (cap : Nat) (col : Int) (hc : col < 1 ∨ (C : Int) < col) (w : World) :
    Calls Tryz.prog 39 #[.agg #[.int .i64 R, .int .i64 C, .slice A n cap], .int .i64 col] w (RowIs [] 0 w) := by
  obtain ⟨_, _, _, _, _, _, _, _, h5, h6⟩ := (good_of h1 h2 h3 h4).nat
  refine column_out R C col A n cap R rfl (by omega) (fun k w1 hk => ?_) w
  exact at_no R C _ _ A n cap (good_of h1 h2 h3 h4) (by unfold Out; omega) w1
theorem line_at (A : Option Addr) (cap : Nat) (L : List Vl) (i : Nat) (hi : i < R) (row : Int) (hr : row = (i : Int) + 1) (w : World) (hz : ValsR w A n L) :
    Calls Tryz.prog 40 #[.agg #[.int .i64 R, .int .i64 C, .slice A n cap], .int .i64 row] w (RowIs (rowK L C i) C w) := by
  obtain ⟨_, _, _, _, _, _, _, _, h5, h6⟩ := (good_of h1 h2 h3 h4).nat
  refine line_in R C row A n cap L (fun j => i * C + j) C rfl (by omega) (fun j hj => place_lt h4 hi hj) (fun k v w1 hk hv hz1 => ?_) w hz
  exact at_yes R C _ _ A n cap L (good_of h1 h2 h3 h4) _ _ _ _ (Way.at h1 h2 h3 h4 hi hk hr rfl) v hv w1 hz1
theorem line_no (A : Option Addr) (cap : Nat) (row : Int) (hr : row < 1 ∨ (R : Int) < row) (w : World) :
    Calls Tryz.prog 40 #[.agg #[.int .i64 R, .int .i64 C, .slice A n cap], .int .i64 row] w (RowIs [] 0 w) := by
  obtain ⟨_, _, _, _, _, _, _, _, h5, h6⟩ := (good_of h1 h2 h3 h4).nat
  refine line_out R C row A n cap C rfl (by omega) (fun k w1 hk => ?_) w
  exact at_no R C _ _ A n cap (good_of h1 h2 h3 h4) (by unfold Out; omega) w1
theorem down_c (x : Vl) (hx : x.may) (A : Option Addr) (cap : Nat) (L : List Vl) (hm : ∀ v ∈ L, v.may) (col : Int) (v : Vl) (h : DownIs x L R C col v) (w : World) (hz : ValsR w A n L) :
    Calls Tryz.prog 17 #[.agg #[.int .i64 x.k, .int .i64 x.n, .string x.t], .agg #[.int .i64 R, .int .i64 C, .slice A n cap], .int .i64 col] w (ValIs v.k v.n v.t w) := by
  have hk := col_may h4 hm hz.1 (j := 0) (by omega)
  rcases h with ⟨j, hj, hc, hl⟩ | ⟨hc, hl⟩
  · exact down_walk x R C col A n cap (good_of h1 h2 h3 h4) _ _ R R v w (fun w1 hb => column_at h1 h2 h3 h4 A cap L 0 (by omega) 1 (by omega) w1 (hz.on hb)) (fun w1 hb => column_at h1 h2 h3 h4 A cap L j hj col hc w1 (hz.on hb))
      (fun A1 c1 A2 c2 w1 g1 g2 => side_c x hx _ _ hk true v hl A1 R c1 A2 R c2 (by rw [decide_eq_false (by omega)]; rfl) w1 g1 g2)
  · exact down_walk x R C col A n cap (good_of h1 h2 h3 h4) _ _ R 0 v w (fun w1 hb => column_at h1 h2 h3 h4 A cap L 0 (by omega) 1 (by omega) w1 (hz.on hb)) (fun w1 hb => column_no h1 h2 h3 h4 A cap col hc w1)
      (fun A1 c1 A2 c2 w1 g1 g2 => side_c x hx _ _ hk false v hl A1 R c1 A2 0 c2 rfl w1 g1 g2)
theorem across_c (x : Vl) (hx : x.may) (A : Option Addr) (cap : Nat) (L : List Vl) (hm : ∀ v ∈ L, v.may) (row : Int) (v : Vl) (h : AcrossIs x L R C row v) (w : World) (hz : ValsR w A n L) :
    Calls Tryz.prog 18 #[.agg #[.int .i64 x.k, .int .i64 x.n, .string x.t], .agg #[.int .i64 R, .int .i64 C, .slice A n cap], .int .i64 row] w (ValIs v.k v.n v.t w) := by
  have hk := row_may h4 hm hz.1 (i := 0) (by omega)
  rcases h with ⟨i, hi, hr, hl⟩ | ⟨hr, hl⟩
  · exact across_walk x R C row A n cap (good_of h1 h2 h3 h4) _ _ C C v w (fun w1 hb => line_at h1 h2 h3 h4 A cap L 0 (by omega) 1 (by omega) w1 (hz.on hb)) (fun w1 hb => line_at h1 h2 h3 h4 A cap L i hi row hr w1 (hz.on hb))
      (fun A1 c1 A2 c2 w1 g1 g2 => side_c x hx _ _ hk true v hl A1 C c1 A2 C c2 (by rw [decide_eq_false (by omega)]; rfl) w1 g1 g2)
  · exact across_walk x R C row A n cap (good_of h1 h2 h3 h4) _ _ C 0 v w (fun w1 hb => line_at h1 h2 h3 h4 A cap L 0 (by omega) 1 (by omega) w1 (hz.on hb)) (fun w1 hb => line_no h1 h2 h3 h4 A cap row hr w1)
      (fun A1 c1 A2 c2 w1 g1 g2 => side_c x hx _ _ hk false v hl A1 C c1 A2 0 c2 rfl w1 g1 g2)
end
end Go.Proofs.YtbjomidkeignjaaGreatDoor.Lok
namespace Go.Proofs.YtbjomidkeignjaaGreatDoor.Lok
open Go.RowKit Kit Reg Dec Dig Val Fld

set_option maxRecDepth 100000 in
set_option maxHeartbeats 2000000 in
theorem rdown_fault (x : Vl) (r c col : Int) (A : Option Addr) (n cap : Nat) (h4 : x.k = 4) (w : World) :
    Calls Tryz.prog 19 #[.agg #[.int .i64 x.k, .int .i64 x.n, .string x.t], .agg #[.int .i64 r, .int .i64 c, .slice A n cap], .int .i64 col] w (ValIs x.k x.n x.t w) := by
  obtain ⟨xk, xn, xt⟩ := x
  obtain rfl : xk = 4 := h4
  go_enter Tryz.func19, Tryz.ntmps19
  go_wp2_with fail
  exact bodyPost_ret (v := .agg #[.int .i64 4, .int .i64 xn, .string xt]) (by simp [results, Tryz.results19, go_sem]) rfl ⟨rfl, below3 _ _ _ _⟩
set_option maxRecDepth 100000 in
set_option maxHeartbeats 2000000 in
theorem rdown_out (x : Vl) (r c col : Int) (A : Option Addr) (n cap : Nat) (h4 : ¬ x.k = 4) (HI : ∀ w1, Calls Tryz.prog 12 #[.agg #[.int .i64 r, .int .i64 c, .slice A n cap], .int .i64 1, .int .i64 col] w1 (Bit false w1)) (w : World) :
    Calls Tryz.prog 19 #[.agg #[.int .i64 x.k, .int .i64 x.n, .string x.t], .agg #[.int .i64 r, .int .i64 c, .slice A n cap], .int .i64 col] w (ValIs 4 3 ⟨#[]⟩ w) := by
  have q4 := k4_no h4
  have HI : Hid (∀ w1, Calls Tryz.prog 12 #[.agg #[.int .i64 r, .int .i64 c, .slice A n cap], .int .i64 1, .int .i64 col] w1 (Bit false w1)) := Lib.hid HI
  have HB : Hid (∀ w1, Calls Tryz.prog 41 #[.int .i64 3] w1 (ValIs 4 3 ⟨#[]⟩ w1)) := Lib.hid (fun w1 => rbad_c 3 w1)
  obtain ⟨xk, xn, xt⟩ := x
  dsimp only at q4 ⊢
  clear h4
  have hx0 := ((CellsAt.new w [.int .i64 xk, .int .i64 xn, .string xt] 26).on_alloc (.cells #[.int .i64 r, .int .i64 c, .slice A n cap] 24)).on_alloc (.cells #[.int .i64 0, .int .i64 0, .string ⟨#[]⟩] 26)
  have ht0 := (newAt (w0 := w.alloc (.cells #[.int .i64 xk, .int .i64 xn, .string xt] 26)) (g := w.heap.size + 1) (by simp) [.int .i64 r, .int .i64 c, .slice A n cap] 24).on_alloc (.cells #[.int .i64 0, .int .i64 0, .string ⟨#[]⟩] 26)
  have hr0 := newAt (w0 := (w.alloc (.cells #[.int .i64 xk, .int .i64 xn, .string xt] 26)).alloc (.cells #[.int .i64 r, .int .i64 c, .slice A n cap] 24)) (g := w.heap.size + 2) (by simp) [.int .i64 0, .int .i64 0, .string ⟨#[]⟩] 26
  have hb0 := below3 w (.cells #[.int .i64 xk, .int .i64 xn, .string xt] 26) (.cells #[.int .i64 r, .int .i64 c, .slice A n cap] 24) (.cells #[.int .i64 0, .int .i64 0, .string ⟨#[]⟩] 26)
  obtain ⟨x0, x1, x2, _⟩ := hx0.three
  obtain ⟨t0, t1, t2, _⟩ := ht0.three
  go_enter Tryz.func19, Tryz.ntmps19
  go_wp2_with fail
  generalize ((w.alloc (.cells #[.int .i64 xk, .int .i64 xn, .string xt] 26)).alloc (.cells #[.int .i64 r, .int .i64 c, .slice A n cap] 24)).alloc (.cells #[.int .i64 0, .int .i64 0, .string ⟨#[]⟩] 26) = W at *
  refine (HI.out _).mono ?_
  rintro e w1 ⟨rfl, hb1⟩
  clear t0 t1 t2 x0 x1 x2 HI
  replace hx0 := hx0.on hb1
  replace ht0 := ht0.on hb1
  replace hr0 := hr0.on hb1
  replace hb0 := on hb0 hb1
  clear hb1
  go_wp2_with fail
  refine (HB.out _).mono ?_
  rintro e w2 ⟨rfl, hb2⟩
  replace hx0 := hx0.on hb2
  replace ht0 := ht0.on hb2
  replace hr0 := hr0.on hb2
  replace hb0 := on hb0 hb2
  clear HB hb2
  obtain ⟨p0, p1, p2, f0, f1, f2⟩ := hr0.three
  have hl := hr0.1
  obtain ⟨z0, z1, z2⟩ := three_set (u := .int .i64 4) (v := .int .i64 3) (r := .string ⟨#[]⟩) p0 p1 p2
  have hb5 := set3 hb0 (b := w.heap.size + 2) (by omega) (.int .i64 4) (.int .i64 3) (.string ⟨#[]⟩)
  clear hb0 hr0 hx0 ht0
  go_wp2_with fail
  exact bodyPost_ret (v := .agg #[.int .i64 4, .int .i64 3, .string ⟨#[]⟩]) (by simp [results, Tryz.results19, go_sem, z0, z1, z2]) rfl ⟨rfl, hb5⟩
set_option maxRecDepth 100000 in
set_option maxHeartbeats 2000000 in
theorem rdown_no (x : Vl) (r c col : Int) (A : Option Addr) (n cap : Nat) (hx : x.may) (h4 : ¬ x.k = 4) (HI : ∀ w1, Calls Tryz.prog 12 #[.agg #[.int .i64 r, .int .i64 c, .slice A n cap], .int .i64 1, .int .i64 col] w1 (Bit true w1)) (L K : List Vl) (m : Nat) (hmm : r = (m : Int)) (m9 : m ≤ 1000) (hKm : ∀ v ∈ K, v.may) (hKl : K.length = m) (HK : ∀ (k : Nat) v w1, k < m → K[k]? = some v → ValsR w1 A n L → Calls Tryz.prog 13 #[.agg #[.int .i64 r, .int .i64 c, .slice A n cap], .int .i64 ((k : Int) + 1), .int .i64 1] w1 (ValIs v.k v.n v.t w1)) (hs : NoS x K) (w : World) (hz : ValsR w A n L) :
    Calls Tryz.prog 19 #[.agg #[.int .i64 x.k, .int .i64 x.n, .string x.t], .agg #[.int .i64 r, .int .i64 c, .slice A n cap], .int .i64 col] w (ValIs 4 5 ⟨#[]⟩ w) := by
  have q4 := k4_no h4
  have HI : Hid (∀ w1, Calls Tryz.prog 12 #[.agg #[.int .i64 r, .int .i64 c, .slice A n cap], .int .i64 1, .int .i64 col] w1 (Bit true w1)) := Lib.hid HI
  have HK := Lib.hid HK
  have HR := Lib.hid (fun v (hv : Vl.may v) b (h : foundV x v = b) w1 => rfound_c x v hx hv b h w1)
  have HM : Hid (∀ (k : Nat) (v : Vl), K[k]? = some v → v.may) := Lib.hid fun k v hv => hKm v (List.mem_of_getElem? hv)
  have HG : Hid (∀ (k : Nat), k < m → ∃ v, K[k]? = some v) := Lib.hid fun k hk => ⟨_, List.getElem?_eq_getElem (by rw [hKl]; exact hk)⟩
  have HBd := Lib.hid hmm
  have HB : Hid (∀ w1, Calls Tryz.prog 41 #[.int .i64 5] w1 (ValIs 4 5 ⟨#[]⟩ w1)) := Lib.hid (fun w1 => rbad_c 5 w1)
  have HNo : Hid (∀ (k : Nat) (v : Vl), K[k]? = some v → foundV x v = false) := Lib.hid fun k v hv => by unfold foundV; rw [hs k v hv, Bool.and_false]
  obtain ⟨xk, xn, xt⟩ := x
  dsimp only at q4 HR ⊢
  have hx0 := ((CellsAt.new w [.int .i64 xk, .int .i64 xn, .string xt] 26).on_alloc (.cells #[.int .i64 r, .int .i64 c, .slice A n cap] 24)).on_alloc (.cells #[.int .i64 0, .int .i64 0, .string ⟨#[]⟩] 26)
  have ht0 := (newAt (w0 := w.alloc (.cells #[.int .i64 xk, .int .i64 xn, .string xt] 26)) (g := w.heap.size + 1) (by simp) [.int .i64 r, .int .i64 c, .slice A n cap] 24).on_alloc (.cells #[.int .i64 0, .int .i64 0, .string ⟨#[]⟩] 26)
  have hr0 := newAt (w0 := (w.alloc (.cells #[.int .i64 xk, .int .i64 xn, .string xt] 26)).alloc (.cells #[.int .i64 r, .int .i64 c, .slice A n cap] 24)) (g := w.heap.size + 2) (by simp) [.int .i64 0, .int .i64 0, .string ⟨#[]⟩] 26
  have hb0 := below3 w (.cells #[.int .i64 xk, .int .i64 xn, .string xt] 26) (.cells #[.int .i64 r, .int .i64 c, .slice A n cap] 24) (.cells #[.int .i64 0, .int .i64 0, .string ⟨#[]⟩] 26)
  have HZ := Lib.hid (hz.on hb0)
  clear h4 hx hz hKm hKl hs hmm
  obtain ⟨x0, x1, x2, _⟩ := hx0.three
  obtain ⟨t0, t1, t2, _⟩ := ht0.three
  go_enter Tryz.func19, Tryz.ntmps19
  go_wp2_with fail
  generalize ((w.alloc (.cells #[.int .i64 xk, .int .i64 xn, .string xt] 26)).alloc (.cells #[.int .i64 r, .int .i64 c, .slice A n cap] 24)).alloc (.cells #[.int .i64 0, .int .i64 0, .string ⟨#[]⟩] 26) = W at *
  refine (HI.out _).mono ?_
  rintro e w1 ⟨rfl, hb1⟩
  clear t0 t1 t2 x0 x1 x2 HI
  replace hx0 := hx0.on hb1
  replace ht0 := ht0.on hb1
  replace hr0 := hr0.on hb1
  replace hb0 := on hb0 hb1
  replace HZ := Lib.hid (HZ.out.on hb1)
  clear hb1
  go_wp2_with fail
  go_loopw [7] (fun i wr => ∃ k : Nat, k ≤ m ∧ i = .int .i64 ((k : Int) + 1) ∧ Below w1.heap.size w1 wr) (fun i _ => m + 1 - (intOf i).toNat)
  case atStart => exact ⟨0, Nat.zero_le _, rfl, Below.refl _ _⟩
  case round =>
    obtain ⟨k, hk, rfl, hbW⟩ := hrel
    obtain ⟨x0, x1, x2, _⟩ := (hx0.on hbW).three
    obtain ⟨t0, t1, t2, _⟩ := (ht0.on hbW).three
    by_cases hlt : k < m
    · have d1 : decide ((k : Int) + 1 ≤ r) = true := decide_eq_true (by rw [HBd.out]; omega)
      have d2 : decide ((k : Int) < r) = true := decide_eq_true (by rw [HBd.out]; omega)
      obtain ⟨v0, hv⟩ := HG.out k hlt
      have hmv := HM.out k v0 hv
      have HR2 := Lib.hid (HR.out v0 hmv false (HNo.out k v0 hv))
      have HK2 := Lib.hid (fun w1 h => HK.out k v0 w1 hlt hv h)
      replace HZ := Lib.hid (HZ.out.on hbW)
      obtain ⟨yk, yn, yt⟩ := v0
      dsimp only at HR2 HK2
      clear HR HM HG HK hmv hv HNo HBd
      go_wp2_with fail
      have X0 := fun d os => cell_regrown x0 d os
      have X1 := fun d os => cell_regrown x1 d os
      have X2 := fun d os => cell_regrown x2 d os
      have T0 := fun d os => cell_regrown t0 d os
      have T1 := fun d os => cell_regrown t1 d os
      have T2 := fun d os => cell_regrown t2 d os
      clear x0 x1 x2 t0 t1 t2
      refine wp_region_mem 5 (fun d => match d with
        | 26 => some (Is (.agg #[.int .i64 yk, .int .i64 yn, .string yt]))
        | 27 => some (Is (.bool false))
        | _ => none) (by kernel_rfl) (by kernel_rfl) ?_
      simp only [List.take_succ_cons, List.take_zero, List.drop_succ_cons, List.drop_zero]
      repeat (first | ((with_reducible refine wpM_calm ?_ ?_ ?_ ?_); exact rfl; exact rfl; exact rfl; intro K hK; go_big_quiet_op; go_big_quiet_on) | ((with_reducible refine wpM_skip ?_ ?_); exact rfl; simp only [Act.put, List.setIfInBounds_toArray, List.set_cons_succ, List.set_cons_zero]))
      refine wpM_exact rfl rfl rfl Tryz.func13 (by kernel_rfl) (by kernel_rfl) (fun w1 hw1 _ => HK2.out w1 (HZ.out.on hw1)) rfl (by simp only [Act.put, List.setIfInBounds_toArray, List.set_cons_succ, List.set_cons_zero]; rfl) ?_
      refine wpM_exact rfl rfl rfl Tryz.func36 (by kernel_rfl) (by kernel_rfl) (fun w1 _ _ => HR2.out w1) rfl (by simp only [Act.put, List.setIfInBounds_toArray, List.set_cons_succ, List.set_cons_zero]; rfl) ?_
      refine wpM_nil ?_
      intro w2 hw2 _
      clear X0 X1 X2 T0 T1 T2 HR2 HK2 d1 d2
      go_wp2_with fail
      go_roundw
      case rel => exact ⟨k + 1, by omega, by go_num, on hbW hw2⟩
      case measure => simp [intOf]; omega
    · obtain rfl : k = m := by omega
      have d1 : decide ((k : Int) + 1 ≤ r) = false := decide_eq_false (by rw [HBd.out]; omega)
      have d2 : decide ((k : Int) < r) = false := decide_eq_false (by rw [HBd.out]; omega)
      clear HR HM HG HK HNo HBd
      go_wp2_with fail
      refine (HB.out _).mono ?_
      rintro e w2 ⟨rfl, hb2⟩
      replace hr0 := (hr0.on hbW).on hb2
      replace hb0 := on (on hb0 hbW) hb2
      clear HB hb2 hbW x0 x1 x2 t0 t1 t2 d1 d2
      obtain ⟨p0, p1, p2, f0, f1, f2⟩ := hr0.three
      have hl := hr0.1
      obtain ⟨z0, z1, z2⟩ := three_set (u := .int .i64 4) (v := .int .i64 5) (r := .string ⟨#[]⟩) p0 p1 p2
      have hb5 := set3 hb0 (b := w.heap.size + 2) (by omega) (.int .i64 4) (.int .i64 5) (.string ⟨#[]⟩)
      clear hb0 hr0 hx0 ht0
      go_wp2_with fail
      exact bodyPost_ret (v := .agg #[.int .i64 4, .int .i64 5, .string ⟨#[]⟩]) (by simp [results, Tryz.results19, go_sem, z0, z1, z2]) rfl ⟨rfl, hb5⟩
set_option maxRecDepth 100000 in
set_option maxHeartbeats 2000000 in
theorem rdown_yes (x : Vl) (r c col : Int) (A : Option Addr) (n cap : Nat) (hx : x.may) (h4 : ¬ x.k = 4) (HI : ∀ w1, Calls Tryz.prog 12 #[.agg #[.int .i64 r, .int .i64 c, .slice A n cap], .int .i64 1, .int .i64 col] w1 (Bit true w1)) (L K : List Vl) (m : Nat) (hmm : r = (m : Int)) (m9 : m ≤ 1000) (hKm : ∀ v ∈ K, v.may) (hKl : K.length = m) (HK : ∀ (k : Nat) v w1, k < m → K[k]? = some v → ValsR w1 A n L → Calls Tryz.prog 13 #[.agg #[.int .i64 r, .int .i64 c, .slice A n cap], .int .i64 ((k : Int) + 1), .int .i64 1] w1 (ValIs v.k v.n v.t w1)) (p : Nat) (u : Vl) (hs : FirstS x K p u) (v : Vl) (HV : ∀ w1, ValsR w1 A n L → Calls Tryz.prog 13 #[.agg #[.int .i64 r, .int .i64 c, .slice A n cap], .int .i64 ((p : Int) + 1), .int .i64 col] w1 (ValIs v.k v.n v.t w1)) (w : World) (hz : ValsR w A n L) :
    Calls Tryz.prog 19 #[.agg #[.int .i64 x.k, .int .i64 x.n, .string x.t], .agg #[.int .i64 r, .int .i64 c, .slice A n cap], .int .i64 col] w (ValIs v.k v.n v.t w) := by
  have q4 := k4_no h4
  have HI : Hid (∀ w1, Calls Tryz.prog 12 #[.agg #[.int .i64 r, .int .i64 c, .slice A n cap], .int .i64 1, .int .i64 col] w1 (Bit true w1)) := Lib.hid HI
  have HK := Lib.hid HK
  have HR := Lib.hid (fun v (hv : Vl.may v) b (h : foundV x v = b) w1 => rfound_c x v hx hv b h w1)
  have HM : Hid (∀ (k : Nat) (v : Vl), K[k]? = some v → v.may) := Lib.hid fun k v hv => hKm v (List.mem_of_getElem? hv)
  have HG : Hid (∀ (k : Nat), k < m → ∃ v, K[k]? = some v) := Lib.hid fun k hk => ⟨_, List.getElem?_eq_getElem (by rw [hKl]; exact hk)⟩
  have HBd := Lib.hid hmm
  have HNo : Hid (∀ (k : Nat) (v : Vl), k < p → K[k]? = some v → foundV x v = false) := Lib.hid fun k v hk hv => by unfold foundV; rw [hs.2.2 k v hk hv, Bool.and_false]
  have HYes : Hid (∀ v : Vl, K[p]? = some v → foundV x v = true) := Lib.hid fun v hv => by
    obtain rfl := Option.some.inj (hv.symm.trans hs.1)
    unfold foundV
    rw [hs.2.1, decide_eq_false h4]
    rfl
  have hpm : p < m := by have := hs.lt; rw [hKl] at this; exact this
  have HV := Lib.hid HV
  obtain ⟨vk, vn, vt⟩ := v
  obtain ⟨xk, xn, xt⟩ := x
  dsimp only at q4 HR HV ⊢
  have hx0 := ((CellsAt.new w [.int .i64 xk, .int .i64 xn, .string xt] 26).on_alloc (.cells #[.int .i64 r, .int .i64 c, .slice A n cap] 24)).on_alloc (.cells #[.int .i64 0, .int .i64 0, .string ⟨#[]⟩] 26)
  have ht0 := (newAt (w0 := w.alloc (.cells #[.int .i64 xk, .int .i64 xn, .string xt] 26)) (g := w.heap.size + 1) (by simp) [.int .i64 r, .int .i64 c, .slice A n cap] 24).on_alloc (.cells #[.int .i64 0, .int .i64 0, .string ⟨#[]⟩] 26)
  have hr0 := newAt (w0 := (w.alloc (.cells #[.int .i64 xk, .int .i64 xn, .string xt] 26)).alloc (.cells #[.int .i64 r, .int .i64 c, .slice A n cap] 24)) (g := w.heap.size + 2) (by simp) [.int .i64 0, .int .i64 0, .string ⟨#[]⟩] 26
  have hb0 := below3 w (.cells #[.int .i64 xk, .int .i64 xn, .string xt] 26) (.cells #[.int .i64 r, .int .i64 c, .slice A n cap] 24) (.cells #[.int .i64 0, .int .i64 0, .string ⟨#[]⟩] 26)
  have HZ := Lib.hid (hz.on hb0)
  clear h4 hx hz hKm hKl hs hmm
  obtain ⟨x0, x1, x2, _⟩ := hx0.three
  obtain ⟨t0, t1, t2, _⟩ := ht0.three
  go_enter Tryz.func19, Tryz.ntmps19
  go_wp2_with fail
  generalize ((w.alloc (.cells #[.int .i64 xk, .int .i64 xn, .string xt] 26)).alloc (.cells #[.int .i64 r, .int .i64 c, .slice A n cap] 24)).alloc (.cells #[.int .i64 0, .int .i64 0, .string ⟨#[]⟩] 26) = W at *
  refine (HI.out _).mono ?_
  rintro e w1 ⟨rfl, hb1⟩
  clear t0 t1 t2 x0 x1 x2 HI
  replace hx0 := hx0.on hb1
  replace ht0 := ht0.on hb1
  replace hr0 := hr0.on hb1
  replace hb0 := on hb0 hb1
  replace HZ := Lib.hid (HZ.out.on hb1)
  clear hb1
  go_wp2_with fail
  go_loopw [7] (fun i wr => ∃ k : Nat, k ≤ p ∧ i = .int .i64 ((k : Int) + 1) ∧ Below w1.heap.size w1 wr) (fun i _ => m + 1 - (intOf i).toNat)
  case atStart => exact ⟨0, Nat.zero_le _, rfl, Below.refl _ _⟩
  case round =>
    obtain ⟨k, hk, rfl, hbW⟩ := hrel
    obtain ⟨x0, x1, x2, _⟩ := (hx0.on hbW).three
    obtain ⟨t0, t1, t2, _⟩ := (ht0.on hbW).three
    have hlt : k < m := by omega
    by_cases hkp : k < p
    · have d1 : decide ((k : Int) + 1 ≤ r) = true := decide_eq_true (by rw [HBd.out]; omega)
      have d2 : decide ((k : Int) < r) = true := decide_eq_true (by rw [HBd.out]; omega)
      obtain ⟨v0, hv⟩ := HG.out k hlt
      have hmv := HM.out k v0 hv
      have HR2 := Lib.hid (HR.out v0 hmv false (HNo.out k v0 hkp hv))
      have HK2 := Lib.hid (fun w1 h => HK.out k v0 w1 hlt hv h)
      replace HZ := Lib.hid (HZ.out.on hbW)
      obtain ⟨yk, yn, yt⟩ := v0
      dsimp only at HR2 HK2
      clear HR HM HG HK hmv hv HNo HBd HYes HV
      go_wp2_with fail
      have X0 := fun d os => cell_regrown x0 d os
      have X1 := fun d os => cell_regrown x1 d os
      have X2 := fun d os => cell_regrown x2 d os
      have T0 := fun d os => cell_regrown t0 d os
      have T1 := fun d os => cell_regrown t1 d os
      have T2 := fun d os => cell_regrown t2 d os
      clear x0 x1 x2 t0 t1 t2
      refine wp_region_mem 5 (fun d => match d with
        | 26 => some (Is (.agg #[.int .i64 yk, .int .i64 yn, .string yt]))
        | 27 => some (Is (.bool false))
        | _ => none) (by kernel_rfl) (by kernel_rfl) ?_
      simp only [List.take_succ_cons, List.take_zero, List.drop_succ_cons, List.drop_zero]
      repeat (first | ((with_reducible refine wpM_calm ?_ ?_ ?_ ?_); exact rfl; exact rfl; exact rfl; intro K hK; go_big_quiet_op; go_big_quiet_on) | ((with_reducible refine wpM_skip ?_ ?_); exact rfl; simp only [Act.put, List.setIfInBounds_toArray, List.set_cons_succ, List.set_cons_zero]))
      refine wpM_exact rfl rfl rfl Tryz.func13 (by kernel_rfl) (by kernel_rfl) (fun w1 hw1 _ => HK2.out w1 (HZ.out.on hw1)) rfl (by simp only [Act.put, List.setIfInBounds_toArray, List.set_cons_succ, List.set_cons_zero]; rfl) ?_
      refine wpM_exact rfl rfl rfl Tryz.func36 (by kernel_rfl) (by kernel_rfl) (fun w1 _ _ => HR2.out w1) rfl (by simp only [Act.put, List.setIfInBounds_toArray, List.set_cons_succ, List.set_cons_zero]; rfl) ?_
      refine wpM_nil ?_
      intro w2 hw2 _
      clear X0 X1 X2 T0 T1 T2 HR2 HK2 d1 d2
      go_wp2_with fail
      go_roundw
      case rel => exact ⟨k + 1, by omega, by go_num, on hbW hw2⟩
      case measure => simp [intOf]; omega
    · obtain rfl : k = p := by omega
      have d1 : decide ((k : Int) + 1 ≤ r) = true := decide_eq_true (by rw [HBd.out]; omega)
      have d2 : decide ((k : Int) < r) = true := decide_eq_true (by rw [HBd.out]; omega)
      obtain ⟨v0, hv⟩ := HG.out k hlt
      have hmv := HM.out k v0 hv
      have HR2 := Lib.hid (HR.out v0 hmv true (HYes.out v0 hv))
      have HK2 := Lib.hid (fun w1 h => HK.out k v0 w1 hlt hv h)
      replace HZ := Lib.hid (HZ.out.on hbW)
      obtain ⟨yk, yn, yt⟩ := v0
      dsimp only at HR2 HK2
      clear HR HM HG HK hmv hv HNo HBd HYes
      go_wp2_with fail
      have X0 := fun d os => cell_regrown x0 d os
      have X1 := fun d os => cell_regrown x1 d os
      have X2 := fun d os => cell_regrown x2 d os
      have T0 := fun d os => cell_regrown t0 d os
      have T1 := fun d os => cell_regrown t1 d os
      have T2 := fun d os => cell_regrown t2 d os
      clear x0 x1 x2 t0 t1 t2
      refine wp_region_mem 5 (fun d => match d with
        | 26 => some (Is (.agg #[.int .i64 yk, .int .i64 yn, .string yt]))
        | 27 => some (Is (.bool true))
        | _ => none) (by kernel_rfl) (by kernel_rfl) ?_
      simp only [List.take_succ_cons, List.take_zero, List.drop_succ_cons, List.drop_zero]
      repeat (first | ((with_reducible refine wpM_calm ?_ ?_ ?_ ?_); exact rfl; exact rfl; exact rfl; intro K hK; go_big_quiet_op; go_big_quiet_on) | ((with_reducible refine wpM_skip ?_ ?_); exact rfl; simp only [Act.put, List.setIfInBounds_toArray, List.set_cons_succ, List.set_cons_zero]))
      refine wpM_exact rfl rfl rfl Tryz.func13 (by kernel_rfl) (by kernel_rfl) (fun w1 hw1 _ => HK2.out w1 (HZ.out.on hw1)) rfl (by simp only [Act.put, List.setIfInBounds_toArray, List.set_cons_succ, List.set_cons_zero]; rfl) ?_
      refine wpM_exact rfl rfl rfl Tryz.func36 (by kernel_rfl) (by kernel_rfl) (fun w1 _ _ => HR2.out w1) rfl (by simp only [Act.put, List.setIfInBounds_toArray, List.set_cons_succ, List.set_cons_zero]; rfl) ?_
      refine wpM_nil ?_
      intro w2 hw2 _
      clear X0 X1 X2 T0 T1 T2 HR2 HK2 d1 d2
      obtain ⟨t0, t1, t2, _⟩ := ((ht0.on hbW).on hw2).three
      have HZ2 := Lib.hid (HZ.out.on hw2)
      replace hr0 := (hr0.on hbW).on hw2
      replace hb0 := on (on hb0 hbW) hw2
      clear hbW hw2
      go_wp2_with fail
      refine (HV.out _ HZ2.out).mono ?_
      rintro e w3 ⟨rfl, hb3⟩
      replace hr0 := hr0.on hb3
      replace hb0 := on hb0 hb3
      clear HV HZ2 HZ hb3 t0 t1 t2
      obtain ⟨p0, p1, p2, f0, f1, f2⟩ := hr0.three
      have hl := hr0.1
      obtain ⟨z0, z1, z2⟩ := three_set (u := .int .i64 vk) (v := .int .i64 vn) (r := .string vt) p0 p1 p2
      have hb5 := set3 hb0 (b := w.heap.size + 2) (by omega) (.int .i64 vk) (.int .i64 vn) (.string vt)
      clear hb0 hr0 hx0 ht0
      go_wp2_with fail
      exact bodyPost_ret (v := .agg #[.int .i64 vk, .int .i64 vn, .string vt]) (by simp [results, Tryz.results19, go_sem, z0, z1, z2]) rfl ⟨rfl, hb5⟩
set_option maxRecDepth 100000 in
set_option maxHeartbeats 2000000 in
theorem racross_fault (x : Vl) (r c row : Int) (A : Option Addr) (n cap : Nat) (h4 : x.k = 4) (w : World) :
    Calls Tryz.prog 20 #[.agg #[.int .i64 x.k, .int .i64 x.n, .string x.t], .agg #[.int .i64 r, .int .i64 c, .slice A n cap], .int .i64 row] w (ValIs x.k x.n x.t w) := by
  obtain ⟨xk, xn, xt⟩ := x
  obtain rfl : xk = 4 := h4
  go_enter Tryz.func20, Tryz.ntmps20
  go_wp2_with fail
  exact bodyPost_ret (v := .agg #[.int .i64 4, .int .i64 xn, .string xt]) (by simp [results, Tryz.results20, go_sem]) rfl ⟨rfl, below3 _ _ _ _⟩
set_option maxRecDepth 100000 in
set_option maxHeartbeats 2000000 in
theorem racross_out (x : Vl) (r c row : Int) (A : Option Addr) (n cap : Nat) (h4 : ¬ x.k = 4) (HI : ∀ w1, Calls Tryz.prog 12 #[.agg #[.int .i64 r, .int .i64 c, .slice A n cap], .int .i64 row, .int .i64 1] w1 (Bit false w1)) (w : World) :
    Calls Tryz.prog 20 #[.agg #[.int .i64 x.k, .int .i64 x.n, .string x.t], .agg #[.int .i64 r, .int .i64 c, .slice A n cap], .int .i64 row] w (ValIs 4 3 ⟨#[]⟩ w) := by
  have q4 := k4_no h4
  have HI : Hid (∀ w1, Calls Tryz.prog 12 #[.agg #[.int .i64 r, .int .i64 c, .slice A n cap], .int .i64 row, .int .i64 1] w1 (Bit false w1)) := Lib.hid HI
  have HB : Hid (∀ w1, Calls Tryz.prog 41 #[.int .i64 3] w1 (ValIs 4 3 ⟨#[]⟩ w1)) := Lib.hid (fun w1 => rbad_c 3 w1)
  obtain ⟨xk, xn, xt⟩ := x
  dsimp only at q4 ⊢
  clear h4
  have hx0 := ((CellsAt.new w [.int .i64 xk, .int .i64 xn, .string xt] 26).on_alloc (.cells #[.int .i64 r, .int .i64 c, .slice A n cap] 24)).on_alloc (.cells #[.int .i64 0, .int .i64 0, .string ⟨#[]⟩] 26)
  have ht0 := (newAt (w0 := w.alloc (.cells #[.int .i64 xk, .int .i64 xn, .string xt] 26)) (g := w.heap.size + 1) (by simp) [.int .i64 r, .int .i64 c, .slice A n cap] 24).on_alloc (.cells #[.int .i64 0, .int .i64 0, .string ⟨#[]⟩] 26)
  have hr0 := newAt (w0 := (w.alloc (.cells #[.int .i64 xk, .int .i64 xn, .string xt] 26)).alloc (.cells #[.int .i64 r, .int .i64 c, .slice A n cap] 24)) (g := w.heap.size + 2) (by simp) [.int .i64 0, .int .i64 0, .string ⟨#[]⟩] 26
  have hb0 := below3 w (.cells #[.int .i64 xk, .int .i64 xn, .string xt] 26) (.cells #[.int .i64 r, .int .i64 c, .slice A n cap] 24) (.cells #[.int .i64 0, .int .i64 0, .string ⟨#[]⟩] 26)
  obtain ⟨x0, x1, x2, _⟩ := hx0.three
  obtain ⟨t0, t1, t2, _⟩ := ht0.three
  go_enter Tryz.func20, Tryz.ntmps20
  go_wp2_with fail
  generalize ((w.alloc (.cells #[.int .i64 xk, .int .i64 xn, .string xt] 26)).alloc (.cells #[.int .i64 r, .int .i64 c, .slice A n cap] 24)).alloc (.cells #[.int .i64 0, .int .i64 0, .string ⟨#[]⟩] 26) = W at *
  refine (HI.out _).mono ?_
  rintro e w1 ⟨rfl, hb1⟩
  clear t0 t1 t2 x0 x1 x2 HI
  replace hx0 := hx0.on hb1
  replace ht0 := ht0.on hb1
  replace hr0 := hr0.on hb1
  replace hb0 := on hb0 hb1
  clear hb1
  go_wp2_with fail
  refine (HB.out _).mono ?_
  rintro e w2 ⟨rfl, hb2⟩
  replace hx0 := hx0.on hb2
  replace ht0 := ht0.on hb2
  replace hr0 := hr0.on hb2
  replace hb0 := on hb0 hb2
  clear HB hb2
  obtain ⟨p0, p1, p2, f0, f1, f2⟩ := hr0.three
  have hl := hr0.1
  obtain ⟨z0, z1, z2⟩ := three_set (u := .int .i64 4) (v := .int .i64 3) (r := .string ⟨#[]⟩) p0 p1 p2
  have hb5 := set3 hb0 (b := w.heap.size + 2) (by omega) (.int .i64 4) (.int .i64 3) (.string ⟨#[]⟩)
  clear hb0 hr0 hx0 ht0
  go_wp2_with fail
  exact bodyPost_ret (v := .agg #[.int .i64 4, .int .i64 3, .string ⟨#[]⟩]) (by simp [results, Tryz.results20, go_sem, z0, z1, z2]) rfl ⟨rfl, hb5⟩
set_option maxRecDepth 100000 in
set_option maxHeartbeats 2000000 in
theorem racross_no (x : Vl) (r c row : Int) (A : Option Addr) (n cap : Nat) (hx : x.may) (h4 : ¬ x.k = 4) (HI : ∀ w1, Calls Tryz.prog 12 #[.agg #[.int .i64 r, .int .i64 c, .slice A n cap], .int .i64 row, .int .i64 1] w1 (Bit true w1)) (L K : List Vl) (m : Nat) (hmm : c = (m : Int)) (m9 : m ≤ 1000) (hKm : ∀ v ∈ K, v.may) (hKl : K.length = m) (HK : ∀ (k : Nat) v w1, k < m → K[k]? = some v → ValsR w1 A n L → Calls Tryz.prog 13 #[.agg #[.int .i64 r, .int .i64 c, .slice A n cap], .int .i64 1, .int .i64 ((k : Int) + 1)] w1 (ValIs v.k v.n v.t w1)) (hs : NoS x K) (w : World) (hz : ValsR w A n L) :
    Calls Tryz.prog 20 #[.agg #[.int .i64 x.k, .int .i64 x.n, .string x.t], .agg #[.int .i64 r, .int .i64 c, .slice A n cap], .int .i64 row] w (ValIs 4 5 ⟨#[]⟩ w) := by
  have q4 := k4_no h4
  have HI : Hid (∀ w1, Calls Tryz.prog 12 #[.agg #[.int .i64 r, .int .i64 c, .slice A n cap], .int .i64 row, .int .i64 1] w1 (Bit true w1)) := Lib.hid HI
  have HK := Lib.hid HK
  have HR := Lib.hid (fun v (hv : Vl.may v) b (h : foundV x v = b) w1 => rfound_c x v hx hv b h w1)
  have HM : Hid (∀ (k : Nat) (v : Vl), K[k]? = some v → v.may) := Lib.hid fun k v hv => hKm v (List.mem_of_getElem? hv)
  have HG : Hid (∀ (k : Nat), k < m → ∃ v, K[k]? = some v) := Lib.hid fun k hk => ⟨_, List.getElem?_eq_getElem (by rw [hKl]; exact hk)⟩
  have HBd := Lib.hid hmm
  have HB : Hid (∀ w1, Calls Tryz.prog 41 #[.int .i64 5] w1 (ValIs 4 5 ⟨#[]⟩ w1)) := Lib.hid (fun w1 => rbad_c 5 w1)
  have HNo : Hid (∀ (k : Nat) (v : Vl), K[k]? = some v → foundV x v = false) := Lib.hid fun k v hv => by unfold foundV; rw [hs k v hv, Bool.and_false]
  obtain ⟨xk, xn, xt⟩ := x
  dsimp only at q4 HR ⊢
  have hx0 := ((CellsAt.new w [.int .i64 xk, .int .i64 xn, .string xt] 26).on_alloc (.cells #[.int .i64 r, .int .i64 c, .slice A n cap] 24)).on_alloc (.cells #[.int .i64 0, .int .i64 0, .string ⟨#[]⟩] 26)
  have ht0 := (newAt (w0 := w.alloc (.cells #[.int .i64 xk, .int .i64 xn, .string xt] 26)) (g := w.heap.size + 1) (by simp) [.int .i64 r, .int .i64 c, .slice A n cap] 24).on_alloc (.cells #[.int .i64 0, .int .i64 0, .string ⟨#[]⟩] 26)
  have hr0 := newAt (w0 := (w.alloc (.cells #[.int .i64 xk, .int .i64 xn, .string xt] 26)).alloc (.cells #[.int .i64 r, .int .i64 c, .slice A n cap] 24)) (g := w.heap.size + 2) (by simp) [.int .i64 0, .int .i64 0, .string ⟨#[]⟩] 26
  have hb0 := below3 w (.cells #[.int .i64 xk, .int .i64 xn, .string xt] 26) (.cells #[.int .i64 r, .int .i64 c, .slice A n cap] 24) (.cells #[.int .i64 0, .int .i64 0, .string ⟨#[]⟩] 26)
  have HZ := Lib.hid (hz.on hb0)
  clear h4 hx hz hKm hKl hs hmm
  obtain ⟨x0, x1, x2, _⟩ := hx0.three
  obtain ⟨t0, t1, t2, _⟩ := ht0.three
  go_enter Tryz.func20, Tryz.ntmps20
  go_wp2_with fail
  generalize ((w.alloc (.cells #[.int .i64 xk, .int .i64 xn, .string xt] 26)).alloc (.cells #[.int .i64 r, .int .i64 c, .slice A n cap] 24)).alloc (.cells #[.int .i64 0, .int .i64 0, .string ⟨#[]⟩] 26) = W at *
  refine (HI.out _).mono ?_
  rintro e w1 ⟨rfl, hb1⟩
  clear t0 t1 t2 x0 x1 x2 HI
  replace hx0 := hx0.on hb1
  replace ht0 := ht0.on hb1
  replace hr0 := hr0.on hb1
  replace hb0 := on hb0 hb1
  replace HZ := Lib.hid (HZ.out.on hb1)
  clear hb1
  go_wp2_with fail
  go_loopw [7] (fun i wr => ∃ k : Nat, k ≤ m ∧ i = .int .i64 ((k : Int) + 1) ∧ Below w1.heap.size w1 wr) (fun i _ => m + 1 - (intOf i).toNat)
  case atStart => exact ⟨0, Nat.zero_le _, rfl, Below.refl _ _⟩
  case round =>
    obtain ⟨k, hk, rfl, hbW⟩ := hrel
    obtain ⟨x0, x1, x2, _⟩ := (hx0.on hbW).three
    obtain ⟨t0, t1, t2, _⟩ := (ht0.on hbW).three
    by_cases hlt : k < m
    · have d1 : decide ((k : Int) + 1 ≤ c) = true := decide_eq_true (by rw [HBd.out]; omega)
      have d2 : decide ((k : Int) < c) = true := decide_eq_true (by rw [HBd.out]; omega)
      obtain ⟨v0, hv⟩ := HG.out k hlt
      have hmv := HM.out k v0 hv
      have HR2 := Lib.hid (HR.out v0 hmv false (HNo.out k v0 hv))
      have HK2 := Lib.hid (fun w1 h => HK.out k v0 w1 hlt hv h)
      replace HZ := Lib.hid (HZ.out.on hbW)
      obtain ⟨yk, yn, yt⟩ := v0
      dsimp only at HR2 HK2
      clear HR HM HG HK hmv hv HNo HBd
      go_wp2_with fail
      have X0 := fun d os => cell_regrown x0 d os
      have X1 := fun d os => cell_regrown x1 d os
      have X2 := fun d os => cell_regrown x2 d os
      have T0 := fun d os => cell_regrown t0 d os
      have T1 := fun d os => cell_regrown t1 d os
      have T2 := fun d os => cell_regrown t2 d os
      clear x0 x1 x2 t0 t1 t2
      refine wp_region_mem 5 (fun d => match d with
        | 26 => some (Is (.agg #[.int .i64 yk, .int .i64 yn, .string yt]))
        | 27 => some (Is (.bool false))
        | _ => none) (by kernel_rfl) (by kernel_rfl) ?_
      simp only [List.take_succ_cons, List.take_zero, List.drop_succ_cons, List.drop_zero]
      repeat (first | ((with_reducible refine wpM_calm ?_ ?_ ?_ ?_); exact rfl; exact rfl; exact rfl; intro K hK; go_big_quiet_op; go_big_quiet_on) | ((with_reducible refine wpM_skip ?_ ?_); exact rfl; simp only [Act.put, List.setIfInBounds_toArray, List.set_cons_succ, List.set_cons_zero]))
      refine wpM_exact rfl rfl rfl Tryz.func13 (by kernel_rfl) (by kernel_rfl) (fun w1 hw1 _ => HK2.out w1 (HZ.out.on hw1)) rfl (by simp only [Act.put, List.setIfInBounds_toArray, List.set_cons_succ, List.set_cons_zero]; rfl) ?_
      refine wpM_exact rfl rfl rfl Tryz.func36 (by kernel_rfl) (by kernel_rfl) (fun w1 _ _ => HR2.out w1) rfl (by simp only [Act.put, List.setIfInBounds_toArray, List.set_cons_succ, List.set_cons_zero]; rfl) ?_
      refine wpM_nil ?_
      intro w2 hw2 _
      clear X0 X1 X2 T0 T1 T2 HR2 HK2 d1 d2
      go_wp2_with fail
      go_roundw
      case rel => exact ⟨k + 1, by omega, by go_num, on hbW hw2⟩
      case measure => simp [intOf]; omega
    · obtain rfl : k = m := by omega
      have d1 : decide ((k : Int) + 1 ≤ c) = false := decide_eq_false (by rw [HBd.out]; omega)
      have d2 : decide ((k : Int) < c) = false := decide_eq_false (by rw [HBd.out]; omega)
      clear HR HM HG HK HNo HBd
      go_wp2_with fail
      refine (HB.out _).mono ?_
      rintro e w2 ⟨rfl, hb2⟩
      replace hr0 := (hr0.on hbW).on hb2
      replace hb0 := on (on hb0 hbW) hb2
      clear HB hb2 hbW x0 x1 x2 t0 t1 t2 d1 d2
      obtain ⟨p0, p1, p2, f0, f1, f2⟩ := hr0.three
      have hl := hr0.1
      obtain ⟨z0, z1, z2⟩ := three_set (u := .int .i64 4) (v := .int .i64 5) (r := .string ⟨#[]⟩) p0 p1 p2
      have hb5 := set3 hb0 (b := w.heap.size + 2) (by omega) (.int .i64 4) (.int .i64 5) (.string ⟨#[]⟩)
      clear hb0 hr0 hx0 ht0
      go_wp2_with fail
      exact bodyPost_ret (v := .agg #[.int .i64 4, .int .i64 5, .string ⟨#[]⟩]) (by simp [results, Tryz.results20, go_sem, z0, z1, z2]) rfl ⟨rfl, hb5⟩
set_option maxRecDepth 100000 in
set_option maxHeartbeats 2000000 in
theorem racross_yes (x : Vl) (r c row : Int) (A : Option Addr) (n cap : Nat) (hx : x.may) (h4 : ¬ x.k = 4) (HI : ∀ w1, Calls Tryz.prog 12 #[.agg #[.int .i64 r, .int .i64 c, .slice A n cap], .int .i64 row, .int .i64 1] w1 (Bit true w1)) (L K : List Vl) (m : Nat) (hmm : c = (m : Int)) (m9 : m ≤ 1000) (hKm : ∀ v ∈ K, v.may) (hKl : K.length = m) (HK : ∀ (k : Nat) v w1, k < m → K[k]? = some v → ValsR w1 A n L → Calls Tryz.prog 13 #[.agg #[.int .i64 r, .int .i64 c, .slice A n cap], .int .i64 1, .int .i64 ((k : Int) + 1)] w1 (ValIs v.k v.n v.t w1)) (p : Nat) (u : Vl) (hs : FirstS x K p u) (v : Vl) (HV : ∀ w1, ValsR w1 A n L → Calls Tryz.prog 13 #[.agg #[.int .i64 r, .int .i64 c, .slice A n cap], .int .i64 row, .int .i64 ((p : Int) + 1)] w1 (ValIs v.k v.n v.t w1)) (w : World) (hz : ValsR w A n L) :
    Calls Tryz.prog 20 #[.agg #[.int .i64 x.k, .int .i64 x.n, .string x.t], .agg #[.int .i64 r, .int .i64 c, .slice A n cap], .int .i64 row] w (ValIs v.k v.n v.t w) := by
  have q4 := k4_no h4
  have HI : Hid (∀ w1, Calls Tryz.prog 12 #[.agg #[.int .i64 r, .int .i64 c, .slice A n cap], .int .i64 row, .int .i64 1] w1 (Bit true w1)) := Lib.hid HI
  have HK := Lib.hid HK
  have HR := Lib.hid (fun v (hv : Vl.may v) b (h : foundV x v = b) w1 => rfound_c x v hx hv b h w1)
  have HM : Hid (∀ (k : Nat) (v : Vl), K[k]? = some v → v.may) := Lib.hid fun k v hv => hKm v (List.mem_of_getElem? hv)
  have HG : Hid (∀ (k : Nat), k < m → ∃ v, K[k]? = some v) := Lib.hid fun k hk => ⟨_, List.getElem?_eq_getElem (by rw [hKl]; exact hk)⟩
  have HBd := Lib.hid hmm
  have HNo : Hid (∀ (k : Nat) (v : Vl), k < p → K[k]? = some v → foundV x v = false) := Lib.hid fun k v hk hv => by unfold foundV; rw [hs.2.2 k v hk hv, Bool.and_false]
  have HYes : Hid (∀ v : Vl, K[p]? = some v → foundV x v = true) := Lib.hid fun v hv => by
    obtain rfl := Option.some.inj (hv.symm.trans hs.1)
    unfold foundV
    rw [hs.2.1, decide_eq_false h4]
    rfl
  have hpm : p < m := by have := hs.lt; rw [hKl] at this; exact this
  have HV := Lib.hid HV
  obtain ⟨vk, vn, vt⟩ := v
  obtain ⟨xk, xn, xt⟩ := x
  dsimp only at q4 HR HV ⊢
  have hx0 := ((CellsAt.new w [.int .i64 xk, .int .i64 xn, .string xt] 26).on_alloc (.cells #[.int .i64 r, .int .i64 c, .slice A n cap] 24)).on_alloc (.cells #[.int .i64 0, .int .i64 0, .string ⟨#[]⟩] 26)
  have ht0 := (newAt (w0 := w.alloc (.cells #[.int .i64 xk, .int .i64 xn, .string xt] 26)) (g := w.heap.size + 1) (by simp) [.int .i64 r, .int .i64 c, .slice A n cap] 24).on_alloc (.cells #[.int .i64 0, .int .i64 0, .string ⟨#[]⟩] 26)
  have hr0 := newAt (w0 := (w.alloc (.cells #[.int .i64 xk, .int .i64 xn, .string xt] 26)).alloc (.cells #[.int .i64 r, .int .i64 c, .slice A n cap] 24)) (g := w.heap.size + 2) (by simp) [.int .i64 0, .int .i64 0, .string ⟨#[]⟩] 26
  have hb0 := below3 w (.cells #[.int .i64 xk, .int .i64 xn, .string xt] 26) (.cells #[.int .i64 r, .int .i64 c, .slice A n cap] 24) (.cells #[.int .i64 0, .int .i64 0, .string ⟨#[]⟩] 26)
  have HZ := Lib.hid (hz.on hb0)
  clear h4 hx hz hKm hKl hs hmm
  obtain ⟨x0, x1, x2, _⟩ := hx0.three
  obtain ⟨t0, t1, t2, _⟩ := ht0.three
  go_enter Tryz.func20, Tryz.ntmps20
  go_wp2_with fail
  generalize ((w.alloc (.cells #[.int .i64 xk, .int .i64 xn, .string xt] 26)).alloc (.cells #[.int .i64 r, .int .i64 c, .slice A n cap] 24)).alloc (.cells #[.int .i64 0, .int .i64 0, .string ⟨#[]⟩] 26) = W at *
  refine (HI.out _).mono ?_
  rintro e w1 ⟨rfl, hb1⟩
  clear t0 t1 t2 x0 x1 x2 HI
  replace hx0 := hx0.on hb1
  replace ht0 := ht0.on hb1
  replace hr0 := hr0.on hb1
  replace hb0 := on hb0 hb1
  replace HZ := Lib.hid (HZ.out.on hb1)
  clear hb1
  go_wp2_with fail
  go_loopw [7] (fun i wr => ∃ k : Nat, k ≤ p ∧ i = .int .i64 ((k : Int) + 1) ∧ Below w1.heap.size w1 wr) (fun i _ => m + 1 - (intOf i).toNat)
  case atStart => exact ⟨0, Nat.zero_le _, rfl, Below.refl _ _⟩
  case round =>
    obtain ⟨k, hk, rfl, hbW⟩ := hrel
    obtain ⟨x0, x1, x2, _⟩ := (hx0.on hbW).three
    obtain ⟨t0, t1, t2, _⟩ := (ht0.on hbW).three
    have hlt : k < m := by omega
    by_cases hkp : k < p
    · have d1 : decide ((k : Int) + 1 ≤ c) = true := decide_eq_true (by rw [HBd.out]; omega)
      have d2 : decide ((k : Int) < c) = true := decide_eq_true (by rw [HBd.out]; omega)
      obtain ⟨v0, hv⟩ := HG.out k hlt
      have hmv := HM.out k v0 hv
      have HR2 := Lib.hid (HR.out v0 hmv false (HNo.out k v0 hkp hv))
      have HK2 := Lib.hid (fun w1 h => HK.out k v0 w1 hlt hv h)
      replace HZ := Lib.hid (HZ.out.on hbW)
      obtain ⟨yk, yn, yt⟩ := v0
      dsimp only at HR2 HK2
      clear HR HM HG HK hmv hv HNo HBd HYes HV
      go_wp2_with fail
      have X0 := fun d os => cell_regrown x0 d os
      have X1 := fun d os => cell_regrown x1 d os
      have X2 := fun d os => cell_regrown x2 d os
      have T0 := fun d os => cell_regrown t0 d os
      have T1 := fun d os => cell_regrown t1 d os
      have T2 := fun d os => cell_regrown t2 d os
      clear x0 x1 x2 t0 t1 t2
      refine wp_region_mem 5 (fun d => match d with
        | 26 => some (Is (.agg #[.int .i64 yk, .int .i64 yn, .string yt]))
        | 27 => some (Is (.bool false))
        | _ => none) (by kernel_rfl) (by kernel_rfl) ?_
      simp only [List.take_succ_cons, List.take_zero, List.drop_succ_cons, List.drop_zero]
      repeat (first | ((with_reducible refine wpM_calm ?_ ?_ ?_ ?_); exact rfl; exact rfl; exact rfl; intro K hK; go_big_quiet_op; go_big_quiet_on) | ((with_reducible refine wpM_skip ?_ ?_); exact rfl; simp only [Act.put, List.setIfInBounds_toArray, List.set_cons_succ, List.set_cons_zero]))
      refine wpM_exact rfl rfl rfl Tryz.func13 (by kernel_rfl) (by kernel_rfl) (fun w1 hw1 _ => HK2.out w1 (HZ.out.on hw1)) rfl (by simp only [Act.put, List.setIfInBounds_toArray, List.set_cons_succ, List.set_cons_zero]; rfl) ?_
      refine wpM_exact rfl rfl rfl Tryz.func36 (by kernel_rfl) (by kernel_rfl) (fun w1 _ _ => HR2.out w1) rfl (by simp only [Act.put, List.setIfInBounds_toArray, List.set_cons_succ, List.set_cons_zero]; rfl) ?_
      refine wpM_nil ?_
      intro w2 hw2 _
      clear X0 X1 X2 T0 T1 T2 HR2 HK2 d1 d2
      go_wp2_with fail
      go_roundw
      case rel => exact ⟨k + 1, by omega, by go_num, on hbW hw2⟩
      case measure => simp [intOf]; omega
    · obtain rfl : k = p := by omega
      have d1 : decide ((k : Int) + 1 ≤ c) = true := decide_eq_true (by rw [HBd.out]; omega)
      have d2 : decide ((k : Int) < c) = true := decide_eq_true (by rw [HBd.out]; omega)
      obtain ⟨v0, hv⟩ := HG.out k hlt
      have hmv := HM.out k v0 hv
      have HR2 := Lib.hid (HR.out v0 hmv true (HYes.out v0 hv))
      have HK2 := Lib.hid (fun w1 h => HK.out k v0 w1 hlt hv h)
      replace HZ := Lib.hid (HZ.out.on hbW)
      obtain ⟨yk, yn, yt⟩ := v0
      dsimp only at HR2 HK2
      clear HR HM HG HK hmv hv HNo HBd HYes
      go_wp2_with fail
      have X0 := fun d os => cell_regrown x0 d os
      have X1 := fun d os => cell_regrown x1 d os
      have X2 := fun d os => cell_regrown x2 d os
      have T0 := fun d os => cell_regrown t0 d os
      have T1 := fun d os => cell_regrown t1 d os
      have T2 := fun d os => cell_regrown t2 d os
      clear x0 x1 x2 t0 t1 t2
      refine wp_region_mem 5 (fun d => match d with
        | 26 => some (Is (.agg #[.int .i64 yk, .int .i64 yn, .string yt]))
        | 27 => some (Is (.bool true))
        | _ => none) (by kernel_rfl) (by kernel_rfl) ?_
      simp only [List.take_succ_cons, List.take_zero, List.drop_succ_cons, List.drop_zero]
      repeat (first | ((with_reducible refine wpM_calm ?_ ?_ ?_ ?_); exact rfl; exact rfl; exact rfl; intro K hK; go_big_quiet_op; go_big_quiet_on) | ((with_reducible refine wpM_skip ?_ ?_); exact rfl; simp only [Act.put, List.setIfInBounds_toArray, List.set_cons_succ, List.set_cons_zero]))
      refine wpM_exact rfl rfl rfl Tryz.func13 (by kernel_rfl) (by kernel_rfl) (fun w1 hw1 _ => HK2.out w1 (HZ.out.on hw1)) rfl (by simp only [Act.put, List.setIfInBounds_toArray, List.set_cons_succ, List.set_cons_zero]; rfl) ?_
      refine wpM_exact rfl rfl rfl Tryz.func36 (by kernel_rfl) (by kernel_rfl) (fun w1 _ _ => HR2.out w1) rfl (by simp only [Act.put, List.setIfInBounds_toArray, List.set_cons_succ, List.set_cons_zero]; rfl) ?_
      refine wpM_nil ?_
      intro w2 hw2 _
      clear X0 X1 X2 T0 T1 T2 HR2 HK2 d1 d2
      obtain ⟨t0, t1, t2, _⟩ := ((ht0.on hbW).on hw2).three
      have HZ2 := Lib.hid (HZ.out.on hw2)
      replace hr0 := (hr0.on hbW).on hw2
      replace hb0 := on (on hb0 hbW) hw2
      clear hbW hw2
      go_wp2_with fail
      refine (HV.out _ HZ2.out).mono ?_
      rintro e w3 ⟨rfl, hb3⟩
      replace hr0 := hr0.on hb3
      replace hb0 := on hb0 hb3
      clear HV HZ2 HZ hb3 t0 t1 t2
      obtain ⟨p0, p1, p2, f0, f1, f2⟩ := hr0.three
      have hl := hr0.1
      obtain ⟨z0, z1, z2⟩ := three_set (u := .int .i64 vk) (v := .int .i64 vn) (r := .string vt) p0 p1 p2
      have hb5 := set3 hb0 (b := w.heap.size + 2) (by omega) (.int .i64 vk) (.int .i64 vn) (.string vt)
      clear hb0 hr0 hx0 ht0
      go_wp2_with fail
      exact bodyPost_ret (v := .agg #[.int .i64 vk, .int .i64 vn, .string vt]) (by simp [results, Tryz.results20, go_sem, z0, z1, z2]) rfl ⟨rfl, hb5⟩
section
variable {R C n : Nat} (h1 : 1 ≤ R) (h2 : 1 ≤ C) (h3 : n ≤ 1000) (h4 : R * C = n)
include h1 h2 h3 h4
theorem rdown_c (x : Vl) (hx : x.may) (A : Option Addr) (cap : Nat) (L : List Vl) (hm : ∀ v ∈ L, v.may) (col : Int) (v : Vl) (h : DownIs x L R C col v) (w : World) (hz : ValsR w A n L) :
    Calls Tryz.prog 19 #[.agg #[.int .i64 x.k, .int .i64 x.n, .string x.t], .agg #[.int .i64 R, .int .i64 C, .slice A n cap], .int .i64 col] w (ValIs v.k v.n v.t w) := by
  obtain ⟨_, _, _, _, _, _, _, _, h5, h6⟩ := (good_of h1 h2 h3 h4).nat
  have hkm := col_may h4 hm hz.1 (j := 0) (by omega)
  have hlen : (colK L R C 0).length = R := by unfold colK; exact pick_len _ _ _
  have hone : ((0 : Nat) : Int) + 1 = 1 := rfl
  have key : ∀ (k : Nat) (v : Vl) w1, k < R → (colK L R C 0)[k]? = some v → ValsR w1 A n L → Calls Tryz.prog 13 #[.agg #[.int .i64 R, .int .i64 C, .slice A n cap], .int .i64 ((k : Int) + 1), .int .i64 1] w1 (ValIs v.k v.n v.t w1) := fun k v w1 hk hv hz1 => by
    have hlt : k * C + 0 < n := place_lt h4 (by omega) (by omega)
    obtain ⟨u, hu⟩ := hz1.get hlt
    obtain rfl : u = v := Option.some.inj ((pick_at (L := L) (g := fun i => i * C + 0) hk hu).symm.trans hv)
    exact rat_yes R C _ _ A n cap L _ _ _ _ (Way.at (i := k) (j := 0) h1 h2 h3 h4 (by omega) (by omega) (by omega) (by omega)) u hu w1 hz1
  rcases h with ⟨j, hj, hc, hl⟩ | ⟨hc, hl⟩
  · have HI : ∀ w1, Calls Tryz.prog 12 #[.agg #[.int .i64 R, .int .i64 C, .slice A n cap], .int .i64 1, .int .i64 col] w1 (Bit true w1) := fun w1 => rin_yes R C _ _ A n cap (by unfold Inn; omega) w1
    rcases hl with ⟨h9, rfl⟩ | ⟨h9, he, _⟩ | ⟨h9, _, hs, rfl⟩ | ⟨h9, _, p, u, hs, hv⟩
    · exact rdown_fault v R C col A n cap h9 w
    · cases he
    · exact rdown_no x R C col A n cap hx h9 HI L _ R rfl (by omega) hkm hlen key hs w hz
    · have hp : p < R := by have := hs.lt; rw [hlen] at this; exact this
      refine rdown_yes x R C col A n cap hx h9 HI L _ R rfl (by omega) hkm hlen key p u hs v (fun w1 hz1 => ?_) w hz
      have hlt : p * C + j < n := place_lt h4 (by omega) (by omega)
      obtain ⟨y, hy⟩ := hz1.get hlt
      obtain rfl : y = v := Option.some.inj ((pick_at (L := L) (g := fun i => i * C + j) hp hy).symm.trans hv)
      exact rat_yes R C _ _ A n cap L _ _ _ _ (Way.at (i := p) (j := j) h1 h2 h3 h4 (by omega) (by omega) (by omega) (by omega)) y hy w1 hz1
  · have HI : ∀ w1, Calls Tryz.prog 12 #[.agg #[.int .i64 R, .int .i64 C, .slice A n cap], .int .i64 1, .int .i64 col] w1 (Bit false w1) := fun w1 => rin_no R C _ _ A n cap (by unfold Out; omega) w1
    rcases hl with ⟨h9, rfl⟩ | ⟨h9, _, rfl⟩ | ⟨_, he, _⟩ | ⟨_, he, _⟩
    · exact rdown_fault v R C col A n cap h9 w
    · exact rdown_out x R C col A n cap h9 HI w
    · cases he
    · cases he
theorem racross_c (x : Vl) (hx : x.may) (A : Option Addr) (cap : Nat) (L : List Vl) (hm : ∀ v ∈ L, v.may) (row : Int) (v : Vl) (h : AcrossIs x L R C row v) (w : World) (hz : ValsR w A n L) :
    Calls Tryz.prog 20 #[.agg #[.int .i64 x.k, .int .i64 x.n, .string x.t], .agg #[.int .i64 R, .int .i64 C, .slice A n cap], .int .i64 row] w (ValIs v.k v.n v.t w) := by
  obtain ⟨_, _, _, _, _, _, _, _, h5, h6⟩ := (good_of h1 h2 h3 h4).nat
  have hkm := row_may h4 hm hz.1 (i := 0) (by omega)
  have hlen : (rowK L C 0).length = C := by unfold rowK; exact pick_len _ _ _
  have hone : ((0 : Nat) : Int) + 1 = 1 := rfl
  have key : ∀ (k : Nat) (v : Vl) w1, k < C → (rowK L C 0)[k]? = some v → ValsR w1 A n L → Calls Tryz.prog 13 #[.agg #[.int .i64 R, .int .i64 C, .slice A n cap], .int .i64 1, .int .i64 ((k : Int) + 1)] w1 (ValIs v.k v.n v.t w1) := fun k v w1 hk hv hz1 => by
    have hlt : 0 * C + k < n := place_lt h4 (by omega) (by omega)
    obtain ⟨u, hu⟩ := hz1.get hlt
    obtain rfl : u = v := Option.some.inj ((pick_at (L := L) (g := fun j => 0 * C + j) hk hu).symm.trans hv)
    exact rat_yes R C _ _ A n cap L _ _ _ _ (Way.at (i := 0) (j := k) h1 h2 h3 h4 (by omega) (by omega) (by omega) (by omega)) u hu w1 hz1
  rcases h with ⟨j, hj, hc, hl⟩ | ⟨hc, hl⟩
  · have HI : ∀ w1, Calls Tryz.prog 12 #[.agg #[.int .i64 R, .int .i64 C, .slice A n cap], .int .i64 row, .int .i64 1] w1 (Bit true w1) := fun w1 => rin_yes R C _ _ A n cap (by unfold Inn; omega) w1
    rcases hl with ⟨h9, rfl⟩ | ⟨h9, he, _⟩ | ⟨h9, _, hs, rfl⟩ | ⟨h9, _, p, u, hs, hv⟩
    · exact racross_fault v R C row A n cap h9 w
    · cases he
    · exact racross_no x R C row A n cap hx h9 HI L _ C rfl (by omega) hkm hlen key hs w hz
    · have hp : p < C := by have := hs.lt; rw [hlen] at this; exact this
      refine racross_yes x R C row A n cap hx h9 HI L _ C rfl (by omega) hkm hlen key p u hs v (fun w1 hz1 => ?_) w hz
      have hlt : j * C + p < n := place_lt h4 (by omega) (by omega)
      obtain ⟨y, hy⟩ := hz1.get hlt
      obtain rfl : y = v := Option.some.inj ((pick_at (L := L) (g := fun q => j * C + q) hp hy).symm.trans hv)
      exact rat_yes R C _ _ A n cap L _ _ _ _ (Way.at (i := j) (j := p) h1 h2 h3 h4 (by omega) (by omega) (by omega) (by omega)) y hy w1 hz1
  · have HI : ∀ w1, Calls Tryz.prog 12 #[.agg #[.int .i64 R, .int .i64 C, .slice A n cap], .int .i64 row, .int .i64 1] w1 (Bit false w1) := fun w1 => rin_no R C _ _ A n cap (by unfold Out; omega) w1
    rcases hl with ⟨h9, rfl⟩ | ⟨h9, _, rfl⟩ | ⟨_, he, _⟩ | ⟨_, he, _⟩
    · exact racross_fault v R C row A n cap h9 w
    · exact racross_out x R C row A n cap h9 HI w
    · cases he
    · cases he
end
end Go.Proofs.YtbjomidkeignjaaGreatDoor.Lok
