/- Slices of one's own that hold zones; and the check of life of the stage's laws: true. -/
import Derived.Test.YtedpgcmmnmlpeaaZoneWrong
import Derived.Test.YtedpgcmmnmlpeaaZoneSeen
namespace Go.Proofs.Ytedpgcmmnmlpeaa.Zone
open Go.RowKit Kit Reg Go.Proofs.Ytedpgcmmnmlpeaa.Span Go.Proofs.Ytedpgcmmnmlpeaa.Lab
open Go.Proofs.Ytedpgcmmnmlpeaa.Cats (U U_or U_zero)

def flatZ : List Zn → List Value
  | [] => []
  | z :: r => z.cells ++ flatZ r
theorem cells_len (z : Zn) : z.cells.length = 6 := rfl
theorem flatZ_length : ∀ zs : List Zn, (flatZ zs).length = zs.length * 6
  | [] => rfl
  | z :: r => by rw [flatZ, List.length_append, flatZ_length r, cells_len, List.length_cons]; omega
theorem flatZ_append : ∀ zs ys : List Zn, flatZ (zs ++ ys) = flatZ zs ++ flatZ ys
  | [], _ => rfl
  | z :: r, ys => by rw [List.cons_append, flatZ, flatZ, flatZ_append r, List.append_assoc]
theorem flatZ_at : ∀ (zs : List Zn) (k : Nat) (z : Zn), zs[k]? = some z → ∀ j v, z.cells[j]? = some v → (flatZ zs)[k * 6 + j]? = some v
  | [], _, _, h, _, _, _ => by simp at h
  | d :: r, 0, z, h, j, v, hj => by
    simp only [List.getElem?_cons_zero, Option.some.injEq] at h
    subst h
    have hl : j < 6 := (List.getElem?_eq_some_iff.1 hj).1
    rw [flatZ, List.getElem?_append_left (by rw [cells_len]; omega), Nat.zero_mul, Nat.zero_add]
    exact hj
  | d :: r, k + 1, z, h, j, v, hj => by
    have h2 := flatZ_at r k z (by simpa using h) j v hj
    rw [flatZ, List.getElem?_append_right (by rw [cells_len]; omega), cells_len, show (k + 1) * 6 + j - 6 = k * 6 + j by omega]
    exact h2
/-- a block that begins with zones -/
theorem ZonesR.of_block {w : World} {g n : Nat} {zs : List Zn} (hn : zs.length = n) (hm : n ≤ 140737488355328) (hu : ∀ z ∈ zs, U z.s) (hg : g < w.heap.size) (h : ∀ j v, (flatZ zs)[j]? = some v → w.cell? ⟨g, j, none⟩ = some v) : ZonesR w (some ⟨g, 0, none⟩) n zs :=
  ⟨hn, hm, hu, fun _ => ⟨g, 0, rfl, hg, fun k z hk j v hj => by rw [Nat.zero_add]; exact h _ v (flatZ_at zs k z hk j v hj)⟩⟩
theorem ZonesR.lit (w : World) (zs : List Zn) (n : Nat) (hn : zs.length = n) (hm : n ≤ 140737488355328) (hu : ∀ z ∈ zs, U z.s) (ty : TypeId) : ZonesR (w.alloc (.cells (flatZ zs).toArray ty)) (some ⟨w.heap.size, 0, none⟩) n zs :=
  .of_block hn hm hu (by simp) fun j v hj => ((CellsAt.new w (flatZ zs) ty).2 j v hj).1

def two : List Zn := [⟨0, 0, 1, 0, 2, 0⟩, ⟨0, 0, 4, 4, 1, 1⟩]
theorem two_U : ∀ z ∈ two, U z.s := by
  intro z hz
  simp only [two, List.mem_cons, List.not_mem_nil, or_false] at hz
  rcases hz with rfl | rfl <;> (unfold U; decide)
theorem two_wrong : wrongF 0 two 5 4 = (1, 2) := by decide +kernel
theorem two_of1 : contF two 1 0 = (2, 0) := by decide +kernel
theorem two_of2 : contF two 1 1 = (1, 1) := by decide +kernel
theorem two_of3 : contF two 9 0 = (0, 0) := by decide +kernel
theorem two_over : overF two [(0, 0), (0, 1)] = (2, 1) := by decide +kernel
theorem two_cells : (if 1000 < 2 then [] else upto (cellAt 0 0 2) 2) = [(0, 0), (0, 1)] := by decide +kernel
set_option maxRecDepth 100000 in
set_option maxHeartbeats 4000000 in
theorem alive_c (w : World) : Calls Try.prog 6 #[] w fun e w' => e = .returned (.bool true) ∧ Below w.heap.size w w' := by
  have HCs : ∀ w1, Calls Try.prog 17 #[.agg #[.int .i64 0, .int .i64 0, .int .i64 0, .int .i64 1]] w1 (CellsEnd [(0, 0), (0, 1)] w1) := fun w1 => by
    have h := cells_c 0 0 0 1 true 1 2 2 0 0 (by decide +kernel) (by decide +kernel) (by decide +kernel) (by decide +kernel) (by decide +kernel) rfl w1
    rwa [two_cells] at h
  have hb0 := below1 w (.cells #[.int .i64 0, .int .i64 0, .int .i64 1, .int .i64 0, .int .i64 2, .int .u64 0, .int .i64 0, .int .i64 0, .int .i64 4, .int .i64 4, .int .i64 1, .int .u64 1] 41)
  have hz : ZonesR (w.alloc (.cells #[.int .i64 0, .int .i64 0, .int .i64 1, .int .i64 0, .int .i64 2, .int .u64 0, .int .i64 0, .int .i64 0, .int .i64 4, .int .i64 4, .int .i64 1, .int .u64 1] 41)) (some ⟨w.heap.size, 0, none⟩) 2 two := ZonesR.lit w two 2 rfl (by decide) two_U 41
  have HW := Lib.hid (fun A w1 (h : ZonesR w1 A 2 two) => wrong_c A 2 2 two 5 4 1 2 two_wrong w1 h)
  have H1 := Lib.hid (fun A w1 (h : ZonesR w1 A 2 two) => of_c A 2 2 two 1 0 2 0 two_of1 w1 h)
  have H2 := Lib.hid (fun A w1 (h : ZonesR w1 A 2 two) => of_c A 2 2 two 1 1 1 1 two_of2 w1 h)
  have H3 := Lib.hid (fun A w1 (h : ZonesR w1 A 2 two) => of_c A 2 2 two 9 0 0 0 two_of3 w1 h)
  have H4 := Lib.hid (fun A w1 (h : ZonesR w1 A 2 two) => over_c A 2 2 two 0 0 0 1 2 1 [(0, 0), (0, 1)] (by decide) HCs two_over w1 h)
  clear HCs
  go_enter Try.func6, Try.ntmps6
  go_wp2_with fail
  generalize w.alloc (.cells #[.int .i64 0, .int .i64 0, .int .i64 1, .int .i64 0, .int .i64 2, .int .u64 0, .int .i64 0, .int .i64 0, .int .i64 4, .int .i64 4, .int .i64 1, .int .u64 1] 41) = W at *
  have HZ := Lib.hid hz
  clear hz
  refine (HW.out _ _ HZ.out).mono ?_
  rintro e w1 ⟨rfl, hb1⟩
  replace hb0 := on hb0 hb1
  replace HZ := Lib.hid (HZ.out.on hb1)
  clear hb1
  go_wp2_with fail
  refine (H1.out _ _ HZ.out).mono ?_
  rintro e w1 ⟨rfl, hb1⟩
  replace hb0 := on hb0 hb1
  replace HZ := Lib.hid (HZ.out.on hb1)
  clear hb1
  go_wp2_with fail
  refine (H2.out _ _ HZ.out).mono ?_
  rintro e w1 ⟨rfl, hb1⟩
  replace hb0 := on hb0 hb1
  replace HZ := Lib.hid (HZ.out.on hb1)
  clear hb1
  go_wp2_with fail
  refine (H3.out _ _ HZ.out).mono ?_
  rintro e w1 ⟨rfl, hb1⟩
  replace hb0 := on hb0 hb1
  replace HZ := Lib.hid (HZ.out.on hb1)
  clear hb1
  go_wp2_with fail
  refine (H4.out _ _ HZ.out).mono ?_
  rintro e w1 ⟨rfl, hb1⟩
  replace hb0 := on hb0 hb1
  clear hb1
  go_wp2
  go_ret
  exact ⟨rfl, hb0⟩
end Go.Proofs.Ytedpgcmmnmlpeaa.Zone
