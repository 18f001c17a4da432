/- The first fault and the numbers of a list: what the program's Numbers, the reference's Fault and Numbers answer, for every list of values that reads as one.
   A list with a fault: what the program's Numbers answers; the reference's Numbers; and whether all values of a list may be: the reference's Right. -/
import Derived.Laws.OwnMore
import Derived.Test.YtbjomidkeignjaaGreatDoorG13
import Derived.Test.YtbjomidkeignjaaGreatDoorG9
namespace Go.Proofs.YtbjomidkeignjaaGreatDoor.Fld
open Go.RowKit Kit Reg Dec Dig Val Txt

theorem infoI : (Tryz.prog.info? 2).map (fun i => (i.zero, i.size, i.bytes)) = some (some (.int .i64 0), 1, 8) := by kernel_rfl
theorem one_new {w : World} {g : Nat} (hg : g = w.heap.size) (x : Value) (ty : TypeId) : ∀ j u, [x][j]? = some u → (w.alloc (.cells #[x] ty)).cell? ((⟨g, 0, none⟩ : Addr).add j) = some u := by
  intro j u hj
  rw [show ((⟨g, 0, none⟩ : Addr).add j) = ⟨g, j, none⟩ by unfold Addr.add; split <;> simp_all, hg]
  exact ((CellsAt.new w [x] ty).2 j u hj).1
theorem one_cells (x : Value) (h : x.oneCell' = true) : ∀ u ∈ [x], u.oneCell' = true := fun u hu => by
  simp only [List.mem_singleton] at hu
  subst hu
  exact h
/-- what stays behind an append to a row of one's own -/
theorem own_below {B : Nat} {e : TypeId} {size : Nat} {w0 w w' : World} {v : Value} {n : Nat} {xs : List Value} {o : Obj} (h : w.ownsRow B e size v n xs) (hb : Below w0.heap.size w0 w) (hB : w0.heap.size ≤ B) (hg : (w.alloc o).grownBy w' v.ownBlock) : Below w0.heap.size w0 w' :=
  (on_alloc hb _).grown hg (by have := hb.size; simp; omega) (fun b e => Nat.le_trans hB (World.ownsRow.lt h b e).1)
theorem OwnI.snoc {B : Nat} {w : World} {v : Value} {xs : List Int} (x : Int) (h : w.ownsRow B 2 1 v (xs.length + 1) (xs.map (Value.int .i64) ++ [.int .i64 x])) : OwnI B v (xs ++ [x]) w := by
  unfold OwnI
  rw [List.map_append, List.length_append]
  exact h
set_option maxRecDepth 100000 in
set_option maxHeartbeats 1000000 in
theorem rfault_no (A : Option Addr) (n cap : Nat) (L : List Vl) (hf : NoF L) (w : World) (hz : ValsR w A n L) :
    Calls Tryz.prog 55 #[.slice A n cap] w fun e w' => e = .returned (.int .i64 (-1)) ∧ w = w' := by
  have HZ := Lib.hid hz
  have HF := Lib.hid hf
  have hn9 := hz.2.1
  clear hz hf
  go_enter Tryz.func55, Tryz.ntmps55
  go_wp2
  go_loopw [3] (fun i wr => ∃ k : Nat, k ≤ n ∧ i = .int .i64 k ∧ w = wr) (fun i _ => n - (intOf i).toNat)
  case atStart => exact ⟨0, Nat.zero_le _, rfl, rfl⟩
  case round =>
    obtain ⟨k, hk, rfl, rfl⟩ := hrel
    by_cases hlt : k < n
    · obtain ⟨v, hv⟩ := HZ.out.get hlt
      obtain ⟨b, o, rfl, hb, c0, _, _⟩ := HZ.out.at hv
      have h4 := HF.out.at hv
      have q1 : (v.k == 4) = false := by simpa using h4
      clear hv
      go_wp2
      go_roundw
      case rel => exact ⟨k + 1, by omega, by go_num, by first | rfl | trivial⟩
      case measure => simp [intOf]; omega
    · obtain rfl : k = n := by omega
      go_wp2
      go_ret
      exact ⟨rfl, rfl⟩
set_option maxRecDepth 100000 in
set_option maxHeartbeats 1000000 in
theorem rfault_yes (A : Option Addr) (n cap : Nat) (L : List Vl) (p : Nat) (x : Vl) (hf : FirstF L p x) (w : World) (hz : ValsR w A n L) :
    Calls Tryz.prog 55 #[.slice A n cap] w fun e w' => e = .returned (.int .i64 (p : Int)) ∧ w = w' := by
  have HZ := Lib.hid hz
  have HF := Lib.hid hf
  have hn9 := hz.2.1
  have hp := hf.lt
  rw [hz.1] at hp
  clear hz hf
  go_enter Tryz.func55, Tryz.ntmps55
  go_wp2
  go_loopw [3] (fun i wr => ∃ k : Nat, k ≤ p ∧ i = .int .i64 k ∧ w = wr) (fun i _ => n - (intOf i).toNat)
  case atStart => exact ⟨0, Nat.zero_le _, rfl, rfl⟩
  case round =>
    obtain ⟨k, hk, rfl, rfl⟩ := hrel
    have hlt : k < n := by omega
    obtain ⟨v, hv⟩ := HZ.out.get hlt
    obtain ⟨b, o, rfl, hb, c0, _, _⟩ := HZ.out.at hv
    by_cases hkp : k < p
    · have h4 := HF.out.2.2 k v hkp hv
      have q1 : (v.k == 4) = false := by simpa using h4
      clear hv
      go_wp2
      go_roundw
      case rel => exact ⟨k + 1, by omega, by go_num, by first | rfl | trivial⟩
      case measure => simp [intOf]; omega
    · obtain rfl : k = p := by omega
      have h4 : v.k = 4 := by
        have := hv.symm.trans HF.out.1
        obtain rfl := Option.some.inj this
        exact HF.out.2.1
      have q1 : (v.k == 4) = true := by simpa using h4
      rw [h4] at c0
      clear hv
      go_wp2
      go_ret
      exact ⟨rfl, rfl⟩
/-- a list's numbers, and the empty value -/
def NumsEnd (xs : List Int) (w : World) (e : Ending) (w' : World) : Prop := ∃ A c, e = .returned (.tuple #[.slice A xs.length c, .agg #[.int .i64 0, .int .i64 0, .string ⟨#[]⟩]]) ∧ IntsR w' A xs ∧ Below w.heap.size w w'
set_option maxRecDepth 100000 in
set_option maxHeartbeats 2000000 in
theorem numbers_no (A : Option Addr) (n cap : Nat) (L : List Vl) (hf : NoF L) (w : World) (hz : ValsR w A n L) :
    Calls Tryz.prog 51 #[.slice A n cap] w (NumsEnd (numsF L) w) := by
  obtain ⟨i0, hi, hz0, hz1, hz2⟩ := info_parts infoI
  have HZ := Lib.hid hz
  have HF := Lib.hid hf
  have hn9 := hz.2.1
  have hb0 := below1 w (.cells #[.int .i64 0, .int .i64 0, .string ⟨#[]⟩] 26)
  have hr := CellsAt.new w [.int .i64 0, .int .i64 0, .string ⟨#[]⟩] 26
  have hrow := World.ownsRow_lit (base := w.heap.size + 1) (e := 2) (size := 1) (w.alloc (.cells #[.int .i64 0, .int .i64 0, .string ⟨#[]⟩] 26)) #[] 0 (by simp) (by simp [maxLen]) rfl
  rw [show (w.alloc (.cells #[.int .i64 0, .int .i64 0, .string ⟨#[]⟩] 26)).heap.size = w.heap.size + 1 by simp] at hrow
  replace hb0 := on_alloc hb0 (.cells #[] 2)
  replace hr := hr.on_alloc (.cells #[] 2)
  clear hz hf
  go_enter Tryz.func51, Tryz.ntmps51
  go_wp2_with fail
  generalize (w.alloc (.cells #[.int .i64 0, .int .i64 0, .string ⟨#[]⟩] 26)).alloc (.cells #[] 2) = W at *
  go_loopw [4, 10] (fun o i wr => ∃ k : Nat, k ≤ n ∧ i = .int .i64 k ∧ OwnI (w.heap.size + 1) o (numsF (L.take k)) wr ∧ Below w.heap.size w wr ∧ CellsAt wr w.heap.size [.int .i64 0, .int .i64 0, .string ⟨#[]⟩]) (fun _ i _ => n - (intOf i).toNat)
  case atStart => exact ⟨0, Nat.zero_le _, rfl, hrow, hb0, hr⟩
  case round =>
    clear hb0 hr hrow
    obtain ⟨k, hk, rfl, hrow, hb0, hr⟩ := hrel
    have hlen : (numsF (L.take k)).length ≤ k := Nat.le_trans (numsF_len _) (by rw [List.length_take]; omega)
    by_cases hlt : k < n
    · obtain ⟨v, hv⟩ := HZ.out.get hlt
      obtain ⟨b, o, rfl, hb, c0, c1, c2⟩ := (HZ.out.on hb0).at hv
      have h4 := HF.out.at hv
      obtain ⟨vk, vn, vt⟩ := v
      dsimp only at c0 c1 c2 h4
      have q4 : (vk == 4) = false := by simpa using h4
      clear h4
      have HV := Lib.hid hv
      have hls : (wr.alloc (.cells #[.int .i64 vk, .int .i64 vn, .string vt] 26)).heap.size = wr.heap.size + 1 := by simp
      have hbx := below1 wr (.cells #[.int .i64 vk, .int .i64 vn, .string vt] 26)
      replace hb0 := on_alloc hb0 (.cells #[.int .i64 vk, .int .i64 vn, .string vt] 26)
      replace hr := hr.on_alloc (.cells #[.int .i64 vk, .int .i64 vn, .string vt] 26)
      replace hrow := hrow.on hbx
      have hx := CellsAt.new wr [.int .i64 vk, .int .i64 vn, .string vt] 26
      obtain ⟨x0, x1, x2, _⟩ := hx.three
      have hs0 := hb0.size
      clear hv hbx
      by_cases h1 : vk = 1
      · have HN : Hid (numsF (L.take (k + 1)) = numsF (L.take k) ++ [vn]) := Lib.hid (numsF_hit HV.out h1)
        subst h1
        clear HV
        generalize numsF (L.take k) = xs at *
        unfold OwnI at hrow
        go_wp2_with (at_builtin; refine wpList_append_own _ rfl _ _ 62 rfl (w.heap.size + 1) 2 i0 (.int .i64 0) 1 8 Tryz.underlying62 hi hz0 hz1 hz2 rfl (by decide) _ _ _ rfl (hrow.alloc _) ⟨_, 0, none⟩ 1 1 [.int .i64 vn] rfl rfl (one_new (by simp) _ _) (one_cells _ rfl) (by unfold maxLen; omega) (by omega) (by simp; omega) ?_)
        intro v1 w2 hown1 hg1 _
        have hb3 := own_below hrow hb0 (by omega) hg1
        have hrow1 := OwnI.snoc vn hown1
        replace hr := cells_grown (hr.on_alloc _) hg1 (own_far hrow (by omega))
        clear hown1 hg1 hrow hb0 c0 c1 c2 x0 x1 x2
        go_wp2
        go_roundw
        case rel => exact ⟨k + 1, by omega, by go_num, by rw [HN.out]; exact hrow1, hb3, hr⟩
        case measure => simp [intOf]; omega
      · have HN : Hid (numsF (L.take (k + 1)) = numsF (L.take k)) := Lib.hid (numsF_miss HV.out h1)
        have q1 : (vk == 1) = false := by simpa using h1
        clear HV
        go_wp2_with fail
        go_roundw
        case rel => exact ⟨k + 1, by omega, by go_num, by rw [HN.out]; exact hrow, hb0, hr⟩
        case measure => simp [intOf]; omega
    · obtain rfl : k = n := by omega
      rw [List.take_of_length_le (by rw [HZ.out.1]; omega)] at hrow hlen
      obtain ⟨A2, c2, rfl, hread⟩ := hrow.reads
      obtain ⟨p0, p1, p2, f0, f1, f2⟩ := hr.three
      obtain ⟨z0, z1, z2⟩ := three_set (u := .int .i64 0) (v := .int .i64 0) (r := .string ⟨#[]⟩) p0 p1 p2
      have hb3 := set3 hb0 (Nat.le_refl _) (.int .i64 0) (.int .i64 0) (.string ⟨#[]⟩)
      have hl := hr.1
      have HR : Hid (IntsR (((wr.setCell ⟨w.heap.size, 0, none⟩ (.int .i64 0)).setCell ⟨w.heap.size, 1, none⟩ (.int .i64 0)).setCell ⟨w.heap.size, 2, none⟩ (.string ⟨#[]⟩)) A2 (numsF L)) := Lib.hid (by
        have h2 := hrow
        obtain ⟨A3, c3, e3, h3⟩ := OwnI.reads (show OwnI (w.heap.size + 1) (.slice A2 (numsF L).length c2) (numsF L) (((wr.setCell ⟨w.heap.size, 0, none⟩ (.int .i64 0)).setCell ⟨w.heap.size, 1, none⟩ (.int .i64 0)).setCell ⟨w.heap.size, 2, none⟩ (.string ⟨#[]⟩)) from
          ownsRow_setCell_below (ownsRow_setCell_below (ownsRow_setCell_below h2 (by simp) _) (by simp) _) (by simp) _)
        simp only [Value.slice.injEq] at e3
        obtain ⟨rfl, _, _⟩ := e3
        exact h3)
      clear hrow hread
      go_wp2_with fail
      exact bodyPost_ret (v := .tuple #[.slice A2 (numsF L).length c2, .agg #[.int .i64 0, .int .i64 0, .string ⟨#[]⟩]]) (by simp [results, Tryz.results51, go_sem, z0, z1, z2]) rfl ⟨A2, c2, rfl, HR.out, hb3⟩
end Go.Proofs.YtbjomidkeignjaaGreatDoor.Fld
namespace Go.Proofs.YtbjomidkeignjaaGreatDoor.Fld
open Go.RowKit Kit Reg Dec Dig Val Txt

theorem drewB (w : World) : Below w.heap.size w w.drew := ⟨rfl, rfl, rfl, Nat.le_refl _, fun _ _ => rfl⟩
set_option maxRecDepth 100000 in
set_option maxHeartbeats 2000000 in
theorem numbers_yes (A : Option Addr) (n cap : Nat) (L : List Vl) (p : Nat) (x : Vl) (hf : FirstF L p x) (w : World) (hz : ValsR w A n L) :
    Calls Tryz.prog 51 #[.slice A n cap] w fun e w' => e = .returned (.tuple #[.slice none 0 0, .agg #[.int .i64 x.k, .int .i64 x.n, .string x.t]]) ∧ Below w.heap.size w w' := by
  obtain ⟨i0, hi, hz0, hz1, hz2⟩ := info_parts infoI
  have HZ := Lib.hid hz
  have HF := Lib.hid hf
  have hn9 := hz.2.1
  have hp := hf.lt
  rw [hz.1] at hp
  have hb0 := below1 w (.cells #[.int .i64 0, .int .i64 0, .string ⟨#[]⟩] 26)
  have hr := CellsAt.new w [.int .i64 0, .int .i64 0, .string ⟨#[]⟩] 26
  have hrow := World.ownsRow_lit (base := w.heap.size + 1) (e := 2) (size := 1) (w.alloc (.cells #[.int .i64 0, .int .i64 0, .string ⟨#[]⟩] 26)) #[] 0 (by simp) (by simp [maxLen]) rfl
  rw [show (w.alloc (.cells #[.int .i64 0, .int .i64 0, .string ⟨#[]⟩] 26)).heap.size = w.heap.size + 1 by simp] at hrow
  replace hb0 := on_alloc hb0 (.cells #[] 2)
  replace hr := hr.on_alloc (.cells #[] 2)
  clear hz hf
  go_enter Tryz.func51, Tryz.ntmps51
  go_wp2_with fail
  generalize (w.alloc (.cells #[.int .i64 0, .int .i64 0, .string ⟨#[]⟩] 26)).alloc (.cells #[] 2) = W at *
  go_loopw [4, 10] (fun o i wr => ∃ k : Nat, k ≤ p ∧ i = .int .i64 k ∧ OwnI (w.heap.size + 1) o (numsF (L.take k)) wr ∧ Below w.heap.size w wr ∧ CellsAt wr w.heap.size [.int .i64 0, .int .i64 0, .string ⟨#[]⟩]) (fun _ i _ => n - (intOf i).toNat)
  case atStart => exact ⟨0, Nat.zero_le _, rfl, hrow, hb0, hr⟩
  case round =>
    clear hb0 hr hrow
    obtain ⟨k, hk, rfl, hrow, hb0, hr⟩ := hrel
    have hlen : (numsF (L.take k)).length ≤ k := Nat.le_trans (numsF_len _) (by rw [List.length_take]; omega)
    have hlt : k < n := by omega
    obtain ⟨v, hv⟩ := HZ.out.get hlt
    obtain ⟨b, o, rfl, hb, c0, c1, c2⟩ := (HZ.out.on hb0).at hv
    have HV := Lib.hid hv
    have h4 : Hid (k < p → ¬ v.k = 4) := Lib.hid fun h => HF.out.2.2 k v h hv
    have hxv : Hid (k = p → v = x) := Lib.hid fun h => by
      subst h
      exact Option.some.inj (hv.symm.trans HF.out.1)
    have hx4 := Lib.hid HF.out.2.1
    obtain ⟨vk, vn, vt⟩ := v
    dsimp only at c0 c1 c2 h4
    have hls : (wr.alloc (.cells #[.int .i64 vk, .int .i64 vn, .string vt] 26)).heap.size = wr.heap.size + 1 := by simp
    have hbx := below1 wr (.cells #[.int .i64 vk, .int .i64 vn, .string vt] 26)
    replace hb0 := on_alloc hb0 (.cells #[.int .i64 vk, .int .i64 vn, .string vt] 26)
    replace hr := hr.on_alloc (.cells #[.int .i64 vk, .int .i64 vn, .string vt] 26)
    replace hrow := hrow.on hbx
    have hx := CellsAt.new wr [.int .i64 vk, .int .i64 vn, .string vt] 26
    obtain ⟨x0, x1, x2, _⟩ := hx.three
    have hs0 := hb0.size
    clear hv hbx
    by_cases hkp : k < p
    · replace h4 := h4.out hkp
      have q4 : (vk == 4) = false := by simpa using h4
      by_cases h1 : vk = 1
      · have HN : Hid (numsF (L.take (k + 1)) = numsF (L.take k) ++ [vn]) := Lib.hid (numsF_hit HV.out h1)
        subst h1
        clear HV hx4 hxv h4
        generalize numsF (L.take k) = xs at *
        unfold OwnI at hrow
        go_wp2_with (at_builtin; refine wpList_append_own _ rfl _ _ 62 rfl (w.heap.size + 1) 2 i0 (.int .i64 0) 1 8 Tryz.underlying62 hi hz0 hz1 hz2 rfl (by decide) _ _ _ rfl (hrow.alloc _) ⟨_, 0, none⟩ 1 1 [.int .i64 vn] rfl rfl (one_new (by simp) _ _) (one_cells _ rfl) (by unfold maxLen; omega) (by omega) (by simp; omega) ?_)
        intro v1 w2 hown1 hg1 _
        have hb3 := own_below hrow hb0 (by omega) hg1
        have hrow1 := OwnI.snoc vn hown1
        replace hr := cells_grown (hr.on_alloc _) hg1 (own_far hrow (by omega))
        clear hown1 hg1 hrow hb0 c0 c1 c2 x0 x1 x2
        go_wp2
        go_roundw
        case rel => exact ⟨k + 1, by omega, by go_num, by rw [HN.out]; exact hrow1, hb3, hr⟩
        case measure => simp [intOf]; omega
      · have HN : Hid (numsF (L.take (k + 1)) = numsF (L.take k)) := Lib.hid (numsF_miss HV.out h1)
        have q1 : (vk == 1) = false := by simpa using h1
        clear HV hx4 hxv h4
        go_wp2_with fail
        go_roundw
        case rel => exact ⟨k + 1, by omega, by go_num, by rw [HN.out]; exact hrow, hb0, hr⟩
        case measure => simp [intOf]; omega
    · obtain rfl : k = p := by omega
      obtain rfl := hxv.out rfl
      obtain rfl : vk = 4 := hx4.out
      obtain ⟨p0, p1, p2, f0, f1, f2⟩ := hr.three
      have l0 := hr.1
      have l1 := hx.1
      clear hrow hx4 hxv HV h4
      go_wp2_with fail
      generalize wr.alloc (.cells #[.int .i64 4, .int .i64 vn, .string vt] 26) = X at *
      clear c0 c1 c2
      go_region
      all_goals (try go_wp2)
      obtain ⟨z0, z1, z2⟩ := three_set (u := .int .i64 4) (v := .int .i64 vn) (r := .string vt) p0 p1 p2
      have hb3 := set3 hb0 (Nat.le_refl _) (.int .i64 4) (.int .i64 vn) (.string vt)
      exact bodyPost_ret (v := .tuple #[.slice none 0 0, .agg #[.int .i64 4, .int .i64 vn, .string vt]]) (by simp [results, Tryz.results51, go_sem, z0, z1, z2]) rfl ⟨rfl, on hb3 (drewB _)⟩
set_option maxRecDepth 100000 in
set_option maxHeartbeats 1000000 in
theorem rnumbers_yes (A : Option Addr) (n cap : Nat) (L : List Vl) (p : Nat) (x : Vl) (hf : FirstF L p x) (w : World) (hz : ValsR w A n L) :
    Calls Tryz.prog 72 #[.slice A n cap] w fun e w' => e = .returned (.slice none 0 0) ∧ Below w.heap.size w w' := by
  have HF := Lib.hid (fun w1 hz => rfault_yes A n cap L p x hf w1 hz)
  have HZ := Lib.hid hz
  clear hz
  go_enter Tryz.func72, Tryz.ntmps72
  go_wp2_with fail
  refine (HF.out _ HZ.out).mono ?_
  rintro e w1 ⟨rfl, rfl⟩
  have d1 : decide ((0 : Int) ≤ (p : Int)) = true := decide_eq_true (by omega)
  go_wp2_with fail
  go_ret
  exact ⟨rfl, Below.refl _ _⟩
set_option maxRecDepth 100000 in
set_option maxHeartbeats 2000000 in
theorem rnumbers_no (A : Option Addr) (n cap : Nat) (L : List Vl) (hf : NoF L) (w : World) (hz : ValsR w A n L) :
    Calls Tryz.prog 72 #[.slice A n cap] w fun e w' => ∃ A2 c, e = .returned (.slice A2 (numsF L).length c) ∧ IntsR w' A2 (numsF L) ∧ Below w.heap.size w w' := by
  obtain ⟨i0, hi, hz0, hz1, hz2⟩ := info_parts infoI
  have HF := Lib.hid (fun w1 hz => rfault_no A n cap L hf w1 hz)
  have HZ := Lib.hid hz
  have hn9 := hz.2.1
  have HL := Lib.hid hz.1
  clear hz
  go_enter Tryz.func72, Tryz.ntmps72
  go_wp2_with fail
  refine (HF.out _ HZ.out).mono ?_
  rintro e w1 ⟨rfl, rfl⟩
  clear HF
  go_wp2_with fail
  go_loopw [3, 4] (fun o i wr => ∃ k : Nat, k ≤ n ∧ i = .int .i64 k ∧ OwnI w.heap.size o (numsF (L.take k)) wr ∧ Below w.heap.size w wr) (fun _ i _ => n - (intOf i).toNat)
  case atStart => exact ⟨0, Nat.zero_le _, rfl, World.ownsRow_nil _ _ _ _, Below.refl _ _⟩
  case round =>
    obtain ⟨k, hk, rfl, hrow, hb0⟩ := hrel
    have hlen : (numsF (L.take k)).length ≤ k := Nat.le_trans (numsF_len _) (by rw [List.length_take]; omega)
    have hs0 := hb0.size
    by_cases hlt : k < n
    · obtain ⟨v, hv⟩ := HZ.out.get hlt
      obtain ⟨b, o, rfl, hb, c0, c1, c2⟩ := (HZ.out.on hb0).at hv
      have HV := Lib.hid hv
      obtain ⟨vk, vn, vt⟩ := v
      dsimp only at c0 c1 c2
      clear hv
      by_cases h1 : vk = 1
      · have HN : Hid (numsF (L.take (k + 1)) = numsF (L.take k) ++ [vn]) := Lib.hid (numsF_hit HV.out h1)
        subst h1
        clear HV
        generalize numsF (L.take k) = xs at *
        unfold OwnI at hrow
        go_wp2_with (at_builtin; refine wpList_append_own _ rfl _ _ 62 rfl w.heap.size 2 i0 (.int .i64 0) 1 8 Tryz.underlying62 hi hz0 hz1 hz2 rfl (by decide) _ _ _ rfl (hrow.alloc _) ⟨_, 0, none⟩ 1 1 [.int .i64 vn] rfl rfl (one_new (by simp) _ _) (one_cells _ rfl) (by unfold maxLen; omega) (by omega) (by simp; omega) ?_)
        intro v1 w2 hown1 hg1 _
        have hb3 := own_below hrow hb0 (Nat.le_refl _) hg1
        have hrow1 := OwnI.snoc vn hown1
        clear hown1 hg1 hrow hb0 c0 c1 c2
        go_wp2
        go_roundw
        case rel => exact ⟨k + 1, by omega, by go_num, by rw [HN.out]; exact hrow1, hb3⟩
        case measure => simp [intOf]; omega
      · have HN : Hid (numsF (L.take (k + 1)) = numsF (L.take k)) := Lib.hid (numsF_miss HV.out h1)
        have q1 : (vk == 1) = false := by simpa using h1
        clear HV
        go_wp2_with fail
        go_roundw
        case rel => exact ⟨k + 1, by omega, by go_num, by rw [HN.out]; exact hrow, hb0⟩
        case measure => simp [intOf]; omega
    · obtain rfl : k = n := by omega
      rw [List.take_of_length_le (by rw [HL.out]; omega)] at hrow hlen
      obtain ⟨A2, c2, rfl, hread⟩ := hrow.reads
      clear hrow
      go_wp2_with fail
      go_ret
      exact ⟨A2, c2, rfl, hread, hb0⟩
set_option maxRecDepth 100000 in
set_option maxHeartbeats 2000000 in
theorem right_yes (A : Option Addr) (n cap : Nat) (L : List Vl) (hn : n ≤ 200) (hm : ∀ v ∈ L, v.may) (w : World) (hz : ValsR w A n L) :
    Calls Tryz.prog 33 #[.slice A n cap, .int .i64 200] w fun e w' => e = .returned (.bool true) ∧ Below w.heap.size w w' := by
  have HZ := Lib.hid hz
  have HM : Hid (∀ k (v : Vl), L[k]? = some v → v.may) := Lib.hid fun k v hv => hm v (List.mem_of_getElem? hv)
  have d1 : decide ((200 : Int) < (n : Int)) = false := decide_eq_false (by omega)
  have d2 : decide (200 < n) = false := decide_eq_false (by omega)
  have HR := Lib.hid (fun k n t (h : mayV k n t = true) w1 => rmayv_c k n t true h w1)
  clear hz hm
  go_enter Tryz.func33, Tryz.ntmps33
  go_wp2_with fail
  go_loopw [5] (fun i wr => ∃ k : Nat, k ≤ n ∧ i = .int .i64 k ∧ Below w.heap.size w wr) (fun i _ => n - (intOf i).toNat)
  case atStart => exact ⟨0, Nat.zero_le _, rfl, Below.refl _ _⟩
  case round =>
    obtain ⟨k, hk, rfl, hb0⟩ := hrel
    by_cases hlt : k < n
    · obtain ⟨v, hv⟩ := HZ.out.get hlt
      obtain ⟨b, o, rfl, hb, c0, c1, c2⟩ := (HZ.out.on hb0).at hv
      have hm := HM.out k v hv
      obtain ⟨vk, vn, vt⟩ := v
      dsimp only at c0 c1 c2
      have HR2 := Lib.hid (HR.out vk vn vt hm)
      clear hv hm HR
      go_wp2_with fail
      refine (HR2.out _).mono ?_
      rintro e w1 ⟨rfl, hb1⟩
      replace hb0 := on hb0 hb1
      clear hb1 HR2 c0 c1 c2
      go_wp2_with fail
      go_roundw
      case rel => exact ⟨k + 1, by omega, by go_num, hb0⟩
      case measure => simp [intOf]; omega
    · obtain rfl : k = n := by omega
      clear HR
      go_wp2_with fail
      go_ret
      exact ⟨rfl, hb0⟩
/-- a list that may not be: too long, or a value in it that may not be -/
theorem may_or : ∀ L : List Vl, (∀ v ∈ L, v.may) ∨ ∃ (p : Nat) (x : Vl), L[p]? = some x ∧ ¬ x.may ∧ ∀ i (u : Vl), i < p → L[i]? = some u → u.may
  | [] => .inl fun v h => by cases h
  | u :: r => by
    by_cases h : u.may
    · rcases may_or r with h1 | ⟨p, v, h1, h2, h3⟩
      · exact .inl fun v hv => by
          rcases List.mem_cons.1 hv with rfl | hv
          · exact h
          · exact h1 v hv
      · refine .inr ⟨p + 1, v, by simpa using h1, h2, fun i x hi hx => ?_⟩
        cases i with
        | zero => simp at hx; subst hx; exact h
        | succ i => exact h3 i x (by omega) (by simpa using hx)
    · exact .inr ⟨0, u, rfl, h, fun i x hi => by omega⟩
set_option maxRecDepth 100000 in
set_option maxHeartbeats 2000000 in
theorem right_no (A : Option Addr) (n cap : Nat) (L : List Vl) (hn : n ≤ 200) (p : Nat) (x : Vl) (hp : L[p]? = some x) (hx : ¬ x.may) (hm : ∀ i (u : Vl), i < p → L[i]? = some u → u.may) (w : World) (hz : ValsR w A n L) :
    Calls Tryz.prog 33 #[.slice A n cap, .int .i64 200] w fun e w' => e = .returned (.bool false) ∧ Below w.heap.size w w' := by
  have HZ := Lib.hid hz
  have HM := Lib.hid hm
  have HP := Lib.hid hp
  have HX := Lib.hid hx
  have hpn : p < n := by have := (List.getElem?_eq_some_iff.1 hp).1; rw [hz.1] at this; exact this
  have d1 : decide ((200 : Int) < (n : Int)) = false := decide_eq_false (by omega)
  have d2 : decide (200 < n) = false := decide_eq_false (by omega)
  have HR := Lib.hid (fun k n t b (h : mayV k n t = b) w1 => rmayv_c k n t b h w1)
  clear hz hm hp hx
  go_enter Tryz.func33, Tryz.ntmps33
  go_wp2_with fail
  go_loopw [5] (fun i wr => ∃ k : Nat, k ≤ p ∧ i = .int .i64 k ∧ Below w.heap.size w wr) (fun i _ => n - (intOf i).toNat)
  case atStart => exact ⟨0, Nat.zero_le _, rfl, Below.refl _ _⟩
  case round =>
    obtain ⟨k, hk, rfl, hb0⟩ := hrel
    have hlt : k < n := by omega
    obtain ⟨v, hv⟩ := HZ.out.get hlt
    obtain ⟨b, o, rfl, hb, c0, c1, c2⟩ := (HZ.out.on hb0).at hv
    have hyes : Hid (k < p → v.may) := Lib.hid fun h => HM.out k v h hv
    have hno : Hid (k = p → ¬ v.may) := Lib.hid fun h => by
      subst h
      obtain rfl := Option.some.inj (hv.symm.trans HP.out)
      exact HX.out
    clear HM HP HX hv
    obtain ⟨vk, vn, vt⟩ := v
    dsimp only at c0 c1 c2
    by_cases hkp : k < p
    · have HR2 := Lib.hid (HR.out vk vn vt true (hyes.out hkp))
      clear HR hyes hno
      go_wp2_with fail
      refine (HR2.out _).mono ?_
      rintro e w1 ⟨rfl, hb1⟩
      replace hb0 := on hb0 hb1
      clear hb1 HR2 c0 c1 c2
      go_wp2_with fail
      go_roundw
      case rel => exact ⟨k + 1, by omega, by go_num, hb0⟩
      case measure => simp [intOf]; omega
    · obtain rfl : k = p := by omega
      have HR2 := Lib.hid (HR.out vk vn vt false (Bool.eq_false_iff.2 (hno.out rfl)))
      clear HR hyes hno
      go_wp2_with fail
      refine (HR2.out _).mono ?_
      rintro e w1 ⟨rfl, hb1⟩
      replace hb0 := on hb0 hb1
      clear hb1 HR2 c0 c1 c2
      go_wp2_with fail
      go_ret
      exact ⟨rfl, hb0⟩
set_option maxRecDepth 100000 in
theorem right_long (A : Option Addr) (n cap : Nat) (hn : 200 < n) (w : World) :
    Calls Tryz.prog 33 #[.slice A n cap, .int .i64 200] w fun e w' => e = .returned (.bool false) ∧ Below w.heap.size w w' := by
  have d1 : decide ((200 : Int) < (n : Int)) = true := decide_eq_true (by omega)
  go_enter Tryz.func33, Tryz.ntmps33
  go_wp2_with fail
  go_ret
  exact ⟨rfl, Below.refl _ _⟩
end Go.Proofs.YtbjomidkeignjaaGreatDoor.Fld
