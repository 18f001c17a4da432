/- Values taken as numbers, as texts: the program's numbers and texts. Written by wip/gen21b.py. -/
import Derived.Test.YtebjedbppiphgaaGreatDoorKtu27
import Derived.Test.YtebjedbppiphgaaGreatDoorKtu24
import Derived.Test.YtebjedbppiphgaaGreatDoorKtu30
namespace Go.Proofs.YtebjedbppiphgaaGreatDoor.Cal
open Go.RowKit Kit Reg Dec Dig Val Fld
open Txt (StrsO)
open Lok (own_more flatV_one vals_cells vals_addr infoV flatV_append)
def numN (v : Vl) : Int := (numT v).n
theorem map_at {α β : Type} {f : α → β} {L : List α} {k : Nat} {v : α} (h : L[k]? = some v) : (L.take (k + 1)).map f = (L.take k).map f ++ [f v] := by
  rw [List.take_add_one, h]
  simp
/-- a fault among values that are taken: no list, and the fault -/
def FaultGot (x : Vl) (w : World) (e : Ending) (w' : World) : Prop := e = .returned (.tuple #[.slice none 0 0, .agg #[.int .i64 x.k, .int .i64 x.n, .string x.t]]) ∧ Below w.heap.size w w'
/-- the texts, and the empty value -/
def TextsGot (ls : List (List UInt8)) (w : World) (e : Ending) (w' : World) : Prop := ∃ A c, e = .returned (.tuple #[.slice A ls.length c, .agg #[.int .i64 0, .int .i64 0, .string ⟨#[]⟩]]) ∧ StrsO w' A ls ∧ Below w.heap.size w w'
set_option maxRecDepth 100000 in
set_option maxHeartbeats 4000000 in
theorem numbers_walk (A : Option Addr) (n cap : Nat) (L : List Vl) (hok : ∀ v ∈ L, Ok v) (p : Nat) (hp : p ≤ n) (hno : ∀ (k : Nat) (v : Vl), k < p → L[k]? = some v → ¬ (numT v).k = 4) (hf : p < n → ∃ v, L[p]? = some v ∧ (numT v).k = 4) (w : World) (hz : ValsR w A n L) (hL : Dig.Libs w) :
    Calls Tryz.prog 77 #[.slice A n cap] w fun e w' => (p = n → NumsCap (L.map numN) w e w') ∧ (∀ v, p < n → L[p]? = some v → FaultGot (numT v) w e w') := by
  obtain ⟨i0, hi, hz0, hz1, hz2⟩ := info_parts infoI
  have HZ := Lib.hid hz
  have HO : Hid (∀ (k : Nat) (v : Vl), L[k]? = some v → Ok v) := Lib.hid fun k v hv => hok v (List.mem_of_getElem? hv)
  have HNo := Lib.hid hno
  have HF := Lib.hid hf
  have HT : Hid (∀ v, Ok v → ∀ w1, Dig.Libs w1 → Calls Tryz.prog 19 #[.agg #[.int .i64 v.k, .int .i64 v.n, .string v.t]] w1 (IsV (numT v) w1)) := Lib.hid (fun v hv w1 hL => num_c v hv w1 hL)
  have HIn : Hid (∀ x w1, Calls Tryz.prog 42 #[.agg #[.int .i64 1, .int .i64 x, .string ⟨#[]⟩]] w1 fun e w' => e = .returned (.bool false) ∧ Below w1.heap.size w1 w') := Lib.hid (fun _ w1 => isfault_v _ _ _ false rfl w1)
  have HIy : Hid (∀ c w1, Calls Tryz.prog 42 #[.agg #[.int .i64 4, .int .i64 c, .string ⟨#[]⟩]] w1 fun e w' => e = .returned (.bool true) ∧ Below w1.heap.size w1 w') := Lib.hid (fun c w1 => isfault_v 4 c ⟨#[]⟩ true rfl w1)
  have hn9 := hz.2.1
  have HLn := Lib.hid hz.1
  have hb0 := below1 w (.cells #[.int .i64 0, .int .i64 0, .string ⟨#[]⟩] 23)
  have hr := CellsAt.new w [.int .i64 0, .int .i64 0, .string ⟨#[]⟩] 23
  have hrow := World.ownsRow_lit (base := w.heap.size + 1) (e := 2) (size := 1) (w.alloc (.cells #[.int .i64 0, .int .i64 0, .string ⟨#[]⟩] 23)) #[] 0 (by simp) (by simp [maxLen]) rfl
  rw [show (w.alloc (.cells #[.int .i64 0, .int .i64 0, .string ⟨#[]⟩] 23)).heap.size = w.heap.size + 1 by simp] at hrow
  replace hb0 := on_alloc hb0 (.cells #[] 2)
  replace hr := hr.on_alloc (.cells #[] 2)
  have HLib := Lib.hid hL
  clear hz hf hok hno hL
  go_enter Tryz.func77, Tryz.ntmps77
  go_wp2_with fail
  generalize (w.alloc (.cells #[.int .i64 0, .int .i64 0, .string ⟨#[]⟩] 23)).alloc (.cells #[] 2) = W at *
  go_loopw [4, 11] (fun o i wr => ∃ k : Nat, k ≤ p ∧ i = .int .i64 k ∧ OwnI (w.heap.size + 1) o ((L.take k).map numN) wr ∧ Below w.heap.size w wr ∧ CellsAt wr w.heap.size [.int .i64 0, .int .i64 0, .string ⟨#[]⟩]) (fun _ i _ => n - (intOf i).toNat)
  case atStart => exact ⟨0, Nat.zero_le _, rfl, hrow, hb0, hr⟩
  case round =>
    clear hb0 hr hrow
    obtain ⟨k, hk, rfl, hrow, hb0, hr⟩ := hrel
    have hlen : ((L.take k).map numN).length ≤ k := by rw [List.length_map, List.length_take]; omega
    by_cases hlt : k < n
    · obtain ⟨v, hv⟩ := HZ.out.get hlt
      obtain ⟨b9, o, rfl, hb, c0, c1, c2⟩ := (HZ.out.on hb0).at hv
      have hvo := HO.out k v hv
      have HT2 := Lib.hid (HT.out v hvo)
      have hx := CellsAt.new wr [.int .i64 v.k, .int .i64 v.n, .string v.t] 23
      obtain ⟨x0, x1, x2, _⟩ := hx.three
      have hbx := below1 wr (.cells #[.int .i64 v.k, .int .i64 v.n, .string v.t] 23)
      replace hb0 := on_alloc hb0 (.cells #[.int .i64 v.k, .int .i64 v.n, .string v.t] 23)
      replace hr := hr.on hbx
      replace hrow := hrow.on hbx
      have HLib2 := Lib.hid (HLib.out.grown hb0)
      clear hbx HT
      by_cases hkp : k < p
      · obtain ⟨x, hxe⟩ : ∃ x, numT v = nV x := by
          rcases num_ways hvo with ⟨x, hx, _⟩ | ⟨c, hc, _⟩
          · exact ⟨x, hx⟩
          · exact absurd (by rw [hc]; rfl) (HNo.out k v hkp hv)
        have HN : Hid ((L.take (k + 1)).map numN = (L.take k).map numN ++ [x]) := Lib.hid (by rw [map_at hv]; unfold numN; rw [hxe]; rfl)
        rw [hxe] at HT2
        have HT3 : Hid (∀ w1, Dig.Libs w1 → Calls Tryz.prog 19 #[.agg #[.int .i64 v.k, .int .i64 v.n, .string v.t]] w1 fun e w' => e = .returned (.agg #[.int .i64 1, .int .i64 x, .string ⟨#[]⟩]) ∧ Below w1.heap.size w1 w') := HT2
        clear HT2 hv hvo hxe HO HNo HF HIy
        obtain ⟨vk, vn, vt⟩ := v
        dsimp only at c0 c1 c2 HT3 HLib2 hr hrow hb0 hx x0 x1 x2
        go_wp2_with fail
        generalize wr.alloc (.cells #[.int .i64 vk, .int .i64 vn, .string vt] 23) = X at *
        refine (HT3.out _ HLib2.out).mono ?_
        rintro e w1 ⟨rfl, hb1⟩
        replace hb0 := on_alloc (on hb0 hb1) (.cells #[.int .i64 1, .int .i64 x, .string ⟨#[]⟩] 23)
        replace hr := (hr.on hb1).on_alloc (.cells #[.int .i64 1, .int .i64 x, .string ⟨#[]⟩] 23)
        replace hrow := (hrow.on hb1).on (below1 w1 (.cells #[.int .i64 1, .int .i64 x, .string ⟨#[]⟩] 23))
        clear hb1 HT3 HLib2 hx x0 x1 x2 c0 c1 c2
        have hx := CellsAt.new w1 [.int .i64 1, .int .i64 x, .string ⟨#[]⟩] 23
        obtain ⟨x0, x1, x2, _⟩ := hx.three
        go_wp2_with fail
        generalize w1.alloc (.cells #[.int .i64 1, .int .i64 x, .string ⟨#[]⟩] 23) = X1 at *
        refine (HIn.out _ _).mono ?_
        rintro e w2 ⟨rfl, hb1⟩
        replace hb0 := on hb0 hb1
        replace hr := hr.on hb1
        replace hrow := hrow.on hb1
        replace hx := hx.on hb1
        clear hb1 x0 x1 x2
        obtain ⟨x0, x1, x2, _⟩ := hx.three
        have hs0 := hb0.size
        generalize (L.take k).map numN = xs at *
        unfold OwnI at hrow
        go_wp2_with (at_builtin; refine wpList_append_own _ rfl _ _ 85 rfl (w.heap.size + 1) 2 i0 (.int .i64 0) 1 8 Tryz.underlying85 hi hz0 hz1 hz2 rfl (by decide) _ _ _ rfl (hrow.alloc _) ⟨_, 0, none⟩ 1 1 [.int .i64 x] rfl rfl (one_new (by simp) _ _) (one_cells _ rfl) (by unfold maxLen; omega) (by omega) (by simp; omega) ?_)
        intro v1 w3 hown1 hg1 _
        have hb3 := own_below hrow hb0 (by omega) hg1
        have hrow1 := OwnI.snoc x hown1
        replace hr := cells_grown (hr.on_alloc _) hg1 (own_far hrow (by omega))
        clear hown1 hg1 hrow hb0 hx x0 x1 x2 hs0
        go_wp2
        go_roundw
        case rel => exact ⟨k + 1, by omega, by go_num, by rw [HN.out]; exact hrow1, hb3, hr⟩
        case measure => simp [intOf]; omega
      · obtain rfl : k = p := by omega
        obtain ⟨c, hxe⟩ : ∃ c, numT v = fV c := by
          obtain ⟨v', hv', h4⟩ := HF.out hlt
          obtain rfl := Option.some.inj (hv.symm.trans hv')
          rcases num_ways hvo with ⟨x, hx, _⟩ | ⟨c, hc, _⟩
          · rw [hx] at h4
            simp [nV] at h4
          · exact ⟨c, hc⟩
        have HQ : Hid (∀ e w', FaultGot (fV c) w e w' → (k = n → NumsCap (L.map numN) w e w') ∧ (∀ v, k < n → L[k]? = some v → FaultGot (numT v) w e w')) := Lib.hid fun e w' h => ⟨fun e => by omega, fun v' _ hv' => by
          obtain rfl := Option.some.inj (hv.symm.trans hv')
          rw [hxe]
          exact h⟩
        rw [hxe] at HT2
        have HT3 : Hid (∀ w1, Dig.Libs w1 → Calls Tryz.prog 19 #[.agg #[.int .i64 v.k, .int .i64 v.n, .string v.t]] w1 fun e w' => e = .returned (.agg #[.int .i64 4, .int .i64 c, .string ⟨#[]⟩]) ∧ Below w1.heap.size w1 w') := HT2
        clear HT2 hv hvo hxe HO HNo HF HIn hrow hlen
        obtain ⟨vk, vn, vt⟩ := v
        dsimp only at c0 c1 c2 HT3 HLib2 hr hb0 hx x0 x1 x2
        go_wp2_with fail
        generalize wr.alloc (.cells #[.int .i64 vk, .int .i64 vn, .string vt] 23) = X at *
        refine (HT3.out _ HLib2.out).mono ?_
        rintro e w1 ⟨rfl, hb1⟩
        replace hb0 := on_alloc (on hb0 hb1) (.cells #[.int .i64 4, .int .i64 c, .string ⟨#[]⟩] 23)
        replace hr := (hr.on hb1).on_alloc (.cells #[.int .i64 4, .int .i64 c, .string ⟨#[]⟩] 23)
        clear hb1 HT3 HLib2 hx x0 x1 x2 c0 c1 c2
        have hx := CellsAt.new w1 [.int .i64 4, .int .i64 c, .string ⟨#[]⟩] 23
        obtain ⟨x0, x1, x2, _⟩ := hx.three
        go_wp2_with fail
        generalize w1.alloc (.cells #[.int .i64 4, .int .i64 c, .string ⟨#[]⟩] 23) = X1 at *
        refine (HIy.out _ _).mono ?_
        rintro e w2 ⟨rfl, hb1⟩
        replace hb0 := on hb0 hb1
        replace hr := hr.on hb1
        replace hx := hx.on hb1
        clear hb1 x0 x1 x2
        obtain ⟨x0, x1, x2, _⟩ := hx.three
        obtain ⟨p0, p1, p2, f0, f1, f2⟩ := hr.three
        have l0 := hr.1
        have l1 := hx.1
        clear hx
        go_wp2_with fail
        go_region
        all_goals (try go_wp2)
        obtain ⟨z0, z1, z2⟩ := three_set (u := .int .i64 4) (v := .int .i64 c) (r := .string ⟨#[]⟩) p0 p1 p2
        have hb3 := set3 hb0 (Nat.le_refl _) (.int .i64 4) (.int .i64 c) (.string ⟨#[]⟩)
        exact bodyPost_ret (v := .tuple #[.slice none 0 0, .agg #[.int .i64 4, .int .i64 c, .string ⟨#[]⟩]]) (by simp [results, Tryz.results77, go_sem, z0, z1, z2]) rfl (HQ.out _ _ ⟨rfl, on hb3 (drewB _)⟩)
    · obtain rfl : k = n := by omega
      obtain rfl : p = k := by omega
      rw [List.take_of_length_le (by rw [HLn.out]; omega)] at hrow hlen
      obtain ⟨⟨g0, p0, p1, p2, q0, q1, q2⟩, ⟨z0, z1, z2⟩, hb3⟩ := val_ends hr hb0 (Nat.le_refl _) (.int .i64 0) (.int .i64 0) (.string ⟨#[]⟩)
      have hrow2 : OwnI (w.heap.size + 1) _ (L.map numN) (((wr.setCell ⟨w.heap.size, 0, none⟩ (.int .i64 0)).setCell ⟨w.heap.size, 1, none⟩ (.int .i64 0)).setCell ⟨w.heap.size, 2, none⟩ (.string ⟨#[]⟩)) :=
        ownsRow_setCell_below (ownsRow_setCell_below (ownsRow_setCell_below hrow (by simp) _) (by simp) _) (by simp) _
      obtain ⟨A2, c2, rfl, hread⟩ := hrow2.reads
      have hcap := hrow2.none_
      have HRd := Lib.hid hread
      clear hrow hrow2 hread hr hb0
      go_wp2_with fail
      exact bodyPost_ret (v := .tuple #[.slice A2 (L.map numN).length c2, .agg #[.int .i64 0, .int .i64 0, .string ⟨#[]⟩]]) (by simp [results, Tryz.results77, go_sem, z0, z1, z2]) rfl ⟨A2, c2, rfl, ⟨HRd.out, hcap⟩, hb3⟩
set_option maxRecDepth 100000 in
set_option maxHeartbeats 4000000 in
theorem texts_walk (A : Option Addr) (n cap : Nat) (L : List Vl) (hok : ∀ v ∈ L, Ok v) (p : Nat) (hp : p ≤ n) (hno : ∀ (k : Nat) (v : Vl), k < p → L[k]? = some v → ¬ (txtT v).k = 4) (hf : p < n → ∃ v, L[p]? = some v ∧ (txtT v).k = 4) (w : World) (hz : ValsR w A n L) (hL : Dig.Libs w) :
    Calls Tryz.prog 84 #[.slice A n cap] w fun e w' => (p = n → TextsGot (L.map wordsF) w e w') ∧ (∀ v, p < n → L[p]? = some v → FaultGot (txtT v) w e w') := by
  obtain ⟨i0, hi, hz0, hz1, hz2⟩ := info_parts infoT
  have HZ := Lib.hid hz
  have HO : Hid (∀ (k : Nat) (v : Vl), L[k]? = some v → Ok v) := Lib.hid fun k v hv => hok v (List.mem_of_getElem? hv)
  have HNo := Lib.hid hno
  have HF := Lib.hid hf
  have HT : Hid (∀ v, Ok v → ∀ w1, Dig.Libs w1 → Calls Tryz.prog 112 #[.agg #[.int .i64 v.k, .int .i64 v.n, .string v.t]] w1 (IsV (txtT v) w1)) := Lib.hid (fun v hv w1 hL => txt_c v hv w1 hL)
  have HIn : Hid (∀ y w1, Calls Tryz.prog 42 #[.agg #[.int .i64 2, .int .i64 0, .string y]] w1 fun e w' => e = .returned (.bool false) ∧ Below w1.heap.size w1 w') := Lib.hid (fun _ w1 => isfault_v _ _ _ false rfl w1)
  have HIy : Hid (∀ c w1, Calls Tryz.prog 42 #[.agg #[.int .i64 4, .int .i64 c, .string ⟨#[]⟩]] w1 fun e w' => e = .returned (.bool true) ∧ Below w1.heap.size w1 w') := Lib.hid (fun c w1 => isfault_v 4 c ⟨#[]⟩ true rfl w1)
  have hn9 := hz.2.1
  have HLn := Lib.hid hz.1
  have hb0 := below1 w (.cells #[.int .i64 0, .int .i64 0, .string ⟨#[]⟩] 23)
  have hr := CellsAt.new w [.int .i64 0, .int .i64 0, .string ⟨#[]⟩] 23
  have hrow := World.ownsRow_lit (base := w.heap.size + 1) (e := 9) (size := 1) (w.alloc (.cells #[.int .i64 0, .int .i64 0, .string ⟨#[]⟩] 23)) #[] 0 (by simp) (by simp [maxLen]) rfl
  rw [show (w.alloc (.cells #[.int .i64 0, .int .i64 0, .string ⟨#[]⟩] 23)).heap.size = w.heap.size + 1 by simp] at hrow
  replace hb0 := on_alloc hb0 (.cells #[] 9)
  replace hr := hr.on_alloc (.cells #[] 9)
  have HLib := Lib.hid hL
  clear hz hf hok hno hL
  go_enter Tryz.func84, Tryz.ntmps84
  go_wp2_with fail
  generalize (w.alloc (.cells #[.int .i64 0, .int .i64 0, .string ⟨#[]⟩] 23)).alloc (.cells #[] 9) = W at *
  go_loopw [4, 11] (fun o i wr => ∃ k : Nat, k ≤ p ∧ i = .int .i64 k ∧ OwnT (w.heap.size + 1) o ((L.take k).map wordsF) wr ∧ Below w.heap.size w wr ∧ CellsAt wr w.heap.size [.int .i64 0, .int .i64 0, .string ⟨#[]⟩]) (fun _ i _ => n - (intOf i).toNat)
  case atStart => exact ⟨0, Nat.zero_le _, rfl, hrow, hb0, hr⟩
  case round =>
    clear hb0 hr hrow
    obtain ⟨k, hk, rfl, hrow, hb0, hr⟩ := hrel
    have hlen : ((L.take k).map wordsF).length ≤ k := by rw [List.length_map, List.length_take]; omega
    by_cases hlt : k < n
    · obtain ⟨v, hv⟩ := HZ.out.get hlt
      obtain ⟨b9, o, rfl, hb, c0, c1, c2⟩ := (HZ.out.on hb0).at hv
      have hvo := HO.out k v hv
      have HT2 := Lib.hid (HT.out v hvo)
      have hx := CellsAt.new wr [.int .i64 v.k, .int .i64 v.n, .string v.t] 23
      obtain ⟨x0, x1, x2, _⟩ := hx.three
      have hbx := below1 wr (.cells #[.int .i64 v.k, .int .i64 v.n, .string v.t] 23)
      replace hb0 := on_alloc hb0 (.cells #[.int .i64 v.k, .int .i64 v.n, .string v.t] 23)
      replace hr := hr.on hbx
      replace hrow := hrow.on hbx
      have HLib2 := Lib.hid (HLib.out.grown hb0)
      clear hbx HT
      by_cases hkp : k < p
      · have hxe : txtT v = sV (wordsF v) := by
          rcases txt_ways hvo with ⟨l, hl, _, hw, _⟩ | ⟨c, hc, _⟩
          · rw [← hw]; exact hl
          · exact absurd (by rw [hc]; rfl) (HNo.out k v hkp hv)
        have HN : Hid ((L.take (k + 1)).map wordsF = (L.take k).map wordsF ++ [wordsF v]) := Lib.hid (map_at hv)
        rw [hxe] at HT2
        obtain ⟨y, hy⟩ : ∃ y : ByteArray, y = ⟨(wordsF v).toArray⟩ := ⟨_, rfl⟩
        rw [show sV (wordsF v) = ⟨2, 0, y⟩ by rw [hy]; rfl] at HT2
        replace hy := Lib.hid hy
        generalize wordsF v = xw at *
        have HT3 : Hid (∀ w1, Dig.Libs w1 → Calls Tryz.prog 112 #[.agg #[.int .i64 v.k, .int .i64 v.n, .string v.t]] w1 fun e w' => e = .returned (.agg #[.int .i64 2, .int .i64 0, .string y]) ∧ Below w1.heap.size w1 w') := HT2
        clear HT2 hv hvo hxe HO HNo HF HIy
        obtain ⟨vk, vn, vt⟩ := v
        dsimp only at c0 c1 c2 HT3 HLib2 hr hrow hb0 hx x0 x1 x2
        go_wp2_with fail
        generalize wr.alloc (.cells #[.int .i64 vk, .int .i64 vn, .string vt] 23) = X at *
        refine (HT3.out _ HLib2.out).mono ?_
        rintro e w1 ⟨rfl, hb1⟩
        replace hb0 := on_alloc (on hb0 hb1) (.cells #[.int .i64 2, .int .i64 0, .string y] 23)
        replace hr := (hr.on hb1).on_alloc (.cells #[.int .i64 2, .int .i64 0, .string y] 23)
        replace hrow := (hrow.on hb1).on (below1 w1 (.cells #[.int .i64 2, .int .i64 0, .string y] 23))
        clear hb1 HT3 HLib2 hx x0 x1 x2 c0 c1 c2
        have hx := CellsAt.new w1 [.int .i64 2, .int .i64 0, .string y] 23
        obtain ⟨x0, x1, x2, _⟩ := hx.three
        go_wp2_with fail
        generalize w1.alloc (.cells #[.int .i64 2, .int .i64 0, .string y] 23) = X1 at *
        refine (HIn.out _ _).mono ?_
        rintro e w2 ⟨rfl, hb1⟩
        replace hb0 := on hb0 hb1
        replace hr := hr.on hb1
        replace hrow := hrow.on hb1
        replace hx := hx.on hb1
        clear hb1 x0 x1 x2
        obtain ⟨x0, x1, x2, _⟩ := hx.three
        have hs0 := hb0.size
        generalize (L.take k).map wordsF = xs at *
        unfold OwnT at hrow
        go_wp2_with (at_builtin; refine wpList_append_own _ rfl _ _ 61 rfl (w.heap.size + 1) 9 i0 (.string ⟨#[]⟩) 1 16 Tryz.underlying61 hi hz0 hz1 hz2 rfl (by decide) _ _ _ rfl (hrow.alloc _) ⟨_, 0, none⟩ 1 1 [.string y] rfl rfl (one_new (by simp) _ _) (one_cells _ rfl) (by unfold maxLen; omega) (by omega) (by simp; omega) ?_)
        intro v1 w3 hown1 hg1 _
        have hb3 := own_below hrow hb0 (by omega) hg1
        have hrow1 := OwnT.snoc hy hown1
        replace hr := cells_grown (hr.on_alloc _) hg1 (own_far hrow (by omega))
        clear hown1 hg1 hrow hb0 hx x0 x1 x2 hs0
        go_wp2
        go_roundw
        case rel => exact ⟨k + 1, by omega, by go_num, by rw [HN.out]; exact hrow1, hb3, hr⟩
        case measure => simp [intOf]; omega
      · obtain rfl : k = p := by omega
        obtain ⟨c, hxe⟩ : ∃ c, txtT v = fV c := by
          obtain ⟨v', hv', h4⟩ := HF.out hlt
          obtain rfl := Option.some.inj (hv.symm.trans hv')
          rcases txt_ways hvo with ⟨x, hx, _⟩ | ⟨c, hc, _⟩
          · rw [hx] at h4
            simp [sV] at h4
          · exact ⟨c, hc⟩
        have HQ : Hid (∀ e w', FaultGot (fV c) w e w' → (k = n → TextsGot (L.map wordsF) w e w') ∧ (∀ v, k < n → L[k]? = some v → FaultGot (txtT v) w e w')) := Lib.hid fun e w' h => ⟨fun e => by omega, fun v' _ hv' => by
          obtain rfl := Option.some.inj (hv.symm.trans hv')
          rw [hxe]
          exact h⟩
        rw [hxe] at HT2
        have HT3 : Hid (∀ w1, Dig.Libs w1 → Calls Tryz.prog 112 #[.agg #[.int .i64 v.k, .int .i64 v.n, .string v.t]] w1 fun e w' => e = .returned (.agg #[.int .i64 4, .int .i64 c, .string ⟨#[]⟩]) ∧ Below w1.heap.size w1 w') := HT2
        clear HT2 hv hvo hxe HO HNo HF HIn hrow hlen
        obtain ⟨vk, vn, vt⟩ := v
        dsimp only at c0 c1 c2 HT3 HLib2 hr hb0 hx x0 x1 x2
        go_wp2_with fail
        generalize wr.alloc (.cells #[.int .i64 vk, .int .i64 vn, .string vt] 23) = X at *
        refine (HT3.out _ HLib2.out).mono ?_
        rintro e w1 ⟨rfl, hb1⟩
        replace hb0 := on_alloc (on hb0 hb1) (.cells #[.int .i64 4, .int .i64 c, .string ⟨#[]⟩] 23)
        replace hr := (hr.on hb1).on_alloc (.cells #[.int .i64 4, .int .i64 c, .string ⟨#[]⟩] 23)
        clear hb1 HT3 HLib2 hx x0 x1 x2 c0 c1 c2
        have hx := CellsAt.new w1 [.int .i64 4, .int .i64 c, .string ⟨#[]⟩] 23
        obtain ⟨x0, x1, x2, _⟩ := hx.three
        go_wp2_with fail
        generalize w1.alloc (.cells #[.int .i64 4, .int .i64 c, .string ⟨#[]⟩] 23) = X1 at *
        refine (HIy.out _ _).mono ?_
        rintro e w2 ⟨rfl, hb1⟩
        replace hb0 := on hb0 hb1
        replace hr := hr.on hb1
        replace hx := hx.on hb1
        clear hb1 x0 x1 x2
        obtain ⟨x0, x1, x2, _⟩ := hx.three
        obtain ⟨p0, p1, p2, f0, f1, f2⟩ := hr.three
        have l0 := hr.1
        have l1 := hx.1
        clear hx
        go_wp2_with fail
        go_region
        all_goals (try go_wp2)
        obtain ⟨z0, z1, z2⟩ := three_set (u := .int .i64 4) (v := .int .i64 c) (r := .string ⟨#[]⟩) p0 p1 p2
        have hb3 := set3 hb0 (Nat.le_refl _) (.int .i64 4) (.int .i64 c) (.string ⟨#[]⟩)
        exact bodyPost_ret (v := .tuple #[.slice none 0 0, .agg #[.int .i64 4, .int .i64 c, .string ⟨#[]⟩]]) (by simp [results, Tryz.results84, go_sem, z0, z1, z2]) rfl (HQ.out _ _ ⟨rfl, on hb3 (drewB _)⟩)
    · obtain rfl : k = n := by omega
      obtain rfl : p = k := by omega
      rw [List.take_of_length_le (by rw [HLn.out]; omega)] at hrow hlen
      obtain ⟨⟨g0, p0, p1, p2, q0, q1, q2⟩, ⟨z0, z1, z2⟩, hb3⟩ := val_ends hr hb0 (Nat.le_refl _) (.int .i64 0) (.int .i64 0) (.string ⟨#[]⟩)
      have hrow2 : OwnT (w.heap.size + 1) _ (L.map wordsF) (((wr.setCell ⟨w.heap.size, 0, none⟩ (.int .i64 0)).setCell ⟨w.heap.size, 1, none⟩ (.int .i64 0)).setCell ⟨w.heap.size, 2, none⟩ (.string ⟨#[]⟩)) :=
        ownsRow_setCell_below (ownsRow_setCell_below (ownsRow_setCell_below hrow (by simp) _) (by simp) _) (by simp) _
      obtain ⟨A2, c2, rfl, hread⟩ := hrow2.reads
      have HRd := Lib.hid hread
      clear hrow hrow2 hread hr hb0
      go_wp2_with fail
      exact bodyPost_ret (v := .tuple #[.slice A2 (L.map wordsF).length c2, .agg #[.int .i64 0, .int .i64 0, .string ⟨#[]⟩]]) (by simp [results, Tryz.results84, go_sem, z0, z1, z2]) rfl ⟨A2, c2, rfl, HRd.out, hb3⟩
/-- all values of tables, one behind the other -/
theorem all_c (A : Option Addr) (n cap : Nat) (T : List Tb) (h6 : ∀ t ∈ T, 1 ≤ t.n ∧ t.n ≤ 60) (hn9 : n ≤ 9) (w : World) (hz : TabsR w A n T) :
    Calls Tryz.prog 50 #[.slice A n cap] w fun e w' => ∃ A2 c2, e = .returned (.slice A2 (allL T).length c2) ∧ ValsR w' A2 (allL T).length (allL T) ∧ Below w.heap.size w w' := by
  obtain ⟨j0, hi, hi0, hi1, hi2⟩ := info_parts infoV
  have HZ := Lib.hid hz
  have H6 := Lib.hid h6
  have HLen := Lib.hid hz.1
  have HX : Hid (∀ (k : Nat) (t : Tb), T[k]? = some t → ValsR w t.A t.n t.L) := Lib.hid (fun k t ht => hz.reads ht (by have := h6 t (List.mem_of_getElem? ht); omega))
  have hb2 := below1 w (.cells #[] 23)
  have hrow0 := World.ownsRow_lit (base := w.heap.size) (e := 23) (size := 3) w #[] 0 (by simp) (by simp [maxLen]) rfl
  clear hz h6
  go_enter Tryz.func50, Tryz.ntmps50
  go_wp2_with fail
  generalize w.alloc (.cells #[] 23) = W at *
  go_loopw [3, 9] (fun a i wr => ∃ k : Nat, k ≤ n ∧ i = .int .i64 k ∧ OwnV w.heap.size a (allL (T.take k)) wr ∧ Below w.heap.size w wr) (fun _ i _ => n - (intOf i).toNat)
  case atStart => exact ⟨0, Nat.zero_le _, rfl, hrow0, hb2⟩
  case round =>
    clear hrow0 hb2
    obtain ⟨k, hk, rfl, hrow, hb2⟩ := hrel
    have hTl := allL_take (fun t ht => (H6.out t ht).2) HX.out HLen.out k
    by_cases hkn : k < n
    · obtain ⟨t, ht⟩ := (HZ.out).get hkn
      have ht6 := H6.out t (List.mem_of_getElem? ht)
      obtain ⟨b, o, rfl, hblt, c0, c1, c2⟩ := (HZ.out.on hb2).at ht
      have HV := Lib.hid ((HX.out k t ht).on hb2)
      have hS := allL_at ht
      obtain ⟨tr, tc, tA, tn, td, tL⟩ := t
      dsimp only at ht6 c0 c1 c2 HV hS
      obtain ⟨x0, x1, x2, -⟩ := (CellsAt.new wr [.int .i64 tr, .int .i64 tc, .slice tA tn td] 33).three
      have hbb := below1 wr (.cells #[.int .i64 tr, .int .i64 tc, .slice tA tn td] 33)
      replace hb2 := on hb2 hbb
      replace hrow := hrow.on hbb
      have HV1 := Lib.hid (HV.out.on hbb)
      have hlen : (flatV tL).length = tn * 3 := by rw [flatV_length, HV1.out.1]
      have hLt := HV1.out.1
      have hs0 := hb2.size
      have hfl := flatV_one tL
      have hcl := hTl.1
      clear hbb HV
      unfold OwnV at hrow
      obtain ⟨b1, o1, rfl⟩ := vals_addr HV1.out (by omega)
      have hcells := vals_cells HV1.out
      go_wp2_with (at_builtin; refine wpList_append_own _ rfl _ _ 31 rfl (w.heap.size) 23 j0 _ 3 32 Tryz.underlying31 hi hi0 hi1 hi2 rfl (by decide) _ _ _ rfl hrow ⟨b1, o1, none⟩ tn td (flatV tL) rfl hlen hcells hfl (by unfold maxLen; omega) (by omega) (by omega) ?_)
      intro v1 w4 hown1 hg1 _
      have hb4 : Below w.heap.size w w4 := hb2.grown hg1 hs0 (fun b e => (World.ownsRow.lt hrow b e).1)
      have hrow1 : OwnV w.heap.size v1 (allL (T.take (k + 1))) w4 := by
        rw [hS]
        exact own_more (by rw [hLt]; exact hown1)
      clear hown1 hg1 hrow hb2 hcells hlen hS HV1
      go_wp2
      go_roundw
      case rel => exact ⟨k + 1, by omega, by go_num, hrow1, hb4⟩
      case measure => simp [intOf]; omega
    · obtain rfl : k = n := by omega
      rw [List.take_of_length_le (by rw [HLen.out]; exact Nat.le_refl _)] at hrow hTl
      obtain ⟨A2, c2, rfl, hread⟩ := hrow.reads rfl (by omega) hTl.2
      go_wp2
      go_ret
      exact ⟨A2, c2, rfl, hread, hb2⟩
end Go.Proofs.YtebjedbppiphgaaGreatDoor.Cal
