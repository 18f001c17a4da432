/- Values as texts, and what Concat answers: the program's and the reference's. -/
import Derived.Test.YtebjedbppiphgaaGreatDoorKfa22
import Derived.Test.YtebjedbppiphgaaGreatDoorKfa11
import Derived.Test.YtebjedbppiphgaaGreatDoorKfa09
import Derived.Test.YtebjedbppiphgaaGreatDoorKfa21
namespace Go.Proofs.YtebjedbppiphgaaGreatDoor.Fld
open Go.RowKit Kit Reg Dec Dig Val Txt
theorem infoT : (Tryz.prog.info? 9).map (fun i => (i.zero, i.size, i.bytes)) = some (some (.string ⟨#[]⟩), 1, 16) := by kernel_rfl
theorem OwnT.snoc {B : Nat} {w : World} {v : Value} {xs : List (List UInt8)} {x : List UInt8} {y : ByteArray} (hy : Hid (y = ⟨x.toArray⟩)) (h : w.ownsRow B 9 1 v (xs.length + 1) ((xs.map fun l => Value.string ⟨l.toArray⟩) ++ [.string y])) : OwnT B v (xs ++ [x]) w := by
  unfold OwnT
  rw [List.map_append, List.length_append]
  rw [hy.out] at h
  exact h
theorem text_is {t : ByteArray} {l : List UInt8} (h : t.data.toList = l) : t = ⟨l.toArray⟩ := Dig.bytes_eq (by simp [h])
theorem text_c (v : Vl) (hm : v.may) (hf : v.fits) (h4 : ¬ v.k = 4) (w : World) (hL : Dig.Libs w) : Calls Tryz.prog 112 #[.agg #[.int .i64 v.k, .int .i64 v.n, .string v.t]] w (ValIs 2 0 ⟨(wordsF v).toArray⟩ w) := by
  rcases may_ways hm with rfl | ⟨x, rfl, _⟩ | ⟨t, rfl, _⟩ | rfl | rfl | ⟨x, rfl, _⟩
  · exact astext_e w
  · exact (astext_n x hf.1 hf.2 w hL).mono fun e w' ⟨s, he, hs, hb⟩ => by
      obtain rfl := text_is hs
      exact ⟨he, hb⟩
  · show Calls Tryz.prog 112 #[.agg #[.int .i64 2, .int .i64 0, .string t]] w (ValIs 2 0 ⟨t.data.toList.toArray⟩ w)
    have e : (⟨t.data.toList.toArray⟩ : ByteArray) = t := (text_is rfl).symm
    rw [e]
    exact astext_t t w
  · exact astext_b0 w
  · exact astext_b1 w
  · exact absurd rfl h4
theorem text_bad (v : Vl) (hm : v.may) (h4 : v.k = 4) (w : World) : Calls Tryz.prog 112 #[.agg #[.int .i64 v.k, .int .i64 v.n, .string v.t]] w (ValIs 4 v.n ⟨#[]⟩ w) := by
  rw [may_fault hm h4]
  exact astext_f v.n w
theorem words_at {L : List Vl} {k : Nat} {v : Vl} (h : L[k]? = some v) : (L.take (k + 1)).map wordsF = (L.take k).map wordsF ++ [wordsF v] := by
  rw [List.take_add_one, h]
  simp
set_option maxRecDepth 100000 in
set_option maxHeartbeats 4000000 in
theorem concat_no (A : Option Addr) (n cap : Nat) (L : List Vl) (hm : ∀ v ∈ L, v.may) (hf : NoF L) (m : List UInt8) (b : Bool) (hr0 : roomD (L.map wordsF).flatten = (m, b)) (k0 n0 : Int) (m0 : List UInt8) (hk : (b = true ∧ k0 = 2 ∧ n0 = 0 ∧ m0 = m) ∨ (b = false ∧ k0 = 4 ∧ n0 = 2 ∧ m0 = [])) (w : World) (hz : ValsR w A n L) (hL : Dig.Libs w) :
    Calls Tryz.prog 126 #[.slice A n cap] w (ValIs k0 n0 ⟨m0.toArray⟩ w) := by
  obtain ⟨i0, hi, hz0, hz1, hz2⟩ := info_parts infoT
  have HM : Hid (∀ (k : Nat) (v : Vl), L[k]? = some v → v.may ∧ v.fits ∧ ¬ v.k = 4) := Lib.hid fun k v hv => ⟨hm v (List.mem_of_getElem? hv), hz.2.2.1 v (List.mem_of_getElem? hv), hf.at hv⟩
  have HT := Lib.hid (fun v hm hf h4 w1 hL => text_c v hm hf h4 w1 hL)
  have HJ : Hid (∀ (A2 : Option Addr) (c2 : Nat) (w1 : World), StrsO w1 A2 (L.map wordsF) → Calls Tryz.prog 86 #[.slice A2 (L.map wordsF).length c2] w1 fun e w' => e = .returned (.tuple #[.string ⟨m.toArray⟩, .bool b]) ∧ w1 = w') :=
    Lib.hid fun A2 c2 w1 h => join_c A2 c2 _ (L.map wordsF) rfl (by rw [List.length_map, hz.1]; have := hz.2.1; omega) (fun x hx => by
      obtain ⟨v, hv, rfl⟩ := List.mem_map.1 hx
      have := words_len (hm v hv) (hz.2.2.1 v hv)
      omega) m b hr0 w1 h
  have hroom := Lib.hid (room_len hr0)
  have hn9 := hz.2.1
  have HLn := Lib.hid hz.1
  have hb0 := below1 w (.cells #[.int .i64 0, .int .i64 0, .string ⟨#[]⟩] 23)
  have hr := CellsAt.new w [.int .i64 0, .int .i64 0, .string ⟨#[]⟩] 23
  have hrow := World.ownsRow_lit (base := w.heap.size + 1) (e := 9) (size := 1) (w.alloc (.cells #[.int .i64 0, .int .i64 0, .string ⟨#[]⟩] 23)) #[] 0 (by simp) (by simp [maxLen]) rfl
  rw [show (w.alloc (.cells #[.int .i64 0, .int .i64 0, .string ⟨#[]⟩] 23)).heap.size = w.heap.size + 1 by simp] at hrow
  replace hb0 := on_alloc hb0 (.cells #[] 9)
  replace hr := hr.on_alloc (.cells #[] 9)
  have HZ := Lib.hid hz
  have HLib := Lib.hid hL
  have HK := Lib.hid hk
  clear hz hf hm hr0 hL hk
  go_enter Tryz.func126, Tryz.ntmps126
  go_wp2_with fail
  generalize (w.alloc (.cells #[.int .i64 0, .int .i64 0, .string ⟨#[]⟩] 23)).alloc (.cells #[] 9) = W at *
  go_loopw [3, 12] (fun o i wr => ∃ k : Nat, k ≤ n ∧ i = .int .i64 k ∧ OwnT (w.heap.size + 1) o ((L.take k).map wordsF) wr ∧ Below w.heap.size w wr ∧ CellsAt wr w.heap.size [.int .i64 0, .int .i64 0, .string ⟨#[]⟩]) (fun _ i _ => n - (intOf i).toNat)
  case atStart => exact ⟨0, Nat.zero_le _, rfl, hrow, hb0, hr⟩
  case round =>
    clear hb0 hr hrow
    obtain ⟨k, hk, rfl, hrow, hb0, hr⟩ := hrel
    have hlen : ((L.take k).map wordsF).length ≤ k := by rw [List.length_map, List.length_take]; omega
    by_cases hlt : k < n
    · obtain ⟨v, hv⟩ := HZ.out.get hlt
      obtain ⟨b9, o, rfl, hb, c0, c1, c2⟩ := (HZ.out.on hb0).at hv
      obtain ⟨hmv, hfv, h4v⟩ := HM.out k v hv
      have HN : Hid ((L.take (k + 1)).map wordsF = (L.take k).map wordsF ++ [wordsF v]) := Lib.hid (words_at hv)
      have HT2 := Lib.hid (fun w1 hL => HT.out v hmv hfv h4v w1 hL)
      obtain ⟨y, hy⟩ : ∃ y : ByteArray, y = ⟨(wordsF v).toArray⟩ := ⟨_, rfl⟩
      rw [← hy] at HT2
      replace hy := Lib.hid hy
      generalize wordsF v = x at *
      obtain ⟨vk, vn, vt⟩ := v
      dsimp only at c0 c1 c2 HT2
      clear hv hmv hfv h4v HJ
      have hx := CellsAt.new wr [.int .i64 vk, .int .i64 vn, .string vt] 23
      obtain ⟨x0, x1, x2, _⟩ := hx.three
      have hbx := below1 wr (.cells #[.int .i64 vk, .int .i64 vn, .string vt] 23)
      replace hb0 := on_alloc hb0 (.cells #[.int .i64 vk, .int .i64 vn, .string vt] 23)
      replace hr := hr.on hbx
      replace hrow := hrow.on hbx
      have HLib2 := Lib.hid (HLib.out.grown hb0)
      clear hbx
      go_wp2_with fail
      generalize wr.alloc (.cells #[.int .i64 vk, .int .i64 vn, .string vt] 23) = X at *
      refine (HT2.out _ HLib2.out).mono ?_
      rintro e w1 ⟨rfl, hb1⟩
      replace hb0 := on_alloc (on hb0 hb1) (.cells #[.int .i64 2, .int .i64 0, .string y] 23)
      replace hr := (hr.on hb1).on_alloc (.cells #[.int .i64 2, .int .i64 0, .string y] 23)
      replace hrow := (hrow.on hb1).on (below1 w1 (.cells #[.int .i64 2, .int .i64 0, .string y] 23))
      clear hb1 HT2 HLib2 hx x0 x1 x2 c0 c1 c2
      have hx := CellsAt.new w1 [.int .i64 2, .int .i64 0, .string y] 23
      obtain ⟨x0, x1, x2, _⟩ := hx.three
      have hs0 := hb0.size
      generalize (L.take k).map wordsF = xs at *
      unfold OwnT at hrow
      have hls : (w1.alloc (.cells #[.int .i64 2, .int .i64 0, .string y] 23)).heap.size = w1.heap.size + 1 := by simp
      go_wp2_with (at_builtin; refine wpList_append_own _ rfl _ _ 61 rfl (w.heap.size + 1) 9 i0 (.string ⟨#[]⟩) 1 16 Tryz.underlying61 hi hz0 hz1 hz2 rfl (by decide) _ _ _ rfl (hrow.alloc _) ⟨_, 0, none⟩ 1 1 [.string y] rfl rfl (one_new (by simp) _ _) (one_cells _ rfl) (by unfold maxLen; omega) (by omega) (by simp; omega) ?_)
      intro v1 w2 hown1 hg1 _
      have hb3 := own_below hrow hb0 (by omega) hg1
      have hrow1 := OwnT.snoc hy hown1
      replace hr := cells_grown (hr.on_alloc _) hg1 (own_far hrow (by omega))
      clear hown1 hg1 hrow hb0 hx x0 x1 x2 hls hs0
      go_wp2
      go_roundw
      case rel => exact ⟨k + 1, by omega, by go_num, by rw [HN.out]; exact hrow1, hb3, hr⟩
      case measure => simp [intOf]; omega
    · obtain rfl : k = n := by omega
      rw [List.take_of_length_le (by rw [HLn.out]; omega)] at hrow
      obtain ⟨A2, c2, rfl, hread⟩ := hrow.reads
      have HJ2 := Lib.hid (HJ.out A2 c2 _ hread)
      generalize ((L.map wordsF).length : Nat) = q at *
      clear hrow hread HT HJ hlen HM
      rcases HK.out with ⟨rfl, rfl, rfl, rfl⟩ | ⟨rfl, rfl, rfl, rfl⟩
      rotate_left
      · have HB := Lib.hid (fun w1 => bad_c 2 w1)
        rw [bad_in (by omega) (by omega)] at HB
        clear HK
        go_wp2_with fail
        refine HJ2.out.mono ?_
        rintro e w1 ⟨rfl, rfl⟩
        go_wp2_with fail
        refine (HB.out _).mono ?_
        rintro e w4 ⟨rfl, hb4⟩
        replace hb0 := on hb0 hb4
        replace hr := hr.on hb4
        clear hb4 HB
        have hl9 := hr.1
        obtain ⟨p0, p1, p2, f0, f1, f2⟩ := hr.three
        obtain ⟨z0, z1, z2⟩ := three_set (u := .int .i64 4) (v := .int .i64 2) (r := .string ⟨#[]⟩) p0 p1 p2
        have hb5 := set3 hb0 (Nat.le_refl _) (.int .i64 4) (.int .i64 2) (.string ⟨#[]⟩)
        clear hb0 hr
        go_wp2_with fail
        exact bodyPost_ret (v := .agg #[.int .i64 4, .int .i64 2, .string ⟨#[]⟩]) (by simp [results, Tryz.results126, go_sem, z0, z1, z2]) rfl ⟨rfl, hb5⟩
      · obtain ⟨y, hy⟩ : ∃ y : ByteArray, y = ⟨m0.toArray⟩ := ⟨_, rfl⟩
        have hy9 : y.size ≤ 256 := by rw [hy, arr_size]; exact hroom.out
        have HB := Lib.hid (fun w1 => str_c y 2 0 y (str_in hy9) w1)
        clear HK
        rw [← hy] at HJ2
        replace hy := Lib.hid hy
        clear hroom
        go_wp2_with fail
        refine HJ2.out.mono ?_
        rintro e w1 ⟨rfl, rfl⟩
        go_wp2_with fail
        refine (HB.out _).mono ?_
        rintro e w4 ⟨rfl, hb4⟩
        replace hb0 := on hb0 hb4
        replace hr := hr.on hb4
        clear hb4 HB
        have hl9 := hr.1
        obtain ⟨p0, p1, p2, f0, f1, f2⟩ := hr.three
        obtain ⟨z0, z1, z2⟩ := three_set (u := .int .i64 2) (v := .int .i64 0) (r := .string y) p0 p1 p2
        have hb5 := set3 hb0 (Nat.le_refl _) (.int .i64 2) (.int .i64 0) (.string y)
        clear hb0 hr
        go_wp2_with fail
        exact bodyPost_ret (v := .agg #[.int .i64 2, .int .i64 0, .string y]) (by simp [results, Tryz.results126, go_sem, z0, z1, z2]) rfl ⟨by rw [hy.out], hb5⟩
set_option maxRecDepth 100000 in
set_option maxHeartbeats 4000000 in
theorem concat_yes (A : Option Addr) (n cap : Nat) (L : List Vl) (hm : ∀ v ∈ L, v.may) (p : Nat) (xv : Vl) (hf : FirstF L p xv) (w : World) (hz : ValsR w A n L) (hL : Dig.Libs w) :
    Calls Tryz.prog 126 #[.slice A n cap] w (ValIs 4 xv.n ⟨#[]⟩ w) := by
  obtain ⟨i0, hi, hz0, hz1, hz2⟩ := info_parts infoT
  have HM : Hid (∀ (k : Nat) (v : Vl), k < p → L[k]? = some v → v.may ∧ v.fits ∧ ¬ v.k = 4) := Lib.hid fun k v hk hv => ⟨hm v (List.mem_of_getElem? hv), hz.2.2.1 v (List.mem_of_getElem? hv), hf.2.2 k v hk hv⟩
  have HT := Lib.hid (fun v hm hf h4 w1 hL => text_c v hm hf h4 w1 hL)
  have HBad : Hid (∀ v : Vl, L[p]? = some v → v.n = xv.n ∧ ∀ w1, Calls Tryz.prog 112 #[.agg #[.int .i64 v.k, .int .i64 v.n, .string v.t]] w1 (ValIs 4 xv.n ⟨#[]⟩ w1)) := Lib.hid fun v hv => by
    obtain rfl := Option.some.inj (hv.symm.trans hf.1)
    exact ⟨rfl, fun w1 => text_bad v (hm v (List.mem_of_getElem? hv)) hf.2.1 w1⟩
  have hpn : p < n := by have := hf.lt; rw [hz.1] at this; exact this
  have hn9 := hz.2.1
  have hb0 := below1 w (.cells #[.int .i64 0, .int .i64 0, .string ⟨#[]⟩] 23)
  have hr := CellsAt.new w [.int .i64 0, .int .i64 0, .string ⟨#[]⟩] 23
  have hrow := World.ownsRow_lit (base := w.heap.size + 1) (e := 9) (size := 1) (w.alloc (.cells #[.int .i64 0, .int .i64 0, .string ⟨#[]⟩] 23)) #[] 0 (by simp) (by simp [maxLen]) rfl
  rw [show (w.alloc (.cells #[.int .i64 0, .int .i64 0, .string ⟨#[]⟩] 23)).heap.size = w.heap.size + 1 by simp] at hrow
  replace hb0 := on_alloc hb0 (.cells #[] 9)
  replace hr := hr.on_alloc (.cells #[] 9)
  have HZ := Lib.hid hz
  have HLib := Lib.hid hL
  clear hz hf hm hL
  generalize xv.n = n0 at *
  go_enter Tryz.func126, Tryz.ntmps126
  go_wp2_with fail
  generalize (w.alloc (.cells #[.int .i64 0, .int .i64 0, .string ⟨#[]⟩] 23)).alloc (.cells #[] 9) = W at *
  go_loopw [3, 12] (fun o i wr => ∃ k : Nat, k ≤ p ∧ i = .int .i64 k ∧ OwnT (w.heap.size + 1) o ((L.take k).map wordsF) wr ∧ Below w.heap.size w wr ∧ CellsAt wr w.heap.size [.int .i64 0, .int .i64 0, .string ⟨#[]⟩]) (fun _ i _ => n - (intOf i).toNat)
  case atStart => exact ⟨0, Nat.zero_le _, rfl, hrow, hb0, hr⟩
  case round =>
    clear hb0 hr hrow
    obtain ⟨k, hk, rfl, hrow, hb0, hr⟩ := hrel
    have hlen : ((L.take k).map wordsF).length ≤ k := by rw [List.length_map, List.length_take]; omega
    have hlt : k < n := by omega
    obtain ⟨v, hv⟩ := HZ.out.get hlt
    obtain ⟨b9, o, rfl, hb, c0, c1, c2⟩ := (HZ.out.on hb0).at hv
    by_cases hkp : k < p
    · obtain ⟨hmv, hfv, h4v⟩ := HM.out k v hkp hv
      have HN : Hid ((L.take (k + 1)).map wordsF = (L.take k).map wordsF ++ [wordsF v]) := Lib.hid (words_at hv)
      have HT2 := Lib.hid (fun w1 hL => HT.out v hmv hfv h4v w1 hL)
      obtain ⟨y, hy⟩ : ∃ y : ByteArray, y = ⟨(wordsF v).toArray⟩ := ⟨_, rfl⟩
      rw [← hy] at HT2
      replace hy := Lib.hid hy
      generalize wordsF v = x at *
      obtain ⟨vk, vn, vt⟩ := v
      dsimp only at c0 c1 c2 HT2
      clear hv hmv hfv h4v HBad HT HM
      have hx := CellsAt.new wr [.int .i64 vk, .int .i64 vn, .string vt] 23
      obtain ⟨x0, x1, x2, _⟩ := hx.three
      have hbx := below1 wr (.cells #[.int .i64 vk, .int .i64 vn, .string vt] 23)
      replace hb0 := on_alloc hb0 (.cells #[.int .i64 vk, .int .i64 vn, .string vt] 23)
      replace hr := hr.on hbx
      replace hrow := hrow.on hbx
      have HLib2 := Lib.hid (HLib.out.grown hb0)
      clear hbx
      go_wp2_with fail
      generalize wr.alloc (.cells #[.int .i64 vk, .int .i64 vn, .string vt] 23) = X at *
      refine (HT2.out _ HLib2.out).mono ?_
      rintro e w1 ⟨rfl, hb1⟩
      replace hb0 := on_alloc (on hb0 hb1) (.cells #[.int .i64 2, .int .i64 0, .string y] 23)
      replace hr := (hr.on hb1).on_alloc (.cells #[.int .i64 2, .int .i64 0, .string y] 23)
      replace hrow := (hrow.on hb1).on (below1 w1 (.cells #[.int .i64 2, .int .i64 0, .string y] 23))
      clear hb1 HT2 HLib2 hx x0 x1 x2 c0 c1 c2
      have hx := CellsAt.new w1 [.int .i64 2, .int .i64 0, .string y] 23
      obtain ⟨x0, x1, x2, _⟩ := hx.three
      have hs0 := hb0.size
      generalize (L.take k).map wordsF = xs at *
      unfold OwnT at hrow
      have hls : (w1.alloc (.cells #[.int .i64 2, .int .i64 0, .string y] 23)).heap.size = w1.heap.size + 1 := by simp
      go_wp2_with (at_builtin; refine wpList_append_own _ rfl _ _ 61 rfl (w.heap.size + 1) 9 i0 (.string ⟨#[]⟩) 1 16 Tryz.underlying61 hi hz0 hz1 hz2 rfl (by decide) _ _ _ rfl (hrow.alloc _) ⟨_, 0, none⟩ 1 1 [.string y] rfl rfl (one_new (by simp) _ _) (one_cells _ rfl) (by unfold maxLen; omega) (by omega) (by simp; omega) ?_)
      intro v1 w2 hown1 hg1 _
      have hb3 := own_below hrow hb0 (by omega) hg1
      have hrow1 := OwnT.snoc hy hown1
      replace hr := cells_grown (hr.on_alloc _) hg1 (own_far hrow (by omega))
      clear hown1 hg1 hrow hb0 hx x0 x1 x2 hls hs0
      go_wp2
      go_roundw
      case rel => exact ⟨k + 1, by omega, by go_num, by rw [HN.out]; exact hrow1, hb3, hr⟩
      case measure => simp [intOf]; omega
    · obtain rfl : k = p := by omega
      obtain ⟨hvn, HB⟩ := HBad.out v hv
      replace HB := Lib.hid HB
      obtain ⟨vk, vn, vt⟩ := v
      dsimp only at c0 c1 c2 HB
      clear hv hvn HT HM HBad hrow
      have hx := CellsAt.new wr [.int .i64 vk, .int .i64 vn, .string vt] 23
      obtain ⟨x0, x1, x2, _⟩ := hx.three
      have hbx := below1 wr (.cells #[.int .i64 vk, .int .i64 vn, .string vt] 23)
      replace hb0 := on_alloc hb0 (.cells #[.int .i64 vk, .int .i64 vn, .string vt] 23)
      replace hr := hr.on hbx
      clear hbx
      go_wp2_with fail
      generalize wr.alloc (.cells #[.int .i64 vk, .int .i64 vn, .string vt] 23) = X at *
      refine (HB.out _).mono ?_
      rintro e w1 ⟨rfl, hb1⟩
      replace hb0 := on hb0 hb1
      replace hr := hr.on hb1
      clear hb1 HB hx x0 x1 x2 c0 c1 c2
      have hx := CellsAt.new w1 [.int .i64 4, .int .i64 n0, .string ⟨#[]⟩] 23
      obtain ⟨x0, x1, x2, _⟩ := hx.three
      have hl := hr.1
      obtain ⟨p0, p1, p2, f0, f1, f2⟩ := hr.three
      obtain ⟨z0, z1, z2⟩ := three_set (u := .int .i64 4) (v := .int .i64 n0) (r := .string ⟨#[]⟩) p0 p1 p2
      replace z0 := kept_alloc (.cells #[.int .i64 4, .int .i64 n0, .string ⟨#[]⟩] 23) z0
      replace z1 := kept_alloc (.cells #[.int .i64 4, .int .i64 n0, .string ⟨#[]⟩] 23) z1
      replace z2 := kept_alloc (.cells #[.int .i64 4, .int .i64 n0, .string ⟨#[]⟩] 23) z2
      have hb5 := on_alloc (set3 hb0 (Nat.le_refl _) (.int .i64 4) (.int .i64 n0) (.string ⟨#[]⟩)) (.cells #[.int .i64 4, .int .i64 n0, .string ⟨#[]⟩] 23)
      clear hb0 hr
      go_wp2_with fail
      exact bodyPost_ret (v := .agg #[.int .i64 4, .int .i64 n0, .string ⟨#[]⟩]) (by simp [results, Tryz.results126, go_sem, z0, z1, z2]) rfl ⟨rfl, hb5⟩
/-- whatever the list -/
theorem concat_c (A : Option Addr) (n cap : Nat) (L : List Vl) (hm : ∀ v ∈ L, v.may) (k0 n0 : Int) (m0 : List UInt8) (hv : concatV L = (k0, n0, m0)) (w : World) (hz : ValsR w A n L) (hL : Dig.Libs w) :
    Calls Tryz.prog 126 #[.slice A n cap] w (ValIs k0 n0 ⟨m0.toArray⟩ w) := by
  rcases fault_ways L with h | ⟨p, x, h⟩
  · rcases e : roomD (L.map wordsF).flatten with ⟨m, b⟩
    refine concat_no A n cap L hm h m b e k0 n0 m0 ?_ w hz hL
    cases b
    · rw [concatV_out h e] at hv
      obtain ⟨rfl, h2⟩ := Prod.mk.inj hv
      obtain ⟨rfl, rfl⟩ := Prod.mk.inj h2
      exact .inr ⟨rfl, rfl, rfl, rfl⟩
    · rw [concatV_in h e] at hv
      obtain ⟨rfl, h2⟩ := Prod.mk.inj hv
      obtain ⟨rfl, rfl⟩ := Prod.mk.inj h2
      exact .inl ⟨rfl, rfl, rfl, rfl⟩
  · rw [concatV_yes h] at hv
    obtain ⟨rfl, h2⟩ := Prod.mk.inj hv
    obtain ⟨rfl, rfl⟩ := Prod.mk.inj h2
    exact concat_yes A n cap L hm p x h w hz hL
end Go.Proofs.YtebjedbppiphgaaGreatDoor.Fld
