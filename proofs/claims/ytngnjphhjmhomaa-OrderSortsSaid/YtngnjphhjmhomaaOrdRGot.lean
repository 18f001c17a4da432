/- What the reference's Small, Large and Mode answer: for any slice of at most 1000 numbers. -/
import Derived.Test.YtngnjphhjmhomaaOrdRSort
import Derived.Test.YtngnjphhjmhomaaDecRef
namespace Go.Proofs.Ytngnjphhjmhomaa.Odr
open Go.RowKit Kit Reg Dec

theorem got_ends {w w1 : World} {n : Int} {b : Bool} (hb1 : Below (w.alloc (.cells #[.int .i64 0, .bool false] 30)).heap.size (w.alloc (.cells #[.int .i64 0, .bool false] 30)) w1) :
    (w.heap.size < w1.heap.size ∧ (w1.cell? ⟨w.heap.size, 0, none⟩ = some (.int .i64 0) ∧ w1.cell? ⟨w.heap.size, 1, none⟩ = some (.bool false) ∧ w1.frozen? ⟨w.heap.size, 0, none⟩ = false ∧ w1.frozen? ⟨w.heap.size, 1, none⟩ = false)) ∧
    (((w1.setCell ⟨w.heap.size, 0, none⟩ (.int .i64 n)).setCell ⟨w.heap.size, 1, none⟩ (.bool b)).cell? ⟨w.heap.size, 0, none⟩ = some (.int .i64 n) ∧
      ((w1.setCell ⟨w.heap.size, 0, none⟩ (.int .i64 n)).setCell ⟨w.heap.size, 1, none⟩ (.bool b)).cell? ⟨w.heap.size, 1, none⟩ = some (.bool b)) ∧
    Below w.heap.size w ((w1.setCell ⟨w.heap.size, 0, none⟩ (.int .i64 n)).setCell ⟨w.heap.size, 1, none⟩ (.bool b)) := by
  obtain ⟨hc, hw⟩ := slot (cs := [.int .i64 0, .bool false]) (ty := 30) hb1
  obtain ⟨p0, p1, f0, f1⟩ := hc.two
  exact ⟨⟨hc.1, p0, p1, f0, f1⟩, two_set (u := .int .i64 n) (v := .bool b) p0 p1, set2 hw (Nat.le_refl _) _ _⟩
set_option maxRecDepth 100000 in
set_option maxHeartbeats 1000000 in
theorem rsmall_no (A : Option Addr) (n c : Nat) (k : Int) (hk : k < 1 ∨ (n : Int) < k) (w : World) :
    Calls Try.prog 12 #[.slice A n c, .int .i64 k] w (GotIs 0 false w) := by
  by_cases h : k < 1
  · go_enter Try.func12, Try.ntmps12
    go_wp2
    exact bodyPost_ret (v := .agg #[.int .i64 0, .bool false]) (by simp [results, Try.results12, go_sem]) rfl ⟨rfl, below1 _ _⟩
  · have h2 : (n : Int) < k := by omega
    clear hk
    go_enter Try.func12, Try.ntmps12
    go_wp2
    exact bodyPost_ret (v := .agg #[.int .i64 0, .bool false]) (by simp [results, Try.results12, go_sem]) rfl ⟨rfl, below1 _ _⟩
set_option maxRecDepth 100000 in
set_option maxHeartbeats 1000000 in
theorem rlarge_no (A : Option Addr) (n c : Nat) (k : Int) (hk : k < 1 ∨ (n : Int) < k) (w : World) :
    Calls Try.prog 13 #[.slice A n c, .int .i64 k] w (GotIs 0 false w) := by
  by_cases h : k < 1
  · go_enter Try.func13, Try.ntmps13
    go_wp2
    exact bodyPost_ret (v := .agg #[.int .i64 0, .bool false]) (by simp [results, Try.results13, go_sem]) rfl ⟨rfl, below1 _ _⟩
  · have h2 : (n : Int) < k := by omega
    clear hk
    go_enter Try.func13, Try.ntmps13
    go_wp2
    exact bodyPost_ret (v := .agg #[.int .i64 0, .bool false]) (by simp [results, Try.results13, go_sem]) rfl ⟨rfl, below1 _ _⟩
set_option maxRecDepth 100000 in
set_option maxHeartbeats 1000000 in
theorem rsmall_yes (A : Option Addr) (n c : Nat) (xs : List Int) (hn : n ≤ 1000) (j : Nat) (x k : Int) (hk : k = (j : Int) + 1) (hx : (srt xs)[j]? = some x) (w : World) (hz : NumsR w A n c xs) :
    Calls Try.prog 12 #[.slice A n c, .int .i64 k] w (GotIs x true w) := by
  have hj : j < n := by have := (List.getElem?_eq_some_iff.1 hx).1; rw [srt_len, hz.len] at this; exact this
  have HS := Lib.hid (rsorted_c A n c xs hn _ (hz.on (below1 w (.cells #[.int .i64 0, .bool false] 30))))
  have HX := Lib.hid hx
  have hk1 : k - 1 = (j : Int) := by omega
  have hk2 : 1 ≤ k ∧ k ≤ (n : Int) := by omega
  have HEnd := Lib.hid (fun w1 hb1 => got_ends (w := w) (w1 := w1) (n := x) (b := true) hb1)
  clear hz hx hk
  go_enter Try.func12, Try.ntmps12
  go_wp2_with (go_at_call 23; refine HS.out.mono ?_; rintro e w1 ⟨A2, c2, rfl, hr, hb⟩; obtain ⟨g, o, rfl, hg, c0⟩ := hr.at HX.out; obtain ⟨⟨hlt, p0, p1, f0, f1⟩, ⟨z0, z1⟩, hw⟩ := HEnd.out w1 hb; clear hr)
  exact bodyPost_ret (v := .agg #[.int .i64 x, .bool true]) (by simp [results, Try.results12, go_sem, z0, z1]) rfl ⟨rfl, hw⟩
set_option maxRecDepth 100000 in
set_option maxHeartbeats 1000000 in
theorem rlarge_yes (A : Option Addr) (n c : Nat) (xs : List Int) (hn : n ≤ 1000) (j : Nat) (x k : Int) (hk : (n : Int) - k = (j : Int)) (hx : (srt xs)[j]? = some x) (hk2 : 1 ≤ k ∧ k ≤ (n : Int)) (w : World) (hz : NumsR w A n c xs) :
    Calls Try.prog 13 #[.slice A n c, .int .i64 k] w (GotIs x true w) := by
  have hj : j < n := by omega
  have HS := Lib.hid (rsorted_c A n c xs hn _ (hz.on (below1 w (.cells #[.int .i64 0, .bool false] 30))))
  have HX := Lib.hid hx
  have HEnd := Lib.hid (fun w1 hb1 => got_ends (w := w) (w1 := w1) (n := x) (b := true) hb1)
  clear hz hx
  go_enter Try.func13, Try.ntmps13
  go_wp2_with (go_at_call 23; refine HS.out.mono ?_; rintro e w1 ⟨A2, c2, rfl, hr, hb⟩; obtain ⟨g, o, rfl, hg, c0⟩ := hr.at HX.out; obtain ⟨⟨hlt, p0, p1, f0, f1⟩, ⟨z0, z1⟩, hw⟩ := HEnd.out w1 hb; clear hr)
  exact bodyPost_ret (v := .agg #[.int .i64 x, .bool true]) (by simp [results, Try.results13, go_sem, z0, z1]) rfl ⟨rfl, hw⟩
theorem rsmall_c (A : Option Addr) (n c : Nat) (xs : List Int) (hn : n ≤ 1000) (k m : Int) (b : Bool) (hm : smallD xs k = (m, b)) (w : World) (hz : NumsR w A n c xs) :
    Calls Try.prog 12 #[.slice A n c, .int .i64 k] w (GotIs m b w) := by
  have hl := hz.len
  by_cases h : k < 1 ∨ (n : Int) < k
  · obtain ⟨rfl, rfl⟩ := Prod.mk.inj ((smallD_no (by rw [hl]; exact h)).symm.trans hm)
    exact rsmall_no A n c k h w
  · obtain ⟨y, hx⟩ : ∃ y, (srt xs)[(k - 1).toNat]? = some y := ⟨_, List.getElem?_eq_getElem (by rw [srt_len]; omega)⟩
    have h2 := smallD_yes hx
    rw [show (((k - 1).toNat : Nat) : Int) + 1 = k by omega] at h2
    obtain ⟨rfl, rfl⟩ := Prod.mk.inj (h2.symm.trans hm)
    exact rsmall_yes A n c xs hn _ y k (by omega) hx w hz
theorem rlarge_c (A : Option Addr) (n c : Nat) (xs : List Int) (hn : n ≤ 1000) (k m : Int) (b : Bool) (hm : largeD xs k = (m, b)) (w : World) (hz : NumsR w A n c xs) :
    Calls Try.prog 13 #[.slice A n c, .int .i64 k] w (GotIs m b w) := by
  have hl := hz.len
  by_cases h : k < 1 ∨ (n : Int) < k
  · obtain ⟨rfl, rfl⟩ := Prod.mk.inj ((largeD_no (by rw [hl]; exact h)).symm.trans hm)
    exact rlarge_no A n c k h w
  · obtain ⟨y, hx⟩ : ∃ y, (srt xs)[((n : Int) - k).toNat]? = some y := ⟨_, List.getElem?_eq_getElem (by rw [srt_len]; omega)⟩
    have h2 := largeD_yes hx
    rw [hl, show (n : Int) - ((((n : Int) - k).toNat : Nat) : Int) = k by omega] at h2
    obtain ⟨rfl, rfl⟩ := Prod.mk.inj (h2.symm.trans hm)
    exact rlarge_yes A n c xs hn _ y k (by omega) hx (by omega) w hz
/-- the reference's Mode: its result's own memory, and what it has so far -/
def ModeMem (w wr : World) (y : Int) (b : Bool) : Prop := Below w.heap.size w wr ∧ CellsAt wr w.heap.size [.int .i64 0, .bool false] ∧ CellsAt wr (w.heap.size + 1) [.int .i64 y, .bool b]
set_option maxRecDepth 100000 in
set_option maxHeartbeats 2000000 in
theorem rmode_c (A : Option Addr) (n c : Nat) (xs : List Int) (hn : n ≤ 1000) (m : Int) (b : Bool) (hm : modeD xs = (m, b)) (w : World) (hz : NumsR w A n c xs) :
    Calls Try.prog 18 #[.slice A n c] w (GotIs m b w) := by
  have HZ := Lib.hid hz
  have HM := Lib.hid hm
  have h0 : ModeMem w ((w.alloc (.cells #[.int .i64 0, .bool false] 30)).alloc (.cells #[.int .i64 0, .bool false] 30)) 0 false :=
    ⟨below2 _ _ _, (CellsAt.new _ _ _).on_alloc _, by have := CellsAt.new (w.alloc (.cells #[.int .i64 0, .bool false] 30)) [.int .i64 0, .bool false] 30; simpa using this⟩
  have H0 := Lib.hid h0
  clear hz hm h0
  go_enter Try.func18, Try.ntmps18
  go_wp2
  go_loopw [4, 5, 6] (fun o i _ wr => ∃ (k d : Nat) (y : Int), k ≤ n ∧ i = .int .i64 k ∧ Hid (modeAt xs k = (y, d)) ∧ 1 ≤ d ∧ d ≤ 1000 ∧ o = .int .i64 d ∧ ModeMem w wr y (decide (1 < d))) (fun _ i _ _ => n - (intOf i).toNat)
  case atStart => exact ⟨0, 1, 0, Nat.zero_le _, rfl, Lib.hid rfl, by omega, by omega, rfl, H0.out⟩
  case round =>
    obtain ⟨k, d, y, hk, rfl, HJ, hd1, hd, rfl, hb, hc, ho⟩ := hrel
    by_cases hlt : k < n
    · obtain ⟨x, hx⟩ := HZ.out.get hlt
      have hzr := HZ.out.on hb
      obtain ⟨g, o, rfl, hg, c0⟩ := hzr.at hx
      obtain ⟨q, hq⟩ : ∃ q, xs.count x = q := ⟨_, rfl⟩
      have HT := Lib.hid (rtimes_c (some ⟨g, o, none⟩) n c xs hn x q hq wr hzr.len hzr.reads)
      have hqk : q ≤ 1000 := by rw [← hq]; exact Nat.le_trans List.count_le_length (by rw [HZ.out.len]; omega)
      clear hzr
      by_cases hcq : d < q
      · have HN : Hid (modeAt xs (k + 1) = (x, q)) := Lib.hid (by rw [modeAt_hit hx HJ.out (by rw [hq]; exact hcq), hq])
        have HP := Lib.hid (ho.put2 (.int .i64 x) (.bool true))
        have HC := Lib.hid (hc.put2_far (c := w.heap.size + 1) (by omega) (.int .i64 x) (.bool true))
        have HB := Lib.hid (set2 hb (b := w.heap.size + 1) (by omega) (.int .i64 x) (.bool true))
        have hl := ho.1
        obtain ⟨o0, o1, f0, f1⟩ := ho.two
        clear hx hq HJ hb hc ho
        go_wp2_with (go_at_call 9; refine HT.out.mono ?_; rintro e w1 ⟨rfl, rfl⟩)
        go_roundw
        case rel => exact ⟨k + 1, q, x, by omega, by go_num, HN, by omega, hqk, rfl, HB.out, HC.out, by rw [decide_eq_true (by omega : 1 < q)]; exact HP.out⟩
        case measure => simp [intOf]; omega
      · have HN : Hid (modeAt xs (k + 1) = (y, d)) := Lib.hid (modeAt_miss hx HJ.out (by rw [hq]; exact hcq))
        clear hx hq HJ
        have HB := Lib.hid hb
        have HC := Lib.hid hc
        have HO := Lib.hid ho
        clear hb hc ho
        go_wp2_with (go_at_call 9; refine HT.out.mono ?_; rintro e w1 ⟨rfl, rfl⟩)
        go_roundw
        case rel => exact ⟨k + 1, d, y, by omega, by go_num, HN, hd1, hd, rfl, HB.out, HC.out, HO.out⟩
        case measure => simp [intOf]; omega
    · obtain rfl : k = n := by omega
      have hE : modeD xs = (y, decide (1 < d)) := by rw [modeD, HZ.out.len, HJ.out]
      obtain ⟨rfl, hE2⟩ := Prod.mk.inj (hE.symm.trans HM.out)
      rw [hE2] at ho
      obtain ⟨o0, o1, _, _⟩ := ho.two
      obtain ⟨p0, p1, f0, f1⟩ := hc.two
      obtain ⟨z0, z1⟩ := two_set (u := .int .i64 y) (v := .bool b) p0 p1
      have hw := set2 hb (Nat.le_refl _) (.int .i64 y) (.bool b)
      have hl := hc.1
      clear hE hE2 hb hc ho
      go_wp2
      exact bodyPost_ret (v := .agg #[.int .i64 y, .bool b]) (by simp [results, Try.results18, go_sem, z0, z1]) rfl ⟨rfl, hw⟩
end Go.Proofs.Ytngnjphhjmhomaa.Odr
