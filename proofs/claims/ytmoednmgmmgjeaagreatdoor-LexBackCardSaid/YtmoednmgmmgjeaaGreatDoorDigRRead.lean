/- What the reference's Read of a decimal answers: for every text below 2^47 bytes. -/
import Derived.Test.YtmoednmgmmgjeaaGreatDoorDigRef
import Derived.Test.YtmoednmgmmgjeaaGreatDoorKit4
import Derived.StillTailTactics
namespace Go.Proofs.YtmoednmgmmgjeaaGreatDoor.Dig
open Go.RowKit Kit Dec

/-- the memory of a reader: the result's block, and the number's -/
def NumMem (w wr : World) (n : Int) (b : Bool) : Prop := Below w.heap.size w wr ∧ CellsAt wr w.heap.size [.int .i64 0, .bool false] ∧ CellsAt wr (w.heap.size + 1) [.int .i64 n, .bool b]
theorem NumMem.start (w : World) (n : Int) (b : Bool) : NumMem w ((w.alloc (.cells #[.int .i64 0, .bool false] 60)).alloc (.cells #[.int .i64 n, .bool b] 60)) n b := by
  refine ⟨below2 _ _ _, (CellsAt.new w [.int .i64 0, .bool false] _).on_alloc _, ?_⟩
  have h := CellsAt.new (w.alloc (.cells #[.int .i64 0, .bool false] 60)) [.int .i64 n, .bool b] 60
  rw [show (w.alloc (.cells #[.int .i64 0, .bool false] 60)).heap.size = w.heap.size + 1 by simp] at h
  exact h
theorem NumMem.on {w wr wr' : World} {q : Int} {b : Bool} (h : NumMem w wr q b) (hb : Below wr.heap.size wr wr') : NumMem w wr' q b :=
  ⟨Kit.on h.1 hb, h.2.1.on hb, h.2.2.on hb⟩
theorem NumMem.put {w wr : World} {q : Int} {b : Bool} (h : NumMem w wr q b) (n : Int) (k : Bool) : NumMem w (put2 wr (w.heap.size + 1) (.int .i64 n) (.bool k)) n k :=
  ⟨set2 h.1 (by omega) _ _, h.2.1.put2_far (by omega) _ _, h.2.2.put2 _ _⟩
theorem NumMem.put1 {w wr : World} {q : Int} {b : Bool} (h : NumMem w wr q b) (n : Int) : NumMem w (wr.setCell ⟨w.heap.size + 1, 0, none⟩ (.int .i64 n)) n b :=
  ⟨set1 h.1 (by omega) _, h.2.1.far (p := ⟨w.heap.size + 1, 0, none⟩) (by show w.heap.size + 1 ≠ w.heap.size; omega) _, h.2.2.set (i := 0) (by simp) _⟩
theorem drew_b (w : World) : Below w.heap.size w w.drew := ⟨rfl, rfl, rfl, Nat.le_refl _, fun _ _ => rfl⟩
theorem readB_none_end {neg : Bool} {l : List UInt8} {n : Int} {k : Bool} (h : readB neg l = (n, k)) (h2 : readB neg l = (0, false)) : n = 0 ∧ k = false := Prod.mk.inj (h.symm.trans h2)
set_option maxRecDepth 100000 in
set_option maxHeartbeats 2000000 in
theorem rread_long (t : ByteArray) (h : 40 < t.size) (w : World) : Calls Tryz.prog 32 #[.string t] w (GotIs 0 false w) := by
  have d0 : decide (40 < t.size) = true := decide_eq_true h
  go_enter Tryz.func32, Tryz.ntmps32
  go_wp2
  exact bodyPost_ret (v := .agg #[.int .i64 0, .bool false]) (by simp [results, Tryz.results32, go_sem]) rfl ⟨rfl, below1 _ _⟩
set_option maxRecDepth 100000 in
set_option maxHeartbeats 4000000 in
theorem rread_plain (t : ByteArray) (hl : t.size ≤ 40) (hp : ¬ t.data.toList.head? = some 45) (n : Int) (k : Bool) (hn : readB false t.data.toList = (n, k)) (w : World) : Calls Tryz.prog 32 #[.string t] w (GotIs n k w) := by
  have d0 : decide (40 < t.size) = false := decide_eq_false (by omega)
  have HN := Lib.hid hn
  rcases Nat.eq_zero_or_pos t.size with h0 | h0
  · have hE : Hid (readB false t.data.toList = (0, false)) := Lib.hid (by rw [List.length_eq_zero_iff.1 ((len t).trans h0)]; rfl)
    obtain ⟨rfl, rfl⟩ := readB_none_end HN.out hE.out
    clear HN hE hn hp
    go_enter Tryz.func32, Tryz.ntmps32
    go_wp2
    refine wp_loop_rounds 1 ?_
    rw [rounds_succ]
    go_wp2
    exact bodyPost_ret (v := .agg #[.int .i64 0, .bool false]) (by simp [results, Tryz.results32, go_sem]) rfl ⟨rfl, below2 _ _ _⟩
  · obtain ⟨x0, hx0⟩ : ∃ x : UInt8, t[0]'h0 = x := ⟨_, rfl⟩
    have hx1 : ¬ x0.toNat = 45 := fun e => hp (by
      have h1 := Lib.data_getElem? t 0 h0
      rw [hx0] at h1
      rw [List.head?_eq_getElem?, h1]
      exact congrArg some (UInt8.toNat_inj.1 e))
    have e0 : ((x0.toNat : Int) == 45) = false := by simp; omega
    have hul : t.size ≤ 40 := hl
    clear hn hp hx1
    go_enter Tryz.func32, Tryz.ntmps32
    go_wp2
    clear hx0 e0
    go_loopw [5, 6] (fun b i wr => ∃ (j : Nat) (bv : Int) (ds : List UInt8) (q : Int) (ok : Bool), b = .int .i64 bv ∧ i = .int .i64 j ∧ Hid (ScanAt t.data.toList j bv ds) ∧ Hid (capD (valF 0 ds) = (q, ok)) ∧ NumMem w wr q ok) (fun _ i _ => t.size - (intOf i).toNat)
    case atStart => exact ⟨0, -1, [], 0, true, rfl, rfl, Lib.hid (ScanAt.start _), Lib.hid rfl, NumMem.start w 0 true⟩
    case round =>
      obtain ⟨j, bv, ds, q, ok, rfl, rfl, hS, hq, hM⟩ := hrel
      have hj : j ≤ t.size := by rw [← len]; exact hS.out.1
      obtain ⟨b1, b2⟩ := hS.out.bound
      have hUl : t.data.toList.length ≤ 40 := by rw [len]; exact hul
      obtain ⟨hb0, hc, hc2⟩ := id hM
      have l1 := hc.1
      have l2 := hc2.1
      obtain ⟨p0, p1, f0, f1⟩ := hc2.two
      obtain ⟨r0, r1, g0, g1⟩ := hc.two
      by_cases hlt : j < t.size
      · obtain ⟨x, hx⟩ : ∃ x : UInt8, t[j]'hlt = x := ⟨_, rfl⟩
        have hxl : t.data.toList[j]? = some x := by rw [← hx]; exact Lib.data_getElem? t j hlt
        have hx256 := x.toNat_lt
        cases hd : isD x
        · have HD := Lib.hid (fun w1 => digit_c t j j rfl false ((digAt_in hxl).trans hd) w1)
          by_cases h46 : x.toNat = 46
          · have e46 : ((x.toNat : Int) == 46) = true := by simp; omega
            have hx46 : x = 46 := UInt8.toNat_inj.1 h46
            by_cases hbv : bv < 0
            · by_cases hj0 : 0 < j
              · have hS2 := Lib.hid (hS.out.point hbv hj0 (by rw [hxl, hx46]))
                have hM2 := Lib.hid hM
                clear hd hxl hx46 hS hb0 hc hc2 hM r0 r1 g0 g1 p0 p1 f0 f1 HD
                go_wp2
                go_roundw
                case rel => exact ⟨j + 1, 0, ds, q, ok, rfl, by go_num, hS2, hq, hM2.out⟩
                case measure => simp [intOf]; omega
              · have HO := hS.out.odd hUl hxl hd (by omega) false
                clear hx46
                obtain ⟨rfl, rfl⟩ := readB_none_end HN.out HO
                obtain ⟨z0, z1⟩ := two_set (u := .int .i64 0) (v := .bool false) r0 r1
                replace z0 := Lib.hid z0
                replace z1 := Lib.hid z1
                have hb1 := Lib.hid hb0
                clear hd hxl hS hq hc hc2 hM hb0 p0 p1 f0 f1
                go_wp2_with (go_at_call 15; refine (HD.out _).mono ?_; rintro e w' ⟨rfl, rfl⟩)
                exact bodyPost_ret (v := .agg #[.int .i64 0, .bool false]) (by simp [results, Tryz.results32, go_sem, z0.out, z1.out]) rfl ⟨rfl, set2 hb1.out (Nat.le_refl _) _ _⟩
            · have HO := hS.out.odd hUl hxl hd (by omega) false
              clear hx46
              obtain ⟨rfl, rfl⟩ := readB_none_end HN.out HO
              obtain ⟨z0, z1⟩ := two_set (u := .int .i64 0) (v := .bool false) r0 r1
              replace z0 := Lib.hid z0
              replace z1 := Lib.hid z1
              have hb1 := Lib.hid hb0
              clear hd hxl hS hq hc hc2 hM hb0 p0 p1 f0 f1
              go_wp2_with (go_at_call 15; refine (HD.out _).mono ?_; rintro e w' ⟨rfl, rfl⟩)
              exact bodyPost_ret (v := .agg #[.int .i64 0, .bool false]) (by simp [results, Tryz.results32, go_sem, z0.out, z1.out]) rfl ⟨rfl, set2 hb1.out (Nat.le_refl _) _ _⟩
          · have e46 : ((x.toNat : Int) == 46) = false := by simp; omega
            have HO := hS.out.odd hUl hxl hd (fun h => h46 (by rw [h.1]; rfl)) false
            obtain ⟨rfl, rfl⟩ := readB_none_end HN.out HO
            obtain ⟨z0, z1⟩ := two_set (u := .int .i64 0) (v := .bool false) r0 r1
            replace z0 := Lib.hid z0
            replace z1 := Lib.hid z1
            have hb1 := Lib.hid hb0
            clear hd hxl hS hq hc hc2 hM hb0 p0 p1 f0 f1
            go_wp2_with (go_at_call 15; refine (HD.out _).mono ?_; rintro e w' ⟨rfl, rfl⟩)
            exact bodyPost_ret (v := .agg #[.int .i64 0, .bool false]) (by simp [results, Tryz.results32, go_sem, z0.out, z1.out]) rfl ⟨rfl, set2 hb1.out (Nat.le_refl _) _ _⟩
        · have hx2 := isD_iff.1 hd
          have e46 : ((x.toNat : Int) == 46) = false := by simp; omega
          have HD := Lib.hid (fun w1 => digit_c t j j rfl true ((digAt_in hxl).trans hd) w1)
          have hn2 := hS.out.digit hxl hd
          obtain ⟨d, hdd⟩ : ∃ d : Nat, x.toNat - 48 = d := ⟨_, rfl⟩
          have hd9 : d < 10 := by omega
          have hdc : (x.toNat : Int) - 48 = (d : Int) := by omega
          obtain ⟨⟨q2, ok2⟩, hq2⟩ : ∃ r, capD (valF 0 ds * 10 + d) = r := ⟨_, rfl⟩
          have HMo : Hid (∀ w1, Calls Tryz.prog 49 #[.agg #[.int .i64 q, .bool ok], .int .i64 ((x.toNat : Int) - 48)] w1 (GotIs q2 ok2 w1)) := Lib.hid (fun w1 => by rw [hdc]; exact more_c (valF 0 ds) d hd9 q ok hq.out q2 ok2 hq2 w1)
          have hq3 : Hid (capD (valF 0 (ds ++ [x])) = (q2, ok2)) := Lib.hid (by rw [valF_app, valF_cons, valF_nil, hdd]; exact hq2)
          by_cases hbv : bv < 0
          · rw [if_pos hbv] at hn2
            have hS2 := Lib.hid hn2
            have hM0 := Lib.hid hM
            clear hn2 hd hxl hq2 hdd hdc hS hq hb0 hc hc2 r0 r1 g0 g1 hM
            go_wp2_with (go_at_call 15; refine (HD.out _).mono ?_; rintro e w' ⟨rfl, rfl⟩)
            have hM1 := hM0.out.on (drew_b wr)
            obtain ⟨_, hc, hc2⟩ := id hM1
            have l3 := hc2.1
            obtain ⟨p0, p1, f0, f1⟩ := hc2.two
            have hM2 := Lib.hid hM1
            clear hM0 hc hc2 hM1
            go_still_tail 6, (by kernel_rfl)
            change wpList _ _ _ _ _ wr.drew
            generalize wr.drew = w3 at *
            go_wp2_with fail
            refine (HMo.out _).mono ?_
            rintro e w4 ⟨rfl, hb4⟩
            have hM3 := hM2.out.on hb4
            obtain ⟨_, hc, hc2⟩ := id hM3
            have l4 := hc2.1
            obtain ⟨p0, p1, f0, f1⟩ := hc2.two
            have hM4 := Lib.hid (hM3.put q2 ok2)
            clear hM3 hM2 hb4 hc hc2
            go_wp2_with fail
            go_roundw
            case rel => exact ⟨j + 1, bv, ds ++ [x], q2, ok2, by first | rfl | go_num, by go_num, hS2, hq3, hM4.out⟩
            case measure => simp [intOf]; omega
          · rw [if_neg hbv] at hn2
            have hS2 := Lib.hid hn2
            have hM0 := Lib.hid hM
            clear hn2 hd hxl hq2 hdd hdc hS hq hb0 hc hc2 r0 r1 g0 g1 hM
            go_wp2_with (go_at_call 15; refine (HD.out _).mono ?_; rintro e w' ⟨rfl, rfl⟩)
            have hM1 := hM0.out.on (drew_b wr)
            obtain ⟨_, hc, hc2⟩ := id hM1
            have l3 := hc2.1
            obtain ⟨p0, p1, f0, f1⟩ := hc2.two
            have hM2 := Lib.hid hM1
            clear hM0 hc hc2 hM1
            go_still_tail 6, (by kernel_rfl)
            change wpList _ _ _ _ _ wr.drew
            generalize wr.drew = w3 at *
            go_wp2_with fail
            refine (HMo.out _).mono ?_
            rintro e w4 ⟨rfl, hb4⟩
            have hM3 := hM2.out.on hb4
            obtain ⟨_, hc, hc2⟩ := id hM3
            have l4 := hc2.1
            obtain ⟨p0, p1, f0, f1⟩ := hc2.two
            have hM4 := Lib.hid (hM3.put q2 ok2)
            clear hM3 hM2 hb4 hc hc2
            go_wp2_with fail
            go_roundw
            case rel => exact ⟨j + 1, bv + 1, ds ++ [x], q2, ok2, by first | rfl | go_num, by go_num, hS2, hq3, hM4.out⟩
            case measure => simp [intOf]; omega
      · have hjl : j = t.data.toList.length := by rw [len]; omega
        by_cases hz : t.size = 0
        · have ez : ((t.size : Int) == 0) = true := by simpa using hz
          have HO := hS.out.none hUl hjl (.inl (by rw [len]; exact hz)) false
          clear hz
          obtain ⟨rfl, rfl⟩ := readB_none_end HN.out HO
          obtain ⟨z0, z1⟩ := two_set (u := .int .i64 0) (v := .bool false) r0 r1
          replace z0 := Lib.hid z0
          replace z1 := Lib.hid z1
          have hb1 := Lib.hid hb0
          clear hS hq hc hc2 hM hb0 p0 p1 f0 f1
          go_wp2
          exact bodyPost_ret (v := .agg #[.int .i64 0, .bool false]) (by simp [results, Tryz.results32, go_sem, z0.out, z1.out]) rfl ⟨rfl, set2 hb1.out (Nat.le_refl _) _ _⟩
        have ez : ((t.size : Int) == 0) = false := by simpa using hz
        have h0s : t.data.toList.length ≠ 0 := by rw [len]; exact hz
        by_cases hb0z : bv = 0
        · have eb : (bv == 0) = true := by simpa using hb0z
          have HO := hS.out.none hUl hjl (.inr (.inl hb0z)) false
          clear hb0z
          obtain ⟨rfl, rfl⟩ := readB_none_end HN.out HO
          obtain ⟨z0, z1⟩ := two_set (u := .int .i64 0) (v := .bool false) r0 r1
          replace z0 := Lib.hid z0
          replace z1 := Lib.hid z1
          have hb1 := Lib.hid hb0
          clear hS hq hc hc2 hM hb0 p0 p1 f0 f1
          go_wp2
          exact bodyPost_ret (v := .agg #[.int .i64 0, .bool false]) (by simp [results, Tryz.results32, go_sem, z0.out, z1.out]) rfl ⟨rfl, set2 hb1.out (Nat.le_refl _) _ _⟩
        have eb : (bv == 0) = false := by simpa using hb0z
        have hb0' : bv ≠ 0 := hb0z
        by_cases hb4z : 4 < bv
        · have HO := hS.out.none hUl hjl (.inr (.inr hb4z)) false
          obtain ⟨rfl, rfl⟩ := readB_none_end HN.out HO
          obtain ⟨z0, z1⟩ := two_set (u := .int .i64 0) (v := .bool false) r0 r1
          replace z0 := Lib.hid z0
          replace z1 := Lib.hid z1
          have hb1 := Lib.hid hb0
          clear hS hq hc hc2 hM hb0 p0 p1 f0 f1
          go_wp2
          exact bodyPost_ret (v := .agg #[.int .i64 0, .bool false]) (by simp [results, Tryz.results32, go_sem, z0.out, z1.out]) rfl ⟨rfl, set2 hb1.out (Nat.le_refl _) _ _⟩
        have hb4 : bv ≤ 4 := by omega
        by_cases hbv : bv < 0
        · have hbm : bv.toNat = 0 := by omega
          obtain ⟨c0, hc0⟩ : ∃ c0 : Nat, bv.toNat = c0 := ⟨_, rfl⟩
          have hc04 : c0 ≤ 4 := by omega
          go_wp2
          go_loopw [7] (fun c wr => ∃ (m : Nat) (q : Int) (ok : Bool), c0 ≤ m ∧ m ≤ 4 ∧ c = .int .i64 m ∧ Hid (capD (valF 0 (ds ++ List.replicate (m - c0) 48)) = (q, ok)) ∧ NumMem w wr q ok) (fun c _ => 4 - (intOf c).toNat)
          case atStart => exact ⟨c0, q, ok, Nat.le_refl _, hc04, by congr 1; omega, Lib.hid (by rw [Nat.sub_self, List.replicate_zero, List.append_nil]; exact hq.out), hM⟩
          case round =>
            clear hq hM hb0 hc hc2 l1 l2 p0 p1 f0 f1 r0 r1 g0 g1
            obtain ⟨m, q, ok, hm0, hm4, rfl, hq, hM⟩ := hrel
            obtain ⟨hb0, hc, hc2⟩ := id hM
            have l1 := hc.1
            have l2 := hc2.1
            obtain ⟨p0, p1, f0, f1⟩ := hc2.two
            obtain ⟨r0, r1, g0, g1⟩ := hc.two
            by_cases hm : m < 4
            · obtain ⟨⟨q2, ok2⟩, hq2⟩ : ∃ r, capD (valF 0 (ds ++ List.replicate (m - c0) 48) * 10 + 0) = r := ⟨_, rfl⟩
              have HMo : Hid (∀ w1, Calls Tryz.prog 49 #[.agg #[.int .i64 q, .bool ok], .int .i64 0] w1 (GotIs q2 ok2 w1)) := Lib.hid (fun w1 => more_c _ 0 (by omega) q ok hq.out q2 ok2 hq2 w1)
              have hq3 : Hid (capD (valF 0 (ds ++ List.replicate (m + 1 - c0) 48)) = (q2, ok2)) := Lib.hid (by
                rw [show m + 1 - c0 = (m - c0) + 1 by omega, List.replicate_succ', ← List.append_assoc, valF_app, valF_cons, valF_nil]
                exact hq2)
              have hM2 := Lib.hid hM
              clear hq2 hq hM hb0 hc hc2 r0 r1 g0 g1
              go_wp2_with fail
              refine (HMo.out _).mono ?_
              rintro e w4 ⟨rfl, hb4⟩
              have hM3 := hM2.out.on hb4
              obtain ⟨_, hc, hc2⟩ := id hM3
              have l4 := hc2.1
              obtain ⟨p0, p1, f0, f1⟩ := hc2.two
              have hM4 := Lib.hid (hM3.put q2 ok2)
              clear hM3 hM2 hb4 hc hc2
              go_wp2_with fail
              go_roundw
              case rel => exact ⟨m + 1, q2, ok2, by omega, by omega, by go_num, hq3, hM4.out⟩
              case measure => simp [intOf]; omega
            · have hq5 := hq.out
              rw [show m = 4 by omega] at hq5
              have hr := HN.out.symm.trans ((hS.out.done hUl hjl h0s hb0' hb4 false).trans (cap_signed false _))
              rw [hc0, hq5] at hr
              obtain ⟨rfl, rfl⟩ := Prod.mk.inj hr
              clear hr
              obtain ⟨z0, z1⟩ := two_set (u := .int .i64 n) (v := .bool k) r0 r1
              replace z0 := Lib.hid z0
              replace z1 := Lib.hid z1
              replace hb0 := Lib.hid hb0
              clear hq5 hS HN hc hc2 hM
              go_wp2
              exact bodyPost_ret (v := .agg #[.int .i64 n, .bool k]) (by simp [results, Tryz.results32, go_sem, z0.out, z1.out]) rfl ⟨rfl, set2 hb0.out (Nat.le_refl _) _ _⟩
        · have hbm : ((bv.toNat : Nat) : Int) = bv := by omega
          obtain ⟨c0, hc0⟩ : ∃ c0 : Nat, bv.toNat = c0 := ⟨_, rfl⟩
          have hc04 : c0 ≤ 4 := by omega
          go_wp2
          go_loopw [7] (fun c wr => ∃ (m : Nat) (q : Int) (ok : Bool), c0 ≤ m ∧ m ≤ 4 ∧ c = .int .i64 m ∧ Hid (capD (valF 0 (ds ++ List.replicate (m - c0) 48)) = (q, ok)) ∧ NumMem w wr q ok) (fun c _ => 4 - (intOf c).toNat)
          case atStart => exact ⟨c0, q, ok, Nat.le_refl _, hc04, by congr 1; omega, Lib.hid (by rw [Nat.sub_self, List.replicate_zero, List.append_nil]; exact hq.out), hM⟩
          case round =>
            clear hq hM hb0 hc hc2 l1 l2 p0 p1 f0 f1 r0 r1 g0 g1
            obtain ⟨m, q, ok, hm0, hm4, rfl, hq, hM⟩ := hrel
            obtain ⟨hb0, hc, hc2⟩ := id hM
            have l1 := hc.1
            have l2 := hc2.1
            obtain ⟨p0, p1, f0, f1⟩ := hc2.two
            obtain ⟨r0, r1, g0, g1⟩ := hc.two
            by_cases hm : m < 4
            · obtain ⟨⟨q2, ok2⟩, hq2⟩ : ∃ r, capD (valF 0 (ds ++ List.replicate (m - c0) 48) * 10 + 0) = r := ⟨_, rfl⟩
              have HMo : Hid (∀ w1, Calls Tryz.prog 49 #[.agg #[.int .i64 q, .bool ok], .int .i64 0] w1 (GotIs q2 ok2 w1)) := Lib.hid (fun w1 => more_c _ 0 (by omega) q ok hq.out q2 ok2 hq2 w1)
              have hq3 : Hid (capD (valF 0 (ds ++ List.replicate (m + 1 - c0) 48)) = (q2, ok2)) := Lib.hid (by
                rw [show m + 1 - c0 = (m - c0) + 1 by omega, List.replicate_succ', ← List.append_assoc, valF_app, valF_cons, valF_nil]
                exact hq2)
              have hM2 := Lib.hid hM
              clear hq2 hq hM hb0 hc hc2 r0 r1 g0 g1
              go_wp2_with fail
              refine (HMo.out _).mono ?_
              rintro e w4 ⟨rfl, hb4⟩
              have hM3 := hM2.out.on hb4
              obtain ⟨_, hc, hc2⟩ := id hM3
              have l4 := hc2.1
              obtain ⟨p0, p1, f0, f1⟩ := hc2.two
              have hM4 := Lib.hid (hM3.put q2 ok2)
              clear hM3 hM2 hb4 hc hc2
              go_wp2_with fail
              go_roundw
              case rel => exact ⟨m + 1, q2, ok2, by omega, by omega, by go_num, hq3, hM4.out⟩
              case measure => simp [intOf]; omega
            · have hq5 := hq.out
              rw [show m = 4 by omega] at hq5
              have hr := HN.out.symm.trans ((hS.out.done hUl hjl h0s hb0' hb4 false).trans (cap_signed false _))
              rw [hc0, hq5] at hr
              obtain ⟨rfl, rfl⟩ := Prod.mk.inj hr
              clear hr
              obtain ⟨z0, z1⟩ := two_set (u := .int .i64 n) (v := .bool k) r0 r1
              replace z0 := Lib.hid z0
              replace z1 := Lib.hid z1
              replace hb0 := Lib.hid hb0
              clear hq5 hS HN hc hc2 hM
              go_wp2
              exact bodyPost_ret (v := .agg #[.int .i64 n, .bool k]) (by simp [results, Tryz.results32, go_sem, z0.out, z1.out]) rfl ⟨rfl, set2 hb0.out (Nat.le_refl _) _ _⟩
set_option maxRecDepth 100000 in
set_option maxHeartbeats 4000000 in
theorem rread_neg (t u : ByteArray) (hl : t.size ≤ 40) (hp : t.data.toList.head? = some 45) (hu : t.extract 1 t.size = u) (n : Int) (k : Bool) (hn : readB true u.data.toList = (n, k)) (w : World) : Calls Tryz.prog 32 #[.string t] w (GotIs n k w) := by
  have d0 : decide (40 < t.size) = false := decide_eq_false (by omega)
  have HN := Lib.hid hn
  have h0 : 0 < t.size := by
    rw [← len]
    rcases hq : t.data.toList with _ | ⟨x, y⟩
    · rw [hq] at hp; cases hp
    · simp
  have ht1 : 1 ≤ t.size := h0
  obtain ⟨x0, hx0⟩ : ∃ x : UInt8, t[0]'h0 = x := ⟨_, rfl⟩
  have hx1 : x0 = 45 := by
    have h1 := Lib.data_getElem? t 0 h0
    rw [hx0, ← List.head?_eq_getElem?, hp] at h1
    exact (Option.some.inj h1).symm
  have e0 : ((x0.toNat : Int) == 45) = true := by rw [hx1]; rfl
  have hul : u.size ≤ 40 := by rw [← hu]; simp; omega
  clear hn hp hx1
  go_enter Tryz.func32, Tryz.ntmps32
  go_wp2
  clear hx0 e0
  go_loopw [5, 6] (fun b i wr => ∃ (j : Nat) (bv : Int) (ds : List UInt8) (q : Int) (ok : Bool), b = .int .i64 bv ∧ i = .int .i64 j ∧ Hid (ScanAt u.data.toList j bv ds) ∧ Hid (capD (valF 0 ds) = (q, ok)) ∧ NumMem w wr q ok) (fun _ i _ => u.size - (intOf i).toNat)
  case atStart => exact ⟨0, -1, [], 0, true, rfl, rfl, Lib.hid (ScanAt.start _), Lib.hid rfl, NumMem.start w 0 true⟩
  case round =>
    obtain ⟨j, bv, ds, q, ok, rfl, rfl, hS, hq, hM⟩ := hrel
    have hj : j ≤ u.size := by rw [← len]; exact hS.out.1
    obtain ⟨b1, b2⟩ := hS.out.bound
    have hUl : u.data.toList.length ≤ 40 := by rw [len]; exact hul
    obtain ⟨hb0, hc, hc2⟩ := id hM
    have l1 := hc.1
    have l2 := hc2.1
    obtain ⟨p0, p1, f0, f1⟩ := hc2.two
    obtain ⟨r0, r1, g0, g1⟩ := hc.two
    by_cases hlt : j < u.size
    · obtain ⟨x, hx⟩ : ∃ x : UInt8, u[j]'hlt = x := ⟨_, rfl⟩
      have hxl : u.data.toList[j]? = some x := by rw [← hx]; exact Lib.data_getElem? u j hlt
      have hx256 := x.toNat_lt
      cases hd : isD x
      · have HD := Lib.hid (fun w1 => digit_c u j j rfl false ((digAt_in hxl).trans hd) w1)
        by_cases h46 : x.toNat = 46
        · have e46 : ((x.toNat : Int) == 46) = true := by simp; omega
          have hx46 : x = 46 := UInt8.toNat_inj.1 h46
          by_cases hbv : bv < 0
          · by_cases hj0 : 0 < j
            · have hS2 := Lib.hid (hS.out.point hbv hj0 (by rw [hxl, hx46]))
              have hM2 := Lib.hid hM
              clear hd hxl hx46 hS hb0 hc hc2 hM r0 r1 g0 g1 p0 p1 f0 f1 HD
              go_wp2
              go_roundw
              case rel => exact ⟨j + 1, 0, ds, q, ok, rfl, by go_num, hS2, hq, hM2.out⟩
              case measure => simp [intOf]; omega
            · have HO := hS.out.odd hUl hxl hd (by omega) true
              clear hx46
              obtain ⟨rfl, rfl⟩ := readB_none_end HN.out HO
              obtain ⟨z0, z1⟩ := two_set (u := .int .i64 0) (v := .bool false) r0 r1
              replace z0 := Lib.hid z0
              replace z1 := Lib.hid z1
              have hb1 := Lib.hid hb0
              clear hd hxl hS hq hc hc2 hM hb0 p0 p1 f0 f1
              go_wp2_with (go_at_call 15; refine (HD.out _).mono ?_; rintro e w' ⟨rfl, rfl⟩)
              exact bodyPost_ret (v := .agg #[.int .i64 0, .bool false]) (by simp [results, Tryz.results32, go_sem, z0.out, z1.out]) rfl ⟨rfl, set2 hb1.out (Nat.le_refl _) _ _⟩
          · have HO := hS.out.odd hUl hxl hd (by omega) true
            clear hx46
            obtain ⟨rfl, rfl⟩ := readB_none_end HN.out HO
            obtain ⟨z0, z1⟩ := two_set (u := .int .i64 0) (v := .bool false) r0 r1
            replace z0 := Lib.hid z0
            replace z1 := Lib.hid z1
            have hb1 := Lib.hid hb0
            clear hd hxl hS hq hc hc2 hM hb0 p0 p1 f0 f1
            go_wp2_with (go_at_call 15; refine (HD.out _).mono ?_; rintro e w' ⟨rfl, rfl⟩)
            exact bodyPost_ret (v := .agg #[.int .i64 0, .bool false]) (by simp [results, Tryz.results32, go_sem, z0.out, z1.out]) rfl ⟨rfl, set2 hb1.out (Nat.le_refl _) _ _⟩
        · have e46 : ((x.toNat : Int) == 46) = false := by simp; omega
          have HO := hS.out.odd hUl hxl hd (fun h => h46 (by rw [h.1]; rfl)) true
          obtain ⟨rfl, rfl⟩ := readB_none_end HN.out HO
          obtain ⟨z0, z1⟩ := two_set (u := .int .i64 0) (v := .bool false) r0 r1
          replace z0 := Lib.hid z0
          replace z1 := Lib.hid z1
          have hb1 := Lib.hid hb0
          clear hd hxl hS hq hc hc2 hM hb0 p0 p1 f0 f1
          go_wp2_with (go_at_call 15; refine (HD.out _).mono ?_; rintro e w' ⟨rfl, rfl⟩)
          exact bodyPost_ret (v := .agg #[.int .i64 0, .bool false]) (by simp [results, Tryz.results32, go_sem, z0.out, z1.out]) rfl ⟨rfl, set2 hb1.out (Nat.le_refl _) _ _⟩
      · have hx2 := isD_iff.1 hd
        have e46 : ((x.toNat : Int) == 46) = false := by simp; omega
        have HD := Lib.hid (fun w1 => digit_c u j j rfl true ((digAt_in hxl).trans hd) w1)
        have hn2 := hS.out.digit hxl hd
        obtain ⟨d, hdd⟩ : ∃ d : Nat, x.toNat - 48 = d := ⟨_, rfl⟩
        have hd9 : d < 10 := by omega
        have hdc : (x.toNat : Int) - 48 = (d : Int) := by omega
        obtain ⟨⟨q2, ok2⟩, hq2⟩ : ∃ r, capD (valF 0 ds * 10 + d) = r := ⟨_, rfl⟩
        have HMo : Hid (∀ w1, Calls Tryz.prog 49 #[.agg #[.int .i64 q, .bool ok], .int .i64 ((x.toNat : Int) - 48)] w1 (GotIs q2 ok2 w1)) := Lib.hid (fun w1 => by rw [hdc]; exact more_c (valF 0 ds) d hd9 q ok hq.out q2 ok2 hq2 w1)
        have hq3 : Hid (capD (valF 0 (ds ++ [x])) = (q2, ok2)) := Lib.hid (by rw [valF_app, valF_cons, valF_nil, hdd]; exact hq2)
        by_cases hbv : bv < 0
        · rw [if_pos hbv] at hn2
          have hS2 := Lib.hid hn2
          have hM0 := Lib.hid hM
          clear hn2 hd hxl hq2 hdd hdc hS hq hb0 hc hc2 r0 r1 g0 g1 hM
          go_wp2_with (go_at_call 15; refine (HD.out _).mono ?_; rintro e w' ⟨rfl, rfl⟩)
          have hM1 := hM0.out.on (drew_b wr)
          obtain ⟨_, hc, hc2⟩ := id hM1
          have l3 := hc2.1
          obtain ⟨p0, p1, f0, f1⟩ := hc2.two
          have hM2 := Lib.hid hM1
          clear hM0 hc hc2 hM1
          go_still_tail 6, (by kernel_rfl)
          change wpList _ _ _ _ _ wr.drew
          generalize wr.drew = w3 at *
          go_wp2_with fail
          refine (HMo.out _).mono ?_
          rintro e w4 ⟨rfl, hb4⟩
          have hM3 := hM2.out.on hb4
          obtain ⟨_, hc, hc2⟩ := id hM3
          have l4 := hc2.1
          obtain ⟨p0, p1, f0, f1⟩ := hc2.two
          have hM4 := Lib.hid (hM3.put q2 ok2)
          clear hM3 hM2 hb4 hc hc2
          go_wp2_with fail
          go_roundw
          case rel => exact ⟨j + 1, bv, ds ++ [x], q2, ok2, by first | rfl | go_num, by go_num, hS2, hq3, hM4.out⟩
          case measure => simp [intOf]; omega
        · rw [if_neg hbv] at hn2
          have hS2 := Lib.hid hn2
          have hM0 := Lib.hid hM
          clear hn2 hd hxl hq2 hdd hdc hS hq hb0 hc hc2 r0 r1 g0 g1 hM
          go_wp2_with (go_at_call 15; refine (HD.out _).mono ?_; rintro e w' ⟨rfl, rfl⟩)
          have hM1 := hM0.out.on (drew_b wr)
          obtain ⟨_, hc, hc2⟩ := id hM1
          have l3 := hc2.1
          obtain ⟨p0, p1, f0, f1⟩ := hc2.two
          have hM2 := Lib.hid hM1
          clear hM0 hc hc2 hM1
          go_still_tail 6, (by kernel_rfl)
          change wpList _ _ _ _ _ wr.drew
          generalize wr.drew = w3 at *
          go_wp2_with fail
          refine (HMo.out _).mono ?_
          rintro e w4 ⟨rfl, hb4⟩
          have hM3 := hM2.out.on hb4
          obtain ⟨_, hc, hc2⟩ := id hM3
          have l4 := hc2.1
          obtain ⟨p0, p1, f0, f1⟩ := hc2.two
          have hM4 := Lib.hid (hM3.put q2 ok2)
          clear hM3 hM2 hb4 hc hc2
          go_wp2_with fail
          go_roundw
          case rel => exact ⟨j + 1, bv + 1, ds ++ [x], q2, ok2, by first | rfl | go_num, by go_num, hS2, hq3, hM4.out⟩
          case measure => simp [intOf]; omega
    · have hjl : j = u.data.toList.length := by rw [len]; omega
      by_cases hz : u.size = 0
      · have ez : ((u.size : Int) == 0) = true := by simpa using hz
        have HO := hS.out.none hUl hjl (.inl (by rw [len]; exact hz)) true
        clear hz
        obtain ⟨rfl, rfl⟩ := readB_none_end HN.out HO
        obtain ⟨z0, z1⟩ := two_set (u := .int .i64 0) (v := .bool false) r0 r1
        replace z0 := Lib.hid z0
        replace z1 := Lib.hid z1
        have hb1 := Lib.hid hb0
        clear hS hq hc hc2 hM hb0 p0 p1 f0 f1
        go_wp2
        exact bodyPost_ret (v := .agg #[.int .i64 0, .bool false]) (by simp [results, Tryz.results32, go_sem, z0.out, z1.out]) rfl ⟨rfl, set2 hb1.out (Nat.le_refl _) _ _⟩
      have ez : ((u.size : Int) == 0) = false := by simpa using hz
      have h0s : u.data.toList.length ≠ 0 := by rw [len]; exact hz
      by_cases hb0z : bv = 0
      · have eb : (bv == 0) = true := by simpa using hb0z
        have HO := hS.out.none hUl hjl (.inr (.inl hb0z)) true
        clear hb0z
        obtain ⟨rfl, rfl⟩ := readB_none_end HN.out HO
        obtain ⟨z0, z1⟩ := two_set (u := .int .i64 0) (v := .bool false) r0 r1
        replace z0 := Lib.hid z0
        replace z1 := Lib.hid z1
        have hb1 := Lib.hid hb0
        clear hS hq hc hc2 hM hb0 p0 p1 f0 f1
        go_wp2
        exact bodyPost_ret (v := .agg #[.int .i64 0, .bool false]) (by simp [results, Tryz.results32, go_sem, z0.out, z1.out]) rfl ⟨rfl, set2 hb1.out (Nat.le_refl _) _ _⟩
      have eb : (bv == 0) = false := by simpa using hb0z
      have hb0' : bv ≠ 0 := hb0z
      by_cases hb4z : 4 < bv
      · have HO := hS.out.none hUl hjl (.inr (.inr hb4z)) true
        obtain ⟨rfl, rfl⟩ := readB_none_end HN.out HO
        obtain ⟨z0, z1⟩ := two_set (u := .int .i64 0) (v := .bool false) r0 r1
        replace z0 := Lib.hid z0
        replace z1 := Lib.hid z1
        have hb1 := Lib.hid hb0
        clear hS hq hc hc2 hM hb0 p0 p1 f0 f1
        go_wp2
        exact bodyPost_ret (v := .agg #[.int .i64 0, .bool false]) (by simp [results, Tryz.results32, go_sem, z0.out, z1.out]) rfl ⟨rfl, set2 hb1.out (Nat.le_refl _) _ _⟩
      have hb4 : bv ≤ 4 := by omega
      by_cases hbv : bv < 0
      · have hbm : bv.toNat = 0 := by omega
        obtain ⟨c0, hc0⟩ : ∃ c0 : Nat, bv.toNat = c0 := ⟨_, rfl⟩
        have hc04 : c0 ≤ 4 := by omega
        go_wp2
        go_loopw [7] (fun c wr => ∃ (m : Nat) (q : Int) (ok : Bool), c0 ≤ m ∧ m ≤ 4 ∧ c = .int .i64 m ∧ Hid (capD (valF 0 (ds ++ List.replicate (m - c0) 48)) = (q, ok)) ∧ NumMem w wr q ok) (fun c _ => 4 - (intOf c).toNat)
        case atStart => exact ⟨c0, q, ok, Nat.le_refl _, hc04, by congr 1; omega, Lib.hid (by rw [Nat.sub_self, List.replicate_zero, List.append_nil]; exact hq.out), hM⟩
        case round =>
          clear hq hM hb0 hc hc2 l1 l2 p0 p1 f0 f1 r0 r1 g0 g1
          obtain ⟨m, q, ok, hm0, hm4, rfl, hq, hM⟩ := hrel
          obtain ⟨hb0, hc, hc2⟩ := id hM
          have l1 := hc.1
          have l2 := hc2.1
          obtain ⟨p0, p1, f0, f1⟩ := hc2.two
          obtain ⟨r0, r1, g0, g1⟩ := hc.two
          by_cases hm : m < 4
          · obtain ⟨⟨q2, ok2⟩, hq2⟩ : ∃ r, capD (valF 0 (ds ++ List.replicate (m - c0) 48) * 10 + 0) = r := ⟨_, rfl⟩
            have HMo : Hid (∀ w1, Calls Tryz.prog 49 #[.agg #[.int .i64 q, .bool ok], .int .i64 0] w1 (GotIs q2 ok2 w1)) := Lib.hid (fun w1 => more_c _ 0 (by omega) q ok hq.out q2 ok2 hq2 w1)
            have hq3 : Hid (capD (valF 0 (ds ++ List.replicate (m + 1 - c0) 48)) = (q2, ok2)) := Lib.hid (by
              rw [show m + 1 - c0 = (m - c0) + 1 by omega, List.replicate_succ', ← List.append_assoc, valF_app, valF_cons, valF_nil]
              exact hq2)
            have hM2 := Lib.hid hM
            clear hq2 hq hM hb0 hc hc2 r0 r1 g0 g1
            go_wp2_with fail
            refine (HMo.out _).mono ?_
            rintro e w4 ⟨rfl, hb4⟩
            have hM3 := hM2.out.on hb4
            obtain ⟨_, hc, hc2⟩ := id hM3
            have l4 := hc2.1
            obtain ⟨p0, p1, f0, f1⟩ := hc2.two
            have hM4 := Lib.hid (hM3.put q2 ok2)
            clear hM3 hM2 hb4 hc hc2
            go_wp2_with fail
            go_roundw
            case rel => exact ⟨m + 1, q2, ok2, by omega, by omega, by go_num, hq3, hM4.out⟩
            case measure => simp [intOf]; omega
          · have hq5 := hq.out
            rw [show m = 4 by omega] at hq5
            have hroom := giveD_room hq5
            have hq1 := hroom.1
            have hq2 := hroom.2
            have hr := HN.out.symm.trans ((hS.out.done hUl hjl h0s hb0' hb4 true).trans (cap_signed true _))
            rw [hc0, hq5] at hr
            have hn2 : n = -q := by have := (Prod.mk.inj hr).1; simpa using this
            have hk2 : k = ok := (Prod.mk.inj hr).2
            subst hn2
            subst hk2
            clear hr
            have hM2 := hM.put1 (-q)
            obtain ⟨hb5, hc5, hc6⟩ := id hM2
            obtain ⟨r0', r1', g0', g1'⟩ := hc5.two
            obtain ⟨s0, s1, _, _⟩ := hc6.two
            obtain ⟨z0, z1⟩ := two_set (u := .int .i64 (-q)) (v := .bool k) r0' r1'
            replace z0 := Lib.hid z0
            replace z1 := Lib.hid z1
            replace hb5 := Lib.hid hb5
            clear hq5 hS HN hc hc2 hM hroom hM2 hc5 hc6
            go_wp2
            exact bodyPost_ret (v := .agg #[.int .i64 (-q), .bool k]) (by simp [results, Tryz.results32, go_sem, z0.out, z1.out]) rfl ⟨rfl, set2 hb5.out (Nat.le_refl _) _ _⟩
      · have hbm : ((bv.toNat : Nat) : Int) = bv := by omega
        obtain ⟨c0, hc0⟩ : ∃ c0 : Nat, bv.toNat = c0 := ⟨_, rfl⟩
        have hc04 : c0 ≤ 4 := by omega
        go_wp2
        go_loopw [7] (fun c wr => ∃ (m : Nat) (q : Int) (ok : Bool), c0 ≤ m ∧ m ≤ 4 ∧ c = .int .i64 m ∧ Hid (capD (valF 0 (ds ++ List.replicate (m - c0) 48)) = (q, ok)) ∧ NumMem w wr q ok) (fun c _ => 4 - (intOf c).toNat)
        case atStart => exact ⟨c0, q, ok, Nat.le_refl _, hc04, by congr 1; omega, Lib.hid (by rw [Nat.sub_self, List.replicate_zero, List.append_nil]; exact hq.out), hM⟩
        case round =>
          clear hq hM hb0 hc hc2 l1 l2 p0 p1 f0 f1 r0 r1 g0 g1
          obtain ⟨m, q, ok, hm0, hm4, rfl, hq, hM⟩ := hrel
          obtain ⟨hb0, hc, hc2⟩ := id hM
          have l1 := hc.1
          have l2 := hc2.1
          obtain ⟨p0, p1, f0, f1⟩ := hc2.two
          obtain ⟨r0, r1, g0, g1⟩ := hc.two
          by_cases hm : m < 4
          · obtain ⟨⟨q2, ok2⟩, hq2⟩ : ∃ r, capD (valF 0 (ds ++ List.replicate (m - c0) 48) * 10 + 0) = r := ⟨_, rfl⟩
            have HMo : Hid (∀ w1, Calls Tryz.prog 49 #[.agg #[.int .i64 q, .bool ok], .int .i64 0] w1 (GotIs q2 ok2 w1)) := Lib.hid (fun w1 => more_c _ 0 (by omega) q ok hq.out q2 ok2 hq2 w1)
            have hq3 : Hid (capD (valF 0 (ds ++ List.replicate (m + 1 - c0) 48)) = (q2, ok2)) := Lib.hid (by
              rw [show m + 1 - c0 = (m - c0) + 1 by omega, List.replicate_succ', ← List.append_assoc, valF_app, valF_cons, valF_nil]
              exact hq2)
            have hM2 := Lib.hid hM
            clear hq2 hq hM hb0 hc hc2 r0 r1 g0 g1
            go_wp2_with fail
            refine (HMo.out _).mono ?_
            rintro e w4 ⟨rfl, hb4⟩
            have hM3 := hM2.out.on hb4
            obtain ⟨_, hc, hc2⟩ := id hM3
            have l4 := hc2.1
            obtain ⟨p0, p1, f0, f1⟩ := hc2.two
            have hM4 := Lib.hid (hM3.put q2 ok2)
            clear hM3 hM2 hb4 hc hc2
            go_wp2_with fail
            go_roundw
            case rel => exact ⟨m + 1, q2, ok2, by omega, by omega, by go_num, hq3, hM4.out⟩
            case measure => simp [intOf]; omega
          · have hq5 := hq.out
            rw [show m = 4 by omega] at hq5
            have hroom := giveD_room hq5
            have hq1 := hroom.1
            have hq2 := hroom.2
            have hr := HN.out.symm.trans ((hS.out.done hUl hjl h0s hb0' hb4 true).trans (cap_signed true _))
            rw [hc0, hq5] at hr
            have hn2 : n = -q := by have := (Prod.mk.inj hr).1; simpa using this
            have hk2 : k = ok := (Prod.mk.inj hr).2
            subst hn2
            subst hk2
            clear hr
            have hM2 := hM.put1 (-q)
            obtain ⟨hb5, hc5, hc6⟩ := id hM2
            obtain ⟨r0', r1', g0', g1'⟩ := hc5.two
            obtain ⟨s0, s1, _, _⟩ := hc6.two
            obtain ⟨z0, z1⟩ := two_set (u := .int .i64 (-q)) (v := .bool k) r0' r1'
            replace z0 := Lib.hid z0
            replace z1 := Lib.hid z1
            replace hb5 := Lib.hid hb5
            clear hq5 hS HN hc hc2 hM hroom hM2 hc5 hc6
            go_wp2
            exact bodyPost_ret (v := .agg #[.int .i64 (-q), .bool k]) (by simp [results, Tryz.results32, go_sem, z0.out, z1.out]) rfl ⟨rfl, set2 hb5.out (Nat.le_refl _) _ _⟩
theorem rread_c (t : ByteArray) (n : Int) (k : Bool) (hn : readD t.data.toList = (n, k)) (w : World) : Calls Tryz.prog 32 #[.string t] w (GotIs n k w) := by
  unfold readD at hn
  rw [len] at hn
  by_cases h1 : 40 < t.size
  · rw [if_pos h1] at hn
    obtain ⟨rfl, rfl⟩ := Prod.mk.inj hn
    exact rread_long t h1 w
  · rw [if_neg h1] at hn
    by_cases h2 : t.data.toList.head? = some 45
    · rw [if_pos h2] at hn
      exact rread_neg t _ (by omega) h2 rfl n k (by rw [ext_drop]; exact hn) w
    · rw [if_neg h2] at hn
      exact rread_plain t (by omega) h2 n k hn w
end Go.Proofs.YtmoednmgmmgjeaaGreatDoor.Dig
