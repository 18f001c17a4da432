/- What package order's Mode answers: for any slice of at most 1000 numbers. How often a number is there is kept in a map. -/
import Derived.Test.YtngnjphhjmhomaaOrdGo
namespace Go.Proofs.Ytngnjphhjmhomaa.Odr
open Go.RowKit Kit Reg Dec Go.Maps

theorem lawK : Keyed Try.prog 2 := int_keyed Try.underlying2
theorem zeroE (w : World) : (zeroValue 3).run Try.prog w = .ok (.int .i64 0) w := by kernel_rfl
/-- a map of one's own that reads as how often each number is there -/
def MapC (B k : Nat) (p : List Int) (w : World) : Prop := ∃ D, w.ownsMap Try.prog 2 (plainElem (H := Unit) Try.prog 3) B k D ∧ IsCnt D p
theorem MapC.on {B k : Nat} {p : List Int} {w w' : World} (h : MapC B k p w) (hb : Below w.heap.size w w') : MapC B k p w' := by
  obtain ⟨D, h1, h2⟩ := h
  exact ⟨D, h1.kept (below_none hb) (by simp), h2⟩
theorem key_of (x : Int) (h : -9223372036854775808 ≤ x ∧ x ≤ 9223372036854775807) : keyOf Try.prog 2 (.int .i64 x) = some (.int .i64 x) :=
  keyOf_int_mk Try.underlying2 (by simp [Lit.wf, IntKind.min, IntKind.max, IntKind.signed, IntKind.bits]; omega)
theorem MapC.look {B k : Nat} {p : List Int} {w : World} (h : MapC B k p w) (x : Int) (hx : -9223372036854775808 ≤ x ∧ x ≤ 9223372036854775807) (c : Nat) (hc : p.count x = c) :
    (Instr.lookup 43 (.map (some B)) (.int .i64 x) false).run Try.prog w = .ok (.int .i64 (c : Int)) w := by
  obtain ⟨D, h1, h2⟩ := h
  obtain ⟨q, hr, ha, _⟩ := h1.lookup_int lawK Try.underlying43 Try.underlying3 (zeroE _) (key_of x hx)
  have e := ha.symm.trans (h2.2 x)
  simp only [DataW.lit.injEq, Lit.int.injEq, true_and] at e
  rw [hr, e, hc]
set_option maxRecDepth 100000 in
set_option maxHeartbeats 2000000 in
theorem mode_c (A : Option Addr) (n c : Nat) (xs : List Int) (hn : n ≤ 1000) (m : Int) (b : Bool) (hm : modeD xs = (m, b)) (w : World) (hz : NumsR w A n c xs) :
    Calls Try.prog 15 #[.slice A n c] w (TwoB m b w) := by
  have HZ := Lib.hid hz
  have HM := Lib.hid hm
  clear hz hm
  have hmm := @run_makeMap Try.prog
  go_enter Try.func15, Try.ntmps15
  go_wp2
  go_loopw [6, 14] (fun _ i wr => ∃ k : Nat, k ≤ n ∧ i = .int .i64 k ∧ MapC w.heap.size k (xs.take k) wr ∧ Below w.heap.size w wr) (fun _ i _ => n - (intOf i).toNat)
  case atStart => exact ⟨0, Nat.zero_le _, rfl, ⟨_, World.ownsMap_made _ _ _ _, IsCnt.start⟩, (Below.refl _ _).alloc (Nat.le_refl _) _⟩
  case round =>
    obtain ⟨k, hk, rfl, hmap, hb⟩ := hrel
    by_cases hlt : k < n
    · obtain ⟨x, hx⟩ := HZ.out.get hlt
      have hfit := HZ.out.fit hx
      obtain ⟨g, o, rfl, hg, c0⟩ := (HZ.out.on hb).at hx
      have HX := Lib.hid hx
      have hkey := key_of x hfit
      obtain ⟨D, hown, hD⟩ := hmap
      have hstep := hD.step x
      obtain ⟨q, hq⟩ : ∃ q, (xs.take k).count x = q := ⟨_, rfl⟩
      have hqk : q ≤ k := by rw [← hq]; exact Nat.le_trans List.count_le_length (by rw [List.length_take]; omega)
      have hat0 : D.atKey (.int .i64 x) (.lit (.int .i64 0)) = .lit (.int .i64 (q : Int)) := by rw [← hq]; exact hD.2 x
      have HD : Hid (IsCnt (D.put (.int .i64 x) (.lit (.int .i64 ((q : Int) + 1)))) (xs.take (k + 1))) := Lib.hid (by rw [take_one hx]; rw [hq] at hstep; exact hstep)
      clear hstep hq hD hx
      go_wp2_with (first
        | (at_lookup; refine wpList_lookup_own_int _ rfl _ _ 43 rfl 2 3 .i64 lawK Try.underlying43 Try.underlying3 (zeroE _) w.heap.size k _ rfl hown _ _ rfl hkey ?_; intro c1 hat hwc; obtain rfl : (q : Int) = c1 := by (have e := hat0.symm.trans hat; simpa using e))
        | (at_mapUpdate; refine wpList_mapUpdate_own _ rfl _ _ _ 43 rfl 2 3 lawK Try.underlying43 _ w.heap.size k _ rfl hown (by unfold maxLen; omega) _ _ _ rfl rfl hkey _ [] (plainElem_int Try.underlying3 (WalkArith.wf_i64 (by omega))) ?_; intro w1 hown1 hgrow1))
      go_roundw
      case rel => exact ⟨k + 1, by omega, by go_num, ⟨_, hown1, HD.out⟩, hb.grown hgrow1 hb.size (fun j hj => by cases hj; exact Nat.le_refl _)⟩
      case measure => simp [intOf]; omega
    · obtain rfl : k = n := by omega
      rw [List.take_of_length_le (by rw [HZ.out.len]; omega)] at hmap
      have HC := Lib.hid hmap
      have HB := Lib.hid hb
      clear hmap hb
      go_wp2
      generalize wr = w1 at *
      go_loopw [7, 8, 10, 25] (fun m o _ i wr => ∃ (j d : Nat) (y : Int), j ≤ k ∧ i = .int .i64 j ∧ Hid (modeAt xs j = (y, d)) ∧ d ≤ 1000 ∧ 1 ≤ d ∧ m = .int .i64 y ∧ o = .int .i64 d ∧ ∃ q, wr = w1.drewN q) (fun _ _ _ i _ => k - (intOf i).toNat)
      case atStart => exact ⟨0, 1, 0, Nat.zero_le _, rfl, Lib.hid rfl, by omega, by omega, rfl, rfl, 0, rfl⟩
      case round =>
        obtain ⟨j, d, y, hj, rfl, HJ, hd, hd1, rfl, rfl, qr, rfl⟩ := hrel
        by_cases hlt2 : j < k
        · obtain ⟨x, hx⟩ := HZ.out.get hlt2
          have hfit := HZ.out.fit hx
          have hbw : Below w1.heap.size w1 (w1.drewN qr) := drew_below rfl
          obtain ⟨g, o, rfl, hg, c0⟩ := ((HZ.out.on HB.out).on hbw).at hx
          obtain ⟨q, hq⟩ : ∃ q, xs.count x = q := ⟨_, rfl⟩
          have hqk : q ≤ 1000 := by rw [← hq]; exact Nat.le_trans List.count_le_length (by rw [HZ.out.len]; omega)
          have hl : ∀ s, (Instr.lookup 43 (.map (some w.heap.size)) (.int .i64 x) false).run Try.prog (w1.drewN s) = .ok (.int .i64 (q : Int)) (w1.drewN s) := fun s => (HC.out.on (drew_below rfl)).look x hfit q hq
          by_cases hc : d < q
          · have HN : Hid (modeAt xs (j + 1) = (x, q)) := Lib.hid (by rw [modeAt_hit hx HJ.out (by rw [hq]; exact hc), hq])
            clear hx hq HJ
            go_wp2
            go_quiet (fail)
            go_wp2
            go_roundw
            case rel => exact ⟨j + 1, q, x, by omega, by go_num, HN, hqk, by omega, rfl, rfl, _, rfl⟩
            case measure => simp [intOf]; omega
          · have HN : Hid (modeAt xs (j + 1) = (y, d)) := Lib.hid (modeAt_miss hx HJ.out (by rw [hq]; exact hc))
            clear hx hq HJ
            go_wp2
            go_roundw
            case rel => exact ⟨j + 1, d, y, by omega, by go_num, HN, hd, hd1, rfl, rfl, _, rfl⟩
            case measure => simp [intOf]; omega
        · obtain rfl : j = k := by omega
          have hE : modeD xs = (y, decide (1 < d)) := by rw [modeD, HZ.out.len, HJ.out]
          have HE := Lib.hid (hE.symm.trans HM.out)
          have hbx : Below w.heap.size w (w1.drewN qr) := on HB.out (drew_below rfl)
          clear hE
          by_cases h1 : 1 < d
          · have q1 : b = true := by rw [← (Prod.mk.inj HE.out).2]; exact decide_eq_true h1
            have q2 : Hid (y = m) := Lib.hid (Prod.mk.inj HE.out).1
            have q3 : decide ((1 : Int) < (d : Int)) = true := decide_eq_true (by omega)
            subst q1
            go_wp2
            go_ret2
            exact ⟨by rw [q2.out]; rfl, hbx⟩
          · have q1 : b = false := by rw [← (Prod.mk.inj HE.out).2]; exact decide_eq_false h1
            have q2 : Hid (y = m) := Lib.hid (Prod.mk.inj HE.out).1
            have q3 : decide ((1 : Int) < (d : Int)) = false := decide_eq_false (by omega)
            subst q1
            go_wp2
            go_ret2
            exact ⟨by rw [q2.out]; rfl, hbx⟩
end Go.Proofs.Ytngnjphhjmhomaa.Odr
