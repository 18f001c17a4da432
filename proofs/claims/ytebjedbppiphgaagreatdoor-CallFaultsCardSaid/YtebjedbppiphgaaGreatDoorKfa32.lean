/- What package order's Mode answers: for any slice of at most 1000 numbers. How often a number is there is kept in a map.
   What package order's Median answers: for any slice of at most 1000 numbers.
   What the reference's functions of lists answer. Written by wip/gen20e.py.
   The reference's Call, function by function: lists; what it doesn't call; NA. Written by wip/gen20l.py.
   What package fname answers: row, count, Name, Fits, Kind, Lazy, Number. -/
import Derived.Test.YtebjedbppiphgaaGreatDoorKfa31
import Derived.Test.YtebjedbppiphgaaGreatDoorKfa08
import Derived.Deep.QuietTactic
import Derived.BigQuiet
import Derived.Test.YtebjedbppiphgaaGreatDoorKfa24
import Derived.Test.YtebjedbppiphgaaGreatDoorKfa30
import Derived.Test.YtebjedbppiphgaaGreatDoorKfa23
import Derived.Test.YtebjedbppiphgaaGreatDoorKfa22
import Derived.Test.YtebjedbppiphgaaGreatDoorKfa09
import Derived.Test.YtebjedbppiphgaaGreatDoorKfa21
import Derived.Test.YtebjedbppiphgaaGreatDoorKfa28
import Derived.Test.YtebjedbppiphgaaGreatDoorKfa03
import Derived.Test.YtebjedbppiphgaaGreatDoorKfa04
import Derived.Lib.Strings
namespace Go.Proofs.YtebjedbppiphgaaGreatDoor.Odr
open Go.RowKit Kit Reg Dec Go.Maps
theorem lawK : Keyed Tryz.prog 2 := int_keyed Tryz.underlying2
theorem zeroE (w : World) : (zeroValue 3).run Tryz.prog w = .ok (.int .i64 0) w := by kernel_rfl
/-- a map of one's own that reads as how often each number is there -/
def MapC (B k : Nat) (p : List Int) (w : World) : Prop := ∃ D, w.ownsMap Tryz.prog 2 (plainElem (H := Unit) Tryz.prog 3) B k D ∧ IsCnt D p
theorem MapC.on {B k : Nat} {p : List Int} {w w' : World} (h : MapC B k p w) (hb : Below w.heap.size w w') : MapC B k p w' := by
  obtain ⟨D, h1, h2⟩ := h
  exact ⟨D, h1.kept (below_none hb) (by simp), h2⟩
theorem key_of (x : Int) (h : -9223372036854775808 ≤ x ∧ x ≤ 9223372036854775807) : keyOf Tryz.prog 2 (.int .i64 x) = some (.int .i64 x) :=
  keyOf_int_mk Tryz.underlying2 (by simp [Lit.wf, IntKind.min, IntKind.max, IntKind.signed, IntKind.bits]; omega)
theorem MapC.look {B k : Nat} {p : List Int} {w : World} (h : MapC B k p w) (x : Int) (hx : -9223372036854775808 ≤ x ∧ x ≤ 9223372036854775807) (c : Nat) (hc : p.count x = c) :
    (Instr.lookup 178 (.map (some B)) (.int .i64 x) false).run Tryz.prog w = .ok (.int .i64 (c : Int)) w := by
  obtain ⟨D, h1, h2⟩ := h
  obtain ⟨q, hr, ha, _⟩ := h1.lookup_int lawK Tryz.underlying178 Tryz.underlying3 (zeroE _) (key_of x hx)
  have e := ha.symm.trans (h2.2 x)
  simp only [DataW.lit.injEq, Lit.int.injEq, true_and] at e
  rw [hr, e, hc]
set_option maxRecDepth 100000 in
set_option maxHeartbeats 2000000 in
theorem mode_c (A : Option Addr) (n c : Nat) (xs : List Int) (hn : n ≤ 1000) (m : Int) (b : Bool) (hm : modeD xs = (m, b)) (w : World) (hz : NumsR w A n c xs) :
    Calls Tryz.prog 130 #[.slice A n c] w (TwoB m b w) := by
  have HZ := Lib.hid hz
  have HM := Lib.hid hm
  clear hz hm
  have hmm := @run_makeMap Tryz.prog
  go_enter Tryz.func130, Tryz.ntmps130
  go_wp2
  go_loopw [6, 14] (fun _ i wr => ∃ k : Nat, k ≤ n ∧ i = .int .i64 k ∧ MapC w.heap.size k (xs.take k) wr ∧ Below w.heap.size w wr) (fun _ i _ => n - (intOf i).toNat)
  case atStart => exact ⟨0, Nat.zero_le _, rfl, ⟨_, World.ownsMap_made _ _ _ _, IsCnt.start⟩, (Below.refl _ _).alloc (Nat.le_refl _) _⟩
  case round =>
    obtain ⟨k, hk, rfl, hmap, hb⟩ := hrel
    by_cases hlt : k < n
    · obtain ⟨x, hx⟩ := HZ.out.get hlt
      have hfit := HZ.out.fit hx
      obtain ⟨g, o, rfl, hg, c0⟩ := (HZ.out.on hb).at hx
      have HX := Lib.hid hx
      have hkey := key_of x hfit
      obtain ⟨D, hown, hD⟩ := hmap
      have hstep := hD.step x
      obtain ⟨q, hq⟩ : ∃ q, (xs.take k).count x = q := ⟨_, rfl⟩
      have hqk : q ≤ k := by rw [← hq]; exact Nat.le_trans List.count_le_length (by rw [List.length_take]; omega)
      have hat0 : D.atKey (.int .i64 x) (.lit (.int .i64 0)) = .lit (.int .i64 (q : Int)) := by rw [← hq]; exact hD.2 x
      have HD : Hid (IsCnt (D.put (.int .i64 x) (.lit (.int .i64 ((q : Int) + 1)))) (xs.take (k + 1))) := Lib.hid (by rw [take_one hx]; rw [hq] at hstep; exact hstep)
      clear hstep hq hD hx
      go_wp2_with (first
        | (at_lookup; refine wpList_lookup_own_int _ rfl _ _ 178 rfl 2 3 .i64 lawK Tryz.underlying178 Tryz.underlying3 (zeroE _) w.heap.size k _ rfl hown _ _ rfl hkey ?_; intro c1 hat hwc; obtain rfl : (q : Int) = c1 := by (have e := hat0.symm.trans hat; simpa using e))
        | (at_mapUpdate; refine wpList_mapUpdate_own _ rfl _ _ _ 178 rfl 2 3 lawK Tryz.underlying178 _ w.heap.size k _ rfl hown (by unfold maxLen; omega) _ _ _ rfl rfl hkey _ [] (plainElem_int Tryz.underlying3 (WalkArith.wf_i64 (by omega))) ?_; intro w1 hown1 hgrow1))
      go_roundw
      case rel => exact ⟨k + 1, by omega, by go_num, ⟨_, hown1, HD.out⟩, hb.grown hgrow1 hb.size (fun j hj => by cases hj; exact Nat.le_refl _)⟩
      case measure => simp [intOf]; omega
    · obtain rfl : k = n := by omega
      rw [List.take_of_length_le (by rw [HZ.out.len]; omega)] at hmap
      have HC := Lib.hid hmap
      have HB := Lib.hid hb
      clear hmap hb
      go_wp2
      generalize wr = w1 at *
      go_loopw [7, 8, 10, 25] (fun m o _ i wr => ∃ (j d : Nat) (y : Int), j ≤ k ∧ i = .int .i64 j ∧ Hid (modeAt xs j = (y, d)) ∧ d ≤ 1000 ∧ 1 ≤ d ∧ m = .int .i64 y ∧ o = .int .i64 d ∧ ∃ q, wr = w1.drewN q) (fun _ _ _ i _ => k - (intOf i).toNat)
      case atStart => exact ⟨0, 1, 0, Nat.zero_le _, rfl, Lib.hid rfl, by omega, by omega, rfl, rfl, 0, rfl⟩
      case round =>
        obtain ⟨j, d, y, hj, rfl, HJ, hd, hd1, rfl, rfl, qr, rfl⟩ := hrel
        by_cases hlt2 : j < k
        · obtain ⟨x, hx⟩ := HZ.out.get hlt2
          have hfit := HZ.out.fit hx
          have hbw : Below w1.heap.size w1 (w1.drewN qr) := drew_below rfl
          obtain ⟨g, o, rfl, hg, c0⟩ := ((HZ.out.on HB.out).on hbw).at hx
          obtain ⟨q, hq⟩ : ∃ q, xs.count x = q := ⟨_, rfl⟩
          have hqk : q ≤ 1000 := by rw [← hq]; exact Nat.le_trans List.count_le_length (by rw [HZ.out.len]; omega)
          have hl : ∀ s, (Instr.lookup 178 (.map (some w.heap.size)) (.int .i64 x) false).run Tryz.prog (w1.drewN s) = .ok (.int .i64 (q : Int)) (w1.drewN s) := fun s => (HC.out.on (drew_below rfl)).look x hfit q hq
          by_cases hc : d < q
          · have HN : Hid (modeAt xs (j + 1) = (x, q)) := Lib.hid (by rw [modeAt_hit hx HJ.out (by rw [hq]; exact hc), hq])
            clear hx hq HJ
            go_wp2
            go_quiet (fail)
            go_wp2
            go_roundw
            case rel => exact ⟨j + 1, q, x, by omega, by go_num, HN, hqk, by omega, rfl, rfl, _, rfl⟩
            case measure => simp [intOf]; omega
          · have HN : Hid (modeAt xs (j + 1) = (y, d)) := Lib.hid (modeAt_miss hx HJ.out (by rw [hq]; exact hc))
            clear hx hq HJ
            go_wp2
            go_roundw
            case rel => exact ⟨j + 1, d, y, by omega, by go_num, HN, hd, hd1, rfl, rfl, _, rfl⟩
            case measure => simp [intOf]; omega
        · obtain rfl : j = k := by omega
          have hE : modeD xs = (y, decide (1 < d)) := by rw [modeD, HZ.out.len, HJ.out]
          have HE := Lib.hid (hE.symm.trans HM.out)
          have hbx : Below w.heap.size w (w1.drewN qr) := on HB.out (drew_below rfl)
          clear hE
          by_cases h1 : 1 < d
          · have q1 : b = true := by rw [← (Prod.mk.inj HE.out).2]; exact decide_eq_true h1
            have q2 : Hid (y = m) := Lib.hid (Prod.mk.inj HE.out).1
            have q3 : decide ((1 : Int) < (d : Int)) = true := decide_eq_true (by omega)
            subst q1
            go_wp2
            go_ret2
            exact ⟨by rw [q2.out]; rfl, hbx⟩
          · have q1 : b = false := by rw [← (Prod.mk.inj HE.out).2]; exact decide_eq_false h1
            have q2 : Hid (y = m) := Lib.hid (Prod.mk.inj HE.out).1
            have q3 : decide ((1 : Int) < (d : Int)) = false := decide_eq_false (by omega)
            subst q1
            go_wp2
            go_ret2
            exact ⟨by rw [q2.out]; rfl, hbx⟩
end Go.Proofs.YtebjedbppiphgaaGreatDoor.Odr
namespace Go.Proofs.YtebjedbppiphgaaGreatDoor.Odr
open Go.RowKit Kit Reg Dec
theorem addD_room {a b n : Int} {k : Bool} (h : addD a b = (n, k)) : n ≤ 9223372036854775807 := by
  unfold addD giveD at h
  split at h
  · rename_i h2
    have := (Prod.mk.inj h).1
    simp only [okD, Bool.and_eq_true, decide_eq_true_eq] at h2
    omega
  · have := (Prod.mk.inj h).1
    omega
theorem halves {n h r : Nat} (hd : n / 2 = h) (hm : n % 2 = r) : ((n : Int).tdiv 2 = (h : Int) ∧ (n : Int).tmod 2 = (r : Int)) ∧ n = 2 * h + r ∧ r ≤ 1 := by
  subst hd hm
  refine ⟨⟨rfl, rfl⟩, by omega, by omega⟩
set_option maxRecDepth 100000 in
set_option maxHeartbeats 1000000 in
theorem median_nil (A : Option Addr) (c : Nat) (w : World) :
    Calls Tryz.prog 129 #[.slice A 0 c] w (TwoB 0 false w) := by
  go_enter Tryz.func129, Tryz.ntmps129
  go_wp2
  go_ret2
  exact ⟨rfl, Below.refl _ _⟩
set_option maxRecDepth 100000 in
set_option maxHeartbeats 1000000 in
theorem median_odd (A : Option Addr) (n c : Nat) (xs : List Int) (hn : n ≤ 1000) (h : Nat) (hd : n / 2 = h) (hm : n % 2 = 1) (x : Int) (hx : (srt xs)[h]? = some x) (w : World) (hz : NumsR w A n c xs) :
    Calls Tryz.prog 129 #[.slice A n c] w (TwoB x true w) := by
  obtain ⟨⟨d1, d2⟩, hn2, _⟩ := halves hd hm
  have HS := Lib.hid (sorted_c A n c xs hn w hz)
  have HX := Lib.hid hx
  have q0 : ((n : Int) == 0) = false := by simp; omega
  have hlt : h < n := by omega
  replace d2 : (n : Int).tmod 2 = 1 := d2
  clear hd hm hx hz hn2
  go_enter Tryz.func129, Tryz.ntmps129
  go_wp2_with (go_at_call 232; refine HS.out.mono ?_; rintro e w1 ⟨A2, c2, rfl, hr, hb⟩; obtain ⟨g, o, rfl, hg, c0⟩ := hr.at HX.out; clear hr)
  go_ret2
  exact ⟨rfl, hb⟩
set_option maxRecDepth 100000 in
set_option maxHeartbeats 1000000 in
theorem median_even (A : Option Addr) (n c : Nat) (xs : List Int) (hn : n ≤ 1000) (h : Nat) (h0 : ¬ n = 0) (hd : n / 2 = h) (hm : n % 2 = 0) (x y : Int) (hx : (srt xs)[h - 1]? = some x) (hy : (srt xs)[h]? = some y)
    (x2 : x ≤ 9223372036854775807) (y2 : y ≤ 9223372036854775807) (s m : Int) (a b : Bool) (hs : addD x y = (s, a)) (hq : (a = false ∧ m = 0 ∧ b = false) ∨ (a = true ∧ scaledD s 1 2 = (m, b))) (w : World) (hz : NumsR w A n c xs) :
    Calls Tryz.prog 129 #[.slice A n c] w (TwoB m b w) := by
  obtain ⟨⟨d1, d2⟩, hn2, _⟩ := halves hd hm
  have HS := Lib.hid (sorted_c A n c xs hn w hz)
  have HX := Lib.hid hx
  have HY := Lib.hid hy
  have HA := Lib.hid (fun w1 => add_c x y x2 y2 s a hs w1)
  have hs2 := addD_room hs
  have q0 : ((n : Int) == 0) = false := by simp; omega
  have q1 : (h : Int) - 1 = ((h - 1 : Nat) : Int) := by omega
  have hlt : h < n := by omega
  have hlt1 : h - 1 < n := by omega
  obtain ⟨p, hp⟩ : ∃ p, h - 1 = p := ⟨_, rfl⟩
  rw [hp] at q1 HX hlt1
  clear hd hm hx hz hy hs hn2 hp h0
  replace d2 : (n : Int).tmod 2 = 0 := d2
  rcases hq with ⟨rfl, rfl, rfl⟩ | ⟨rfl, hq⟩
  · go_enter Tryz.func129, Tryz.ntmps129
    go_wp2_with (go_at_call 232; refine HS.out.mono ?_; rintro e w1 ⟨A2, c2, rfl, hr, hb⟩; obtain ⟨g, o, rfl, hg, c0⟩ := hr.at HX.out; obtain ⟨g1, o1, e1, _, c1⟩ := hr.at HY.out; simp only [Option.some.injEq, Addr.mk.injEq, and_true] at e1; obtain ⟨rfl, rfl⟩ := e1; clear hr)
    go_quiet ((go_at_call 78; refine Calls.quiet_of_same ((HA.out _).mono fun _ _ h => ⟨h.1, h.2.symm⟩)))
    go_wp2
    go_ret2
    exact ⟨rfl, on hb (drew_below rfl)⟩
  · have HQ := Lib.hid (fun w1 => scaled_c s 1 2 hs2 (by decide) (by decide) m b hq w1)
    clear hq
    go_enter Tryz.func129, Tryz.ntmps129
    go_wp2_with (go_at_call 232; refine HS.out.mono ?_; rintro e w1 ⟨A2, c2, rfl, hr, hb⟩; obtain ⟨g, o, rfl, hg, c0⟩ := hr.at HX.out; obtain ⟨g1, o1, e1, _, c1⟩ := hr.at HY.out; simp only [Option.some.injEq, Addr.mk.injEq, and_true] at e1; obtain ⟨rfl, rfl⟩ := e1; clear hr)
    go_quiet ((go_at_call 78; refine Calls.quiet_of_same ((HA.out _).mono fun _ _ h => ⟨h.1, h.2.symm⟩)))
    go_wp2_with (go_at_call 186; refine (HQ.out _).mono ?_; rintro e w2 ⟨rfl, qd, rfl⟩)
    go_ret2
    exact ⟨rfl, on hb (drew_below rfl)⟩
theorem median_c (A : Option Addr) (n c : Nat) (xs : List Int) (hn : n ≤ 1000) (m : Int) (b : Bool) (hm : medD xs = (m, b)) (w : World) (hz : NumsR w A n c xs) :
    Calls Tryz.prog 129 #[.slice A n c] w (TwoB m b w) := by
  have hl := hz.len
  have hin : ∀ j, j < n → ∃ y, (srt xs)[j]? = some y ∧ y ≤ 9223372036854775807 := fun j hj => by
    have hlj : j < (srt xs).length := by rw [srt_len]; omega
    exact ⟨_, List.getElem?_eq_getElem hlj, (hz.fits _ (srt_mem.1 (List.getElem_mem hlj))).2⟩
  by_cases h0 : n = 0
  · subst h0
    obtain ⟨rfl, rfl⟩ := Prod.mk.inj ((medD_nil hl).symm.trans hm)
    exact median_nil A c w
  by_cases h1 : n % 2 = 1
  · obtain ⟨x, hx, _⟩ := hin (n / 2) (by omega)
    obtain ⟨rfl, rfl⟩ := Prod.mk.inj ((medD_odd (by rw [hl]; exact h1) (by rw [hl]; exact hx)).symm.trans hm)
    exact median_odd A n c xs hn _ rfl h1 x hx w hz
  · obtain ⟨x, hx, x2⟩ := hin (n / 2 - 1) (by omega)
    obtain ⟨y, hy, y2⟩ := hin (n / 2) (by omega)
    obtain ⟨⟨s, a⟩, hs⟩ : ∃ r, addD x y = r := ⟨_, rfl⟩
    refine median_even A n c xs hn _ h0 rfl (by omega) x y hx hy x2 y2 s m a b hs ?_ w hz
    cases a
    · obtain ⟨rfl, rfl⟩ := Prod.mk.inj ((medD_none (by rw [hl]; exact h0) (by rw [hl]; omega) (by rw [hl]; exact hx) (by rw [hl]; exact hy) hs).symm.trans hm)
      exact .inl ⟨rfl, rfl, rfl⟩
    · exact .inr ⟨rfl, (medD_even (by rw [hl]; exact h0) (by rw [hl]; omega) (by rw [hl]; exact hx) (by rw [hl]; exact hy) hs).symm.trans hm⟩
end Go.Proofs.YtebjedbppiphgaaGreatDoor.Odr
namespace Go.Proofs.YtebjedbppiphgaaGreatDoor.Cal
open Go.RowKit Kit Reg Dec Dig Val Fld
/-- a kind and a number; a list's values as texts -/
def pV (p : Int × Int) : Vl := ⟨p.1, p.2, ⟨#[]⟩⟩
def catV (L : List Vl) : Vl := ⟨(concatV L).1, (concatV L).2.1, ⟨(concatV L).2.2.toArray⟩⟩
/-- a list's numbers, as rows of numbers are read elsewhere -/
theorem nums_of {w : World} {A : Option Addr} {c : Nat} {L : List Vl} (hm : ∀ v ∈ L, v.may) (hf : ∀ v ∈ L, v.fits) (hr : IntsR w A (numsF L)) (hc : A = none → c = 0) : Odr.NumsR w A (numsF L).length c (numsF L) := by
  refine ⟨rfl, fun h => ⟨?_, hc h⟩, fun x hx => ?_, ?_⟩
  · rcases hr with h1 | ⟨g, o, h1, _⟩
    · rw [h1]; rfl
    · rw [h] at h1; cases h1
  · have := numsF_room hm hf hx
    exact ⟨by omega, this.2⟩
  · rcases hr with h1 | ⟨g, o, h1, h2, h3⟩
    · exact .inl h1
    · exact .inr ⟨g, o, h1, h2, h3⟩
/-- the median and the mode of a list of values -/
def medV (L : List Vl) : Vl := match faultF L with
  | some v => v
  | none => gV (Odr.medD (numsF L))
def modV (L : List Vl) : Vl := match faultF L with
  | some v => v
  | none => if (Odr.modeD (numsF L)).2 = true then ⟨(numV (Odr.modeD (numsF L)).1).1, (numV (Odr.modeD (numsF L)).1).2, ⟨#[]⟩⟩ else fV 5
end Go.Proofs.YtebjedbppiphgaaGreatDoor.Cal
namespace Go.Proofs.YtebjedbppiphgaaGreatDoor.Cal
open Go.RowKit Kit Reg Dec Dig Val Fld
theorem fits_most {fn : Int} {n : Nat} (h : Fnm.fitsF fn (n : Int) = true) : n ≤ 8 := by
  unfold Fnm.fitsF at h
  obtain ⟨h1, h2, h3, h4⟩ := of_decide_eq_true h
  have h5 := Fnm.of_all Fnm.hi_8 (k := fn.toNat - 1) (by omega)
  simp only [Bool.and_eq_true, decide_eq_true_eq] at h5
  omega
noncomputable def listV (fn : Int) (fin : List Vl → Vl) (n : Nat) (T : List Tb) : Vl :=
  open Classical in
  if Fnm.fitsF fn (n : Int) = false then fV 2 else if ∀ (i : Nat) (t : Tb), T[i]? = some t → AccT fn i t then fin (allL T) else fV 2
/-- SUM -/
noncomputable def fin_SUM (L : List Vl) : Vl := pV (allV addD 0 L)
/-- PRODUCT -/
noncomputable def fin_PRODUCT (L : List Vl) : Vl := pV (allV mulD 10000 L)
/-- SUMSQ -/
noncomputable def fin_SUMSQ (L : List Vl) : Vl := pV (allV sqD 0 L)
/-- MIN -/
noncomputable def fin_MIN (L : List Vl) : Vl := pV (allV (bestD false) (startB false) L)
/-- MAX -/
noncomputable def fin_MAX (L : List Vl) : Vl := pV (allV (bestD true) (startB true) L)
/-- AVERAGE -/
noncomputable def fin_AVERAGE (L : List Vl) : Vl := pV (meanV L)
/-- XOR -/
noncomputable def fin_XOR (L : List Vl) : Vl := pV (xorV false L)
/-- CONCAT -/
noncomputable def fin_CONCAT (L : List Vl) : Vl := catV L
/-- MEDIAN -/
noncomputable def fin_MEDIAN (L : List Vl) : Vl := medV L
/-- MODE -/
noncomputable def fin_MODE (L : List Vl) : Vl := modV L
end Go.Proofs.YtebjedbppiphgaaGreatDoor.Cal
namespace Go.Proofs.YtebjedbppiphgaaGreatDoor.Fnm
open Go.RowKit Kit Reg
def tab : ByteArray := ⟨prows.flatten.toArray⟩
theorem tab_ext {k : Nat} (hk : k < 78) : (tab.extract (k * 18) ((k + 1) * 18)).data.toList = pr k := by
  rw [Lib.extract_data, show (k + 1) * 18 - k * 18 = 18 by omega]
  exact flat_k hk
theorem count_c (c : UInt8) (h : 48 ≤ c.toNat) (w : World) : Calls Tryz.prog 74 #[.int .u8 c.toNat] w fun e w' => e = .returned (.int .i64 ((c.toNat : Int) - 48)) ∧ w = w' := by
  have h2 : ((c.toNat : Int) - 48) % 256 = (c.toNat : Int) - 48 := Int.emod_eq_of_lt (by omega) (by have := c.toNat_lt; omega)
  go_enter Tryz.func74, Tryz.ntmps74
  go_wp2
  go_ret
  exact ⟨rfl, rfl⟩
set_option maxRecDepth 100000 in
set_option maxHeartbeats 2000000 in
theorem row_in (k : Nat) (hk : k < 78) (w : World) : Calls Tryz.prog 73 #[.int .i64 ((k : Int) + 1)] w fun e w' => ∃ s, e = .returned (.string s) ∧ s.data.toList = pr k ∧ w = w' := by
  have d0 : decide ((k : Int) + 1 < 1) = false := decide_eq_false (by omega)
  have d1 : decide ((78 : Int) < (k : Int) + 1) = false := decide_eq_false (by omega)
  have HT := Lib.hid (tab_ext hk)
  go_enter Tryz.func73, Tryz.ntmps73
  go_wp2
  go_ret
  exact ⟨_, rfl, HT.out, rfl⟩
set_option maxRecDepth 100000 in
set_option maxHeartbeats 2000000 in
theorem row_out (n : Int) (h : ¬ (1 ≤ n ∧ n ≤ 78)) (w : World) : Calls Tryz.prog 73 #[.int .i64 n] w fun e w' => e = .returned (.string ⟨#[]⟩) ∧ w = w' := by
  by_cases h0 : n < 1
  · have d0 : decide (n < 1) = true := decide_eq_true h0
    go_enter Tryz.func73, Tryz.ntmps73
    go_wp2
    go_ret
    exact ⟨rfl, rfl⟩
  · have d0 : decide (n < 1) = false := decide_eq_false h0
    have d1 : decide (78 < n) = true := decide_eq_true (by omega)
    go_enter Tryz.func73, Tryz.ntmps73
    go_wp2
    go_ret
    exact ⟨rfl, rfl⟩

set_option maxRecDepth 100000 in
set_option maxHeartbeats 2000000 in
theorem fits_c (fn n : Int) (r : Bool) (hr : fitsF fn n = r) (w : World) : Calls Tryz.prog 20 #[.int .i64 fn, .int .i64 n] w fun e w' => e = .returned (.bool r) ∧ Below w.heap.size w w' := by
  by_cases h : 1 ≤ fn ∧ fn ≤ 78
  · obtain ⟨k, hk, rfl⟩ := to_k h
    rw [fits_k hk] at hr
    have HR := Lib.hid (fun w1 => row_in k hk w1)
    obtain ⟨x, y, hl, hx, hy, hx4, hy4, hlo, hhi, _⟩ := pr_facts hk
    have HX := Lib.hid (fun w1 => count_c x hx4 w1)
    have HY := Lib.hid (fun w1 => count_c y hy4 w1)
    rw [hlo] at HX
    rw [hhi] at HY
    have HA := Lib.hid (fun (s : ByteArray) (hs : s.data.toList = pr k) => (⟨like_at s 11 x (hs ▸ hx), like_at s 13 y (hs ▸ hy)⟩ : (∃ hk : 11 < s.size, s[11] = x) ∧ ∃ hk : 13 < s.size, s[13] = y))
    have HE := Lib.hid (fun (s : ByteArray) (hs : s.data.toList = pr k) => (show (s.toList == []) = false by rw [Lib.toList_data, hs]; cases e : pr k with | nil => rw [e] at hl; cases hl | cons => rfl))
    generalize lo k = a at *
    generalize hi k = b at *
    clear hl hx hy hx4 hy4 hlo hhi h hk
    go_enter Tryz.func20, Tryz.ntmps20
    go_wp2_with fail
    refine (HR.out _).mono ?_
    rintro e w1 ⟨s, rfl, hs, rfl⟩
    obtain ⟨⟨hx1, hx2⟩, hy1, hy2⟩ := HA.out s hs
    have he := HE.out s hs
    clear hs
    by_cases h1 : a ≤ n
    · have d1 : decide (a ≤ n) = true := decide_eq_true h1
      go_wp2_with fail
      refine (HX.out _).mono ?_
      rintro e w1 ⟨rfl, rfl⟩
      go_wp2_with fail
      refine (HY.out _).mono ?_
      rintro e w1 ⟨rfl, rfl⟩
      go_wp2
      go_ret
      exact ⟨by rw [← hr, d1]; rfl, Below.refl _ _⟩
    · have d1 : decide (a ≤ n) = false := decide_eq_false h1
      go_wp2_with fail
      refine (HX.out _).mono ?_
      rintro e w1 ⟨rfl, rfl⟩
      go_wp2
      go_ret
      exact ⟨by rw [← hr, d1]; rfl, Below.refl _ _⟩
  · obtain rfl : false = r := by rw [← hr]; exact ((no_fn h).2.1 n).symm
    have HR := Lib.hid (fun w1 => row_out fn h w1)
    go_enter Tryz.func20, Tryz.ntmps20
    go_wp2_with fail
    refine (HR.out _).mono ?_
    rintro e w1 ⟨rfl, rfl⟩
    go_wp2
    go_ret
    exact ⟨rfl, Below.refl _ _⟩
set_option maxRecDepth 100000 in
set_option maxHeartbeats 2000000 in
theorem kind_c (fn n : Int) (r : UInt8) (hr : kindF fn n = r) (w : World) : Calls Tryz.prog 21 #[.int .i64 fn, .int .i64 n] w fun e w' => e = .returned (.int .u8 r.toNat) ∧ Below w.heap.size w w' := by
  by_cases h : 1 ≤ fn ∧ fn ≤ 78
  · obtain ⟨k, hk, rfl⟩ := to_k h
    have HR := Lib.hid (fun w1 => row_in k hk w1)
    obtain ⟨x, y, hl, hx, hy, hx4, hy4, hlo, hhi, hki⟩ := pr_facts hk
    have h8 := of_all hi_8 hk
    simp only [Bool.and_eq_true, decide_eq_true_eq] at h8
    have HY := Lib.hid (fun w1 => count_c y hy4 w1)
    rw [hhi] at HY
    have HA := Lib.hid (fun (s : ByteArray) (hs : s.data.toList = pr k) => like_at s 13 y (hs ▸ hy))
    have HE := Lib.hid (fun (s : ByteArray) (hs : s.data.toList = pr k) => (show (s.toList == []) = false by rw [Lib.toList_data, hs]; cases e : pr k with | nil => rw [e] at hl; cases hl | cons => rfl))
    by_cases h0 : n < 0
    · have d0 : decide (n < 0) = true := decide_eq_true h0
      obtain rfl : 0 = r := by rw [← hr]; exact (kind_no (.inl h0)).symm
      go_enter Tryz.func21, Tryz.ntmps21
      go_wp2_with fail
      refine (HR.out _).mono ?_
      rintro e w1 ⟨s, rfl, hs, rfl⟩
      have he := HE.out s hs
      clear hs
      go_wp2
      go_ret
      exact ⟨rfl, Below.refl _ _⟩
    · have d0 : decide (n < 0) = false := decide_eq_false h0
      by_cases h1 : hi k ≤ n
      · have d1 : decide (hi k ≤ n) = true := decide_eq_true h1
        obtain rfl : 0 = r := by rw [← hr]; exact (kind_no (.inr h1)).symm
        go_enter Tryz.func21, Tryz.ntmps21
        go_wp2_with fail
        refine (HR.out _).mono ?_
        rintro e w1 ⟨s, rfl, hs, rfl⟩
        obtain ⟨hy1, hy2⟩ := HA.out s hs
        have he := HE.out s hs
        clear hs
        go_wp2_with fail
        refine (HY.out _).mono ?_
        rintro e w1 ⟨rfl, rfl⟩
        go_wp2
        go_ret
        exact ⟨rfl, Below.refl _ _⟩
      · have d1 : decide (hi k ≤ n) = false := decide_eq_false h1
        obtain ⟨i, rfl⟩ := Int.eq_ofNat_of_zero_le (show 0 ≤ n by omega)
        rw [kind_k hk (by omega)] at hr
        have hz := hki i (by omega)
        rw [hr] at hz
        have HZ := Lib.hid (fun (s : ByteArray) (hs : s.data.toList = pr k) => like_at s (15 + min i 2) r (hs ▸ hz))
        have hm : (15 + min (i : Int) 2).toNat = 15 + min i 2 := by omega
        go_enter Tryz.func21, Tryz.ntmps21
        go_wp2_with fail
        refine (HR.out _).mono ?_
        rintro e w1 ⟨s, rfl, hs, rfl⟩
        obtain ⟨hy1, hy2⟩ := HA.out s hs
        obtain ⟨hz1, hz2⟩ := HZ.out s hs
        have h9 : s.size = 18 := by rw [← len, hs]; exact hl
        have he := HE.out s hs
        clear hs
        go_wp2_with fail
        refine (HY.out _).mono ?_
        rintro e w1 ⟨rfl, rfl⟩
        go_wp2
        go_ret
        exact ⟨rfl, Below.refl _ _⟩
  · obtain rfl : 0 = r := by rw [← hr]; exact ((no_fn h).2.2 n).symm
    have HR := Lib.hid (fun w1 => row_out fn h w1)
    go_enter Tryz.func21, Tryz.ntmps21
    go_wp2_with fail
    refine (HR.out _).mono ?_
    rintro e w1 ⟨rfl, rfl⟩
    go_wp2
    go_ret
    exact ⟨rfl, Below.refl _ _⟩
end Go.Proofs.YtebjedbppiphgaaGreatDoor.Fnm
