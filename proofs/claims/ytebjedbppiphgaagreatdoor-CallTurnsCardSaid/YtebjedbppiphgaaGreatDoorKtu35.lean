/- Whether a function may be called with such arguments: the program's takes. Written by wip/gen21c.py. -/
import Derived.Test.YtebjedbppiphgaaGreatDoorKtu31
import Derived.Test.YtebjedbppiphgaaGreatDoorKtu30
import Derived.Test.YtebjedbppiphgaaGreatDoorKtu34
namespace Go.Proofs.YtebjedbppiphgaaGreatDoor.Cal
open Go.RowKit Kit Reg Dec Dig Val Fld
open Lok (AtIs Way)
set_option maxRecDepth 100000 in
set_option maxHeartbeats 2000000 in
theorem at_bad (r c row col : Int) (A : Option Addr) (n cap : Nat) (hG : ¬ Lok.Good r c n) (w : World) :
    Calls Tryz.prog 98 #[.agg #[.int .i64 r, .int .i64 c, .slice A n cap], .int .i64 row, .int .i64 col] w (AtIs ⟨0, 0, ⟨#[]⟩⟩ false w) := by
  have HS := Lib.hid (fun w1 => Lok.shaped_no r c A n cap hG w1)
  clear hG
  have ht0 := (CellsAt.new w [.int .i64 r, .int .i64 c, .slice A n cap] 33).on_alloc (.cells #[.int .i64 0, .int .i64 0, .string ⟨#[]⟩] 23)
  have hx0 := Lok.newAt (w0 := w.alloc (.cells #[.int .i64 r, .int .i64 c, .slice A n cap] 33)) (g := w.heap.size + 1) (by simp) [.int .i64 0, .int .i64 0, .string ⟨#[]⟩] 23
  have hb0 := below2 w (.cells #[.int .i64 r, .int .i64 c, .slice A n cap] 33) (.cells #[.int .i64 0, .int .i64 0, .string ⟨#[]⟩] 23)
  go_enter Tryz.func98, Tryz.ntmps98
  go_wp2_with fail
  generalize (w.alloc (.cells #[.int .i64 r, .int .i64 c, .slice A n cap] 33)).alloc (.cells #[.int .i64 0, .int .i64 0, .string ⟨#[]⟩] 23) = W at *
  refine (HS.out _).mono ?_
  rintro e w1 ⟨rfl, hb1⟩
  replace ht0 := ht0.on hb1
  replace hx0 := hx0.on hb1
  replace hb0 := on hb0 hb1
  clear HS
  obtain ⟨t0, t1, t2, _⟩ := ht0.three
  obtain ⟨p0, p1, p2, f0, f1, f2⟩ := hx0.three
  have hl := hx0.1
  obtain ⟨z0, z1, z2⟩ := three_set (u := .int .i64 0) (v := .int .i64 0) (r := .string ⟨#[]⟩) p0 p1 p2
  have hb5 := set3 hb0 (b := w.heap.size + 1) (by omega) (.int .i64 0) (.int .i64 0) (.string ⟨#[]⟩)
  clear hb1 ht0 hx0 hb0
  go_wp2_with fail
  exact bodyPost_ret (v := .tuple #[.agg #[.int .i64 0, .int .i64 0, .string ⟨#[]⟩], .bool false]) (by simp [results, Tryz.results98, go_sem, z0, z1, z2]) rfl ⟨rfl, hb5⟩
theorem not_acc2 {fn : Int} {i : Nat} {t : Tb} (h : ¬ AccT fn i t) : kdF fn i = 110 ∨ (¬ kdF fn i = 110 ∧ kdF fn i = 101) ∨ (¬ kdF fn i = 110 ∧ ¬ kdF fn i = 101 ∧ kdF fn i = 116) ∨
    (¬ kdF fn i = 110 ∧ ¬ kdF fn i = 101 ∧ ¬ kdF fn i = 116 ∧ ((kdF fn i = 118 ∧ ¬ t.n = 1) ∨ ((kdF fn i = 118 → t.n = 1) ∧ ¬ Lok.Good t.r t.c t.n))) := by
  by_cases h1 : kdF fn i = 110
  · exact .inl h1
  by_cases h2 : kdF fn i = 101
  · exact .inr (.inl ⟨h1, h2⟩)
  by_cases h3 : kdF fn i = 116
  · exact .inr (.inr (.inl ⟨h1, h2, h3⟩))
  refine .inr (.inr (.inr ⟨h1, h2, h3, ?_⟩))
  by_cases h4 : kdF fn i = 118 ∧ ¬ t.n = 1
  · exact .inl h4
  · exact .inr ⟨fun e => by by_cases e1 : t.n = 1; exact e1; exact absurd ⟨e, e1⟩ h4, fun hg => h ⟨h1, h2, h3, hg, fun e => by by_cases e1 : t.n = 1; exact e1; exact absurd ⟨e, e1⟩ h4⟩⟩
/-- a truth, and memory below as it was -/
def BitB (b : Bool) (w : World) : Ending → World → Prop := fun e w' => e = .returned (.bool b) ∧ Below w.heap.size w w'
set_option maxRecDepth 100000 in
set_option maxHeartbeats 2000000 in
theorem takes_unfit (fn : Int) (A : Option Addr) (n cap : Nat) (h : Fnm.fitsF fn (n : Int) = false) (w : World) : Calls Tryz.prog 48 #[.int .i64 fn, .slice A n cap] w (BitB false w) := by
  have HF := Lib.hid (fun w1 => Fnm.fits_c fn (n : Int) false h w1)
  clear h
  go_enter Tryz.func48, Tryz.ntmps48
  go_wp2_with fail
  refine (HF.out _).mono ?_
  rintro e w1 ⟨rfl, hb1⟩
  go_wp2
  go_ret
  exact ⟨rfl, hb1⟩
set_option maxRecDepth 100000 in
set_option maxHeartbeats 8000000 in
theorem takes_walk (fn : Int) (A : Option Addr) (n cap lim : Nat) (T : List Tb) (b0 : Bool) (hl : lim ≤ n) (hn9 : n ≤ 9) (h : Fnm.fitsF fn (n : Int) = true) (h6 : ∀ t ∈ T, t.n ≤ 60) (hacc : ∀ (i : Nat) (t : Tb), i < lim → T[i]? = some t → AccT fn i t) (w : World) (hz : TabsR w A n T)
    (HH : (lim < n ∧ (∃ t, T[lim]? = some t ∧ ¬ AccT fn lim t) ∧ b0 = false) ∨ (lim = n ∧ b0 = true)) :
    Calls Tryz.prog 48 #[.int .i64 fn, .slice A n cap] w (BitB b0 w) := by
  have HF := Lib.hid (fun w1 => Fnm.fits_c fn (n : Int) true h w1)
  have HK : Hid (∀ (i : Nat) (w1 : World), Calls Tryz.prog 21 #[.int .i64 fn, .int .i64 (i : Int)] w1 fun e w' => e = .returned (.int .u8 (kdF fn i : Int)) ∧ Below w1.heap.size w1 w') := Lib.hid (fun i w1 => Fnm.kind_c fn (i : Int) _ rfl w1)
  have HZ := Lib.hid hz
  have H6 := Lib.hid h6
  have HA := Lib.hid hacc
  have HX : Hid (∀ (k : Nat) (t : Tb), T[k]? = some t → ValsR w t.A t.n t.L) := Lib.hid (fun k t ht => hz.reads ht (by have := h6 t (List.mem_of_getElem? ht); omega))
  replace HH := Lib.hid HH
  clear h hz h6 hacc
  go_enter Tryz.func48, Tryz.ntmps48
  go_wp2_with fail
  refine (HF.out _).mono ?_
  rintro e w1 ⟨rfl, hb2⟩
  clear HF
  go_wp2_with fail
  go_loopw [16] (fun i wr => ∃ k : Nat, k ≤ lim ∧ i = .int .i64 k ∧ Below w.heap.size w wr) (fun i _ => n - (intOf i).toNat)
  case atStart => exact ⟨0, Nat.zero_le _, rfl, hb2⟩
  case round =>
    clear hb2
    obtain ⟨k, hk, rfl, hb2⟩ := hrel
    by_cases hkn : k < n
    · obtain ⟨t, ht⟩ := (HZ.out).get hkn
      have ht6 := H6.out t (List.mem_of_getElem? ht)
      obtain ⟨b, o, rfl, hblt, c0, c1, c2⟩ := (HZ.out.on hb2).at ht
      have HV := Lib.hid ((HX.out k t ht).on hb2)
      obtain ⟨tr, tc, tA, tn, td, tL⟩ := t
      dsimp only at ht6 c0 c1 c2 HV
      obtain ⟨hbox, hbb⟩ := first wr [.int .i64 tr, .int .i64 tc, .slice tA tn td] 33
      replace hb2 := on hb2 hbb
      have HV1 := Lib.hid (HV.out.on hbb)
      obtain ⟨kn, hkn2⟩ : ∃ q, kdF fn k = q := ⟨_, rfl⟩
      have HK2 := Lib.hid (HK.out k)
      rw [hkn2] at HK2
      have hacc2 := not_acc2 (fn := fn) (i := k) (t := ⟨tr, tc, tA, tn, td, tL⟩)
      have hacc3 := HA.out k ⟨tr, tc, tA, tn, td, tL⟩
      unfold AccT at hacc3
      rw [hkn2] at hacc2 hacc3
      dsimp only at hacc2 hacc3
      obtain ⟨x0, x1, x2, -⟩ := hbox.three
      clear hbb HK HV
      go_wp2_with fail
      generalize wr.alloc (.cells #[.int .i64 tr, .int .i64 tc, .slice tA tn td] 33) = W at *
      refine (HK2.out _).mono ?_
      rintro e w3 ⟨rfl, hb1⟩
      replace hb2 := on hb2 hb1
      replace hbox := hbox.on hb1
      replace HV1 := Lib.hid (HV1.out.on hb1)
      clear hb1 HK2 c0 c1 c2 x0 x1 x2
      obtain ⟨x0, x1, x2, -⟩ := hbox.three
      clear hbox
      by_cases hkl : k < lim
      · obtain ⟨a1, a2, a3, hg, a5⟩ := hacc3 hkl ht
        have q1 : ((kn : Int) == 110) = false := by rw [beq_eq_false_iff_ne]; omega
        have q2 : ((kn : Int) == 101) = false := by rw [beq_eq_false_iff_ne]; omega
        have q3 : ((kn : Int) == 116) = false := by rw [beq_eq_false_iff_ne]; omega
        obtain ⟨i0, m0, s0, p0, hw⟩ := Way.of hg (show Lok.Inn tr tc 1 1 by obtain ⟨g1, g2, _⟩ := hg; exact ⟨by omega, by omega, by omega, by omega⟩)
        obtain ⟨v, hv⟩ : ∃ v, tL[p0]? = some v := ⟨_, List.getElem?_eq_getElem (by rw [HV1.out.1]; exact hw.bound.2.2.2)⟩
        have HAt := Lib.hid (fun w1 hz1 => Lok.at_yes tr tc 1 1 tA tn td tL hg i0 m0 s0 p0 hw v hv w1 hz1)
        obtain ⟨vk, vn, vt⟩ := v
        have HAt2 : Hid (∀ w1, ValsR w1 tA tn tL → Calls Tryz.prog 98 #[.agg #[.int .i64 tr, .int .i64 tc, .slice tA tn td], .int .i64 1, .int .i64 1] w1 fun e w' => e = .returned (.tuple #[.agg #[.int .i64 vk, .int .i64 vn, .string vt], .bool true]) ∧ Below w1.heap.size w1 w') := HAt
        clear hacc2 HH HAt hw hv hg hacc3 ht HA
        by_cases c118 : kn = 118
        · have q5 : ((kn : Int) == 118) = true := by rw [beq_iff_eq]; omega
          obtain rfl : tn = 1 := a5 c118
          go_wp2_with fail
          refine (HAt2.out _ HV1.out).mono ?_
          rintro e w4 ⟨rfl, hb1⟩
          replace hb2 := on_alloc (on hb2 hb1) (.cells #[.int .i64 vk, .int .i64 vn, .string vt] 23)
          clear hb1 HAt2 HV1 x0 x1 x2
          go_wp2
          go_roundw
          case rel => exact ⟨k + 1, by omega, by go_num, hb2⟩
          case measure => simp [intOf]; omega
        · have q5 : ((kn : Int) == 118) = false := by rw [beq_eq_false_iff_ne]; omega
          go_wp2_with fail
          refine (HAt2.out _ HV1.out).mono ?_
          rintro e w4 ⟨rfl, hb1⟩
          replace hb2 := on_alloc (on hb2 hb1) (.cells #[.int .i64 vk, .int .i64 vn, .string vt] 23)
          clear hb1 HAt2 HV1 x0 x1 x2
          go_wp2
          go_roundw
          case rel => exact ⟨k + 1, by omega, by go_num, hb2⟩
          case measure => simp [intOf]; omega
      · obtain rfl : k = lim := by omega
        obtain ⟨rfl, hna⟩ : b0 = false ∧ ¬ AccT fn k ⟨tr, tc, tA, tn, td, tL⟩ := by
          rcases HH.out with ⟨_, ⟨t', ht', hb'⟩, hz'⟩ | ⟨he, _⟩
          · rw [ht] at ht'
            obtain rfl := Option.some.inj ht'
            exact ⟨hz', hb'⟩
          · omega
        replace hacc2 := hacc2 hna
        clear hna hacc3 HH ht HA
        rcases hacc2 with h9 | ⟨h8, h9⟩ | ⟨h7, h8, h9⟩ | ⟨h6, h7, h8, ⟨h9, h5⟩ | ⟨h9, hG⟩⟩
        · have q1 : ((kn : Int) == 110) = true := by rw [beq_iff_eq]; omega
          go_wp2
          go_ret
          exact ⟨rfl, hb2⟩
        · have q1 : ((kn : Int) == 110) = false := by rw [beq_eq_false_iff_ne]; omega
          have q2 : ((kn : Int) == 101) = true := by rw [beq_iff_eq]; omega
          go_wp2
          go_ret
          exact ⟨rfl, hb2⟩
        · have q1 : ((kn : Int) == 110) = false := by rw [beq_eq_false_iff_ne]; omega
          have q2 : ((kn : Int) == 101) = false := by rw [beq_eq_false_iff_ne]; omega
          have q3 : ((kn : Int) == 116) = true := by rw [beq_iff_eq]; omega
          go_wp2
          go_ret
          exact ⟨rfl, hb2⟩
        · have q1 : ((kn : Int) == 110) = false := by rw [beq_eq_false_iff_ne]; omega
          have q2 : ((kn : Int) == 101) = false := by rw [beq_eq_false_iff_ne]; omega
          have q3 : ((kn : Int) == 116) = false := by rw [beq_eq_false_iff_ne]; omega
          have q5 : ((kn : Int) == 118) = true := by rw [beq_iff_eq]; omega
          have q6 : ((tn : Int) == 1) = false := by rw [beq_eq_false_iff_ne]; omega
          have q7 : (tn == 1) = false := by rw [beq_eq_false_iff_ne]; omega
          go_wp2
          go_ret
          exact ⟨rfl, hb2⟩
        · have q1 : ((kn : Int) == 110) = false := by rw [beq_eq_false_iff_ne]; omega
          have q2 : ((kn : Int) == 101) = false := by rw [beq_eq_false_iff_ne]; omega
          have q3 : ((kn : Int) == 116) = false := by rw [beq_eq_false_iff_ne]; omega
          have HAt2 : Hid (∀ w1, Calls Tryz.prog 98 #[.agg #[.int .i64 tr, .int .i64 tc, .slice tA tn td], .int .i64 1, .int .i64 1] w1 fun e w' => e = .returned (.tuple #[.agg #[.int .i64 0, .int .i64 0, .string ⟨#[]⟩], .bool false]) ∧ Below w1.heap.size w1 w') := Lib.hid (fun w1 => at_bad tr tc 1 1 tA tn td hG w1)
          by_cases c118 : kn = 118
          · have q5 : ((kn : Int) == 118) = true := by rw [beq_iff_eq]; omega
            obtain rfl : tn = 1 := h9 c118
            go_wp2_with fail
            refine (HAt2.out _).mono ?_
            rintro e w4 ⟨rfl, hb1⟩
            replace hb2 := on_alloc (on hb2 hb1) (.cells #[.int .i64 0, .int .i64 0, .string ⟨#[]⟩] 23)
            clear hb1
            go_wp2
            go_ret
            exact ⟨rfl, hb2⟩
          · have q5 : ((kn : Int) == 118) = false := by rw [beq_eq_false_iff_ne]; omega
            go_wp2_with fail
            refine (HAt2.out _).mono ?_
            rintro e w4 ⟨rfl, hb1⟩
            replace hb2 := on_alloc (on hb2 hb1) (.cells #[.int .i64 0, .int .i64 0, .string ⟨#[]⟩] 23)
            clear hb1
            go_wp2
            go_ret
            exact ⟨rfl, hb2⟩
    · obtain rfl : k = n := by omega
      obtain rfl : b0 = true := by
        rcases HH.out with ⟨h1, _⟩ | ⟨_, h1⟩
        · omega
        · exact h1
      clear HH
      go_wp2
      go_ret
      exact ⟨rfl, hb2⟩
/-- a function takes these tables -/
def AccB (fn : Int) (n : Nat) (T : List Tb) : Prop := Fnm.fitsF fn (n : Int) = true ∧ ∀ (i : Nat) (t : Tb), T[i]? = some t → AccT fn i t
theorem takes_no (fn : Int) (A : Option Addr) (n cap : Nat) (T : List Tb) (h6 : ∀ t ∈ T, t.n ≤ 60) (h : ¬ AccB fn n T) (w : World) (hz : TabsR w A n T) : Calls Tryz.prog 48 #[.int .i64 fn, .slice A n cap] w (BitB false w) := by
  cases hf : Fnm.fitsF fn (n : Int)
  · exact takes_unfit fn A n cap hf w
  · have hn8 := fits_most hf
    rcases first_bad fn T n (Nat.le_of_eq hz.1.symm) with ha | ⟨lim, hl, ha, t, ht, hb⟩
    · exact absurd ⟨hf, fun i t ht => ha i t (by rw [← hz.1]; exact (List.getElem?_eq_some_iff.1 ht).1) ht⟩ h
    · exact takes_walk fn A n cap lim T false (Nat.le_of_lt hl) (by omega) hf h6 ha w hz (.inl ⟨hl, ⟨t, ht, hb⟩, rfl⟩)
theorem takes_yes (fn : Int) (A : Option Addr) (n cap : Nat) (T : List Tb) (h6 : ∀ t ∈ T, t.n ≤ 60) (h : AccB fn n T) (w : World) (hz : TabsR w A n T) : Calls Tryz.prog 48 #[.int .i64 fn, .slice A n cap] w (BitB true w) :=
  takes_walk fn A n cap n T true (Nat.le_refl _) (by have := fits_most h.1; omega) h.1 h6 (fun i t _ ht => h.2 i t ht) w hz (.inr ⟨rfl, rfl⟩)
end Go.Proofs.YtebjedbppiphgaaGreatDoor.Cal
