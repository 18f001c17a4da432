/- What the program's Parse of a label answers: for every text of at most 2^48 bytes, where the library's sentinels hold values of an interface. -/
import Derived.Test.YtcgpggknmhlnkaaDoorPs36
import Derived.Test.YtcgpggknmhlnkaaDoorPs37
import Derived.Test.YtcgpggknmhlnkaaDoorPs29
namespace Go.Proofs.YtcgpggknmhlnkaaDoor.Cats
open Go.RowKit
theorem atoi_digs : ∀ k, k ≤ 15 → atoiO (digs k) = some (k : Int) := by decide +kernel
theorem textL_zero : textL 0 = [] := by decide +kernel
def TopT (t : List UInt8) : Prop := t = [116, 111, 112]
theorem lab_cut {t a b : List UInt8} {f : Bool} {k r : Nat} (hc : CutsAt 58 t a b f) (hk : k ≤ 15) (h : labT (k : Int) r = t) (htop : ¬ TopT t) : a = digs k ∧ b = textL r := by
  rw [labT_nat hk] at h
  by_cases h1 : k = 15 ∧ r = allN
  · rw [if_pos h1] at h; exact absurd h.symm htop
  rw [if_neg h1] at h
  have hcl := (digs_clean k (by omega)).1
  by_cases h2 : r = 0
  · rw [if_pos h2] at h
    subst h
    rcases hc with ⟨h3, _⟩ | ⟨_, rfl, rfl, _⟩
    · rw [cutAt_none hcl] at h3; cases h3
    · exact ⟨rfl, by rw [h2, textL_zero]⟩
  · rw [if_neg h2] at h
    subst h
    rcases hc with ⟨h3, _⟩ | ⟨h3, _⟩
    · rw [cutAt_some _ hcl] at h3
      simp only [Option.some.injEq, Prod.mk.injEq] at h3
      exact ⟨h3.1.symm, h3.2.symm⟩
    · rw [cutAt_some _ hcl] at h3; cases h3
theorem LabIs.none_ {t a b : List UInt8} {f : Bool} (hc : CutsAt 58 t a b f) (htop : ¬ TopT t) (h : ∀ (k r : Nat), k ≤ 15 → U r → atoiO a = some (k : Int) → parseF b = (r, true) → labT (k : Int) r ≠ t) : LabIs t 0 0 false :=
  .inr ⟨rfl, rfl, rfl, fun k r hk hr e => by
    obtain ⟨rfl, rfl⟩ := lab_cut hc hk e htop
    exact h k r hk hr (atoi_digs k hk) (parse_text hr) e⟩
theorem LabIs.found {t a b : List UInt8} {f : Bool} {v : Int} {S : Nat} (hc : CutsAt 58 t a b f) (ha : atoiO a = some v) (hp : parseF b = (S, true)) (h : labT v S = t) : LabIs t v S true := by
  refine .inl ⟨rfl, ?_, ?_, (text_parse hp).2, h⟩
  all_goals
    have hne : t ≠ [] := by
      rintro rfl
      rcases hc with ⟨h3, _⟩ | ⟨_, rfl, _, _⟩
      · simp [cutAt] at h3
      · exact absurd ha (by simp [atoiO, Lib.atoiAll])
    by_cases ho : v < 0 ∨ 15 < v
    · rw [labT, if_pos ho] at h
      exact absurd h.symm hne
    · omega
theorem CutsAt.sizes {c : UInt8} {t a b : List UInt8} {f : Bool} (hc : CutsAt c t a b f) : a.length ≤ t.length ∧ b.length ≤ t.length := by
  rcases hc with ⟨h, _⟩ | ⟨_, rfl, rfl, _⟩
  · obtain ⟨rfl, _⟩ := of_cutAt h
    simp only [List.length_append, List.length_cons]
    omega
  · simp

/-- a reader's answer -/
def LTellEnd (t : List UInt8) (w : World) (e : Ending) (w' : World) : Prop := ∃ (l : Int) (s : Nat) (b : Bool), e = .returned (.tuple #[.agg #[.int .i64 l, .int .u64 s], .bool b]) ∧ LabIs t l s b ∧ Below w.heap.size w w'
set_option maxRecDepth 100000 in
set_option maxHeartbeats 1000000 in
theorem lparse_top (t : ByteArray) (ht : (t.toList == [116, 111, 112]) = true) (w : World) : Calls Tryd.prog 42 #[.string t] w (LTellEnd t.data.toList w) := by
  have Ht := Lib.hid (fun w1 => ltop_c w1)
  have HL : Hid (LabIs t.data.toList 15 allN true) := Lib.hid (.inl ⟨rfl, by omega, by omega, U_all, by
    have h : t.data.toList = [116, 111, 112] := by rw [← Lib.toList_data]; simpa using ht
    rw [h]
    decide⟩)
  generalize allN = N at *
  go_enter Tryd.func42, Tryd.ntmps42
  go_wp2_with fail
  refine (Ht.out _).mono ?_
  rintro e w2 ⟨rfl, hb⟩
  obtain ⟨c0, c1, f0, f1, hz⟩ := slot_kept2 (w := w) (hb.mono (by simp))
  obtain ⟨e0, e1⟩ := two_set (u := .int .i64 15) (v := .int .u64 N) c0 c1
  go_wp2
  refine bodyPost_ret (v := .tuple #[.agg #[.int .i64 15, .int .u64 N], .bool true]) (by simp [results, Tryd.results42, go_sem, e0, e1]) rfl ⟨_, _, _, rfl, HL.out, ?_⟩
  exact below_set2 (hb.mono (by simp)) _ _

set_option maxRecDepth 100000 in
set_option maxHeartbeats 2000000 in
theorem lparse_no (t : ByteArray) (ht : (t.toList == [116, 111, 112]) = false) (hl : t.size ≤ 281474976710656) (w : World) (hE : Errs w) : Calls Tryd.prog 42 #[.string t] w (LTellEnd t.data.toList w) := by
  have htop : ¬ TopT t.data.toList := by unfold TopT; rw [← Lib.toList_data]; simpa using ht
  have hsz := Lib.size_eq t
  have HE := Lib.hid hE
  clear hE
  have Hc := Lib.hid (fun w1 => cutB_c t 58 (by omega) w1)
  go_enter Tryd.func42, Tryd.ntmps42
  go_wp2_with fail
  refine (Hc.out _).mono ?_
  rintro e w1 ⟨sa, sb, f, rfl, hcut, hd⟩
  have hsz2 := hcut.sizes
  rw [← Lib.size_eq, ← Lib.size_eq, ← Lib.size_eq] at hsz2
  have hb1 := hd.below
  have hE1 := (HE.out.grown (below1 w _)).grown hb1
  have HA := Lib.hid (fun w2 h => atoi_c sa (by omega) w2 h)
  have HP := Lib.hid (fun w2 => parse_c sb (by omega) w2)
  have HC := Lib.hid hcut
  clear hd hcut hsz Hc
  have hE2 := Lib.hid hE1
  clear hE1
  go_wp2_with fail
  refine (HA.out _ hE2.out).mono ?_
  rintro e w2 ⟨hr, hb2⟩
  have hb3 := hb1.trans (hb2.mono hb1.size)
  clear hE2 HE HA hb1 hb2
  rcases hr with ⟨v, ha, rfl⟩ | ⟨ha, x, ty, pt, rfl⟩
  · have HAV := Lib.hid ha
    clear ha
    go_wp2_with fail
    refine (HP.out _).mono ?_
    rintro e w3 ⟨rfl, hd3⟩
    have hb4 := hb3.trans (hd3.below.mono hb3.size)
    clear hb3 hd3 HP
    have hU := parse_u sb.data.toList
    cases hP : parseF sb.data.toList with
    | mk S ok =>
      have HPP := Lib.hid hP
      rw [hP] at hU
      simp only at hU
      clear hP
      cases ok
      · have HL := Lib.hid (LabIs.none_ HC.out htop fun k r _ _ _ hp => by rw [HPP.out] at hp; simp at hp)
        obtain ⟨c0, c1, f0, f1, hz⟩ := slot_kept2 (w := w) (hb4.mono (by simp))
        obtain ⟨e0, e1⟩ := two_set (u := .int .i64 0) (v := .int .u64 0) c0 c1
        clear hU htop
        go_wp2
        refine bodyPost_ret (v := .tuple #[.agg #[.int .i64 0, .int .u64 0], .bool false]) (by simp [results, Tryd.results42, go_sem, e0, e1]) rfl ⟨_, _, _, rfl, HL.out, ?_⟩
        exact below_set2 (hb4.mono (by simp)) _ _
      · have HT := Lib.hid (fun w1 => ltext_c v S hU w1)
        clear hU
        generalize hlab : labT v S = L at *
        have HLab := Lib.hid hlab
        clear hlab
        go_wp2_with fail
        refine (HT.out _).mono ?_
        rintro e w5 ⟨rfl, hb5⟩
        obtain ⟨b0, b1, _, hb5'⟩ := box_kept (w := w3) hb5
        have hb6 := hb4.trans (hb5'.mono hb4.size)
        clear hb5 hb5' hb4
        obtain ⟨c0, c1, f0, f1, hz⟩ := slot_kept2 (w := w) (hb6.mono (by simp))
        cases hq : (L == t.toList)
        · have hqn : (L != t.toList) = true := by simp [bne, hq]
          have HL := Lib.hid (LabIs.none_ HC.out htop fun k r hk hr h1 h2 h3 => by
            rw [HAV.out] at h1
            rw [HPP.out] at h2
            simp only [Option.some.injEq] at h1
            simp only [Prod.mk.injEq, and_true] at h2
            subst h1 h2
            rw [HLab.out] at h3
            have h4 : ¬ L = t.toList := by simpa using hq
            exact h4 (by rw [h3, Lib.toList_data]))
          obtain ⟨e0, e1⟩ := two_set (u := .int .i64 0) (v := .int .u64 0) c0 c1
          clear htop
          go_wp2
          refine bodyPost_ret (v := .tuple #[.agg #[.int .i64 0, .int .u64 0], .bool false]) (by simp [results, Tryd.results42, go_sem, e0, e1]) rfl ⟨_, _, _, rfl, HL.out, ?_⟩
          exact below_set2 (hb6.mono (by simp)) _ _
        · have hqn : (L != t.toList) = false := by simp [bne, hq]
          have HL := Lib.hid (LabIs.found HC.out HAV.out HPP.out (by
            rw [HLab.out, ← Lib.toList_data]
            simpa using hq))
          obtain ⟨e0, e1⟩ := two_set (u := .int .i64 v) (v := .int .u64 S) c0 c1
          clear htop
          go_wp2
          refine bodyPost_ret (v := .tuple #[.agg #[.int .i64 v, .int .u64 S], .bool true]) (by simp [results, Tryd.results42, go_sem, e0, e1]) rfl ⟨_, _, _, rfl, HL.out, ?_⟩
          exact below_set2 (hb6.mono (by simp)) _ _
  · have HL := Lib.hid (LabIs.none_ HC.out htop fun k r _ _ h _ => by rw [ha] at h; cases h)
    clear ha
    go_wp2_with fail
    refine (HP.out _).mono ?_
    rintro e w3 ⟨rfl, hd3⟩
    have hb4 := hb3.trans (hd3.below.mono hb3.size)
    clear hb3 hd3 HP htop
    generalize parseF sb.data.toList = q at *
    obtain ⟨c0, c1, f0, f1, hz⟩ := slot_kept2 (w := w) (hb4.mono (by simp))
    obtain ⟨e0, e1⟩ := two_set (u := .int .i64 0) (v := .int .u64 0) c0 c1
    go_wp2
    refine bodyPost_ret (v := .tuple #[.agg #[.int .i64 0, .int .u64 0], .bool false]) (by simp [results, Tryd.results42, go_sem, e0, e1]) rfl ⟨_, _, _, rfl, HL.out, ?_⟩
    exact below_set2 (hb4.mono (by simp)) _ _
theorem lparse_c (t : ByteArray) (hl : t.size ≤ 281474976710656) (w : World) (hE : Errs w) : Calls Tryd.prog 42 #[.string t] w (LTellEnd t.data.toList w) := by
  cases ht : (t.toList == [116, 111, 112])
  · exact lparse_no t ht hl w hE
  · exact lparse_top t ht w
end Go.Proofs.YtcgpggknmhlnkaaDoor.Cats
