/- LabelBack: the law returns true for every label and every text, and makes new memory alone. -/
import Derived.Test.YtobjmldfnnhofaaDoorLabAlive
import Derived.Test.YtobjmldfnnhofaaDoorLabRefParse
namespace Go.Proofs.YtobjmldfnnhofaaDoor.Cats
open Go.RowKit

theorem kept {w w' : World} (hb : Below w.heap.size w w') {p : Addr} {v : Value} (h : w.cell? p = some v) : w'.cell? p = some v := (hb.cell (block_lt_of_cell h)).trans h
theorem kept_alloc {w : World} (o : Obj) {p : Addr} {v : Value} (h : w.cell? p = some v) : (w.alloc o).cell? p = some v := (World.cell?_alloc_lt w o p (block_lt_of_cell h)).trans h
theorem new_two (w : World) (x y : Value) (ty : TypeId) : (w.alloc (.cells #[x, y] ty)).cell? ⟨w.heap.size, 0, none⟩ = some x ∧ (w.alloc (.cells #[x, y] ty)).cell? ⟨w.heap.size, 1, none⟩ = some y := by
  rw [World.cell?_alloc_at _ _ _ _ rfl, World.cell?_alloc_at _ _ _ _ rfl]; exact ⟨rfl, rfl⟩
theorem new_three (w : World) (x y z : Value) (ty : TypeId) : (w.alloc (.cells #[x, y, z] ty)).cell? ⟨w.heap.size, 0, none⟩ = some x ∧ (w.alloc (.cells #[x, y, z] ty)).cell? ⟨w.heap.size, 1, none⟩ = some y ∧ (w.alloc (.cells #[x, y, z] ty)).cell? ⟨w.heap.size, 2, none⟩ = some z := by
  rw [World.cell?_alloc_at _ _ _ _ rfl, World.cell?_alloc_at _ _ _ _ rfl, World.cell?_alloc_at _ _ _ _ rfl]; exact ⟨rfl, rfl, rfl⟩
theorem lab_may {l : Int} {s : Nat} (h : mayL l = true) (hs : U s) : LabIs (labT l s) l s true := by
  have h2 : 0 ≤ l ∧ l ≤ 15 := by simpa [mayL] using h
  exact .inl ⟨rfl, h2.1, h2.2, hs, rfl⟩
theorem lab_maynot {l : Int} {s : Nat} (h : mayL l = false) : LabIs (labT l s) 0 0 false := by
  have h2 : l < 0 ∨ 15 < l := by
    by_cases h0 : 0 ≤ l
    · right
      have : ¬ l ≤ 15 := fun h1 => by simp [mayL, h0, h1] at h
      omega
    · left; omega
  have e : labT l s = [] := by unfold labT; rw [if_pos h2]
  rw [e]
  refine .inr ⟨rfl, rfl, rfl, fun k r hk _ => ?_⟩
  rw [labT_nat hk]
  split
  · simp
  · split
    · exact (digs_clean k (by omega)).2.2
    · simp
theorem LabIs.text {t : List UInt8} {l : Int} {s : Nat} (h : LabIs t l s true) : labT l s = t ∧ U s := by
  rcases h with ⟨_, _, _, hu, h⟩ | ⟨h, _⟩
  · exact ⟨h, hu⟩
  · cases h
theorem LabIs.zero {t : List UInt8} {l : Int} {s : Nat} (h : LabIs t l s false) : l = 0 ∧ s = 0 := by
  rcases h with ⟨h, _⟩ | ⟨_, h1, h2, _⟩
  · cases h
  · exact ⟨h1, h2⟩
set_option maxRecDepth 100000 in
set_option maxHeartbeats 1000000 in
theorem labelBack_long (l : Int) (s : Nat) (t : ByteArray) (ht : 300 < t.size) (hl : t.size ≤ 9223372036854775807) (w : World) (hE : Errs w) :
    Calls Tryd.prog 5 #[.agg #[.int .i64 l, .int .u64 s], .string t] w fun e w' => e = .returned (.bool true) ∧ Below w.heap.size w w' := by
  have HA := Lib.hid (fun w1 h => lalive_c w1 h)
  have HE := Lib.hid hE
  clear hE
  go_enter Tryd.func5, Tryd.ntmps5
  go_wp2_with fail
  refine (HA.out _ (HE.out.grown (below1 w _))).mono ?_
  rintro e w1 ⟨rfl, hb1⟩
  have hb2 := (below1 w _).trans (Below.mono (B' := w.heap.size) hb1 (by simp))
  clear hb1
  go_wp2
  go_ret
  exact ⟨rfl, hb2⟩
set_option maxRecDepth 100000 in
set_option maxHeartbeats 8000000 in
theorem labelBack_short (l : Int) (s : Nat) (t : ByteArray) (hs : U s) (ht : t.size ≤ 300) (w : World) (hE : Errs w) :
    Calls Tryd.prog 5 #[.agg #[.int .i64 l, .int .u64 s], .string t] w fun e w' => e = .returned (.bool true) ∧ Below w.heap.size w w' := by
  have HA := Lib.hid (fun w1 h => lalive_c w1 h)
  have HE := Lib.hid hE
  have HT := Lib.hid (fun w1 => ltext_c l s hs w1)
  have HR := Lib.hid (fun w1 => rlabtext_c l s hs w1)
  have HM := Lib.hid (fun w1 => lmay_c l s _ rfl w1)
  have HP2 := Lib.hid (fun w1 h => lparse_c t (by omega) w1 h)
  have HP3 := Lib.hid (fun w1 => rlabparse_c t ht w1)
  have hll : (labT l s).length ≤ 281474976710656 := by
    unfold labT
    split
    · simp
    · split
      · simp
      · have h1 := digs_length l.toNat
        have h2 := textL_length s
        split
        · omega
        · simp only [List.length_append, List.length_cons]; omega
  have HP1 := Lib.hid (fun w1 h => lparse_c ⟨(labT l s).toArray⟩ (by simpa [ByteArray.size] using hll) w1 h)
  obtain ⟨x, sx, ok, HX⟩ : ∃ (x : Int) (sx : Nat) (ok : Bool), Hid (LabIs (labT l s) x sx ok ∧ ok = mayL l ∧ (ok = true → x = l ∧ sx = s) ∧ (ok = false → x = 0 ∧ sx = 0)) := by
    cases hm : mayL l
    · exact ⟨0, 0, false, lab_maynot hm, rfl, by simp, by simp⟩
    · exact ⟨l, s, true, lab_may hm hs, rfl, by simp, by simp⟩
  clear hE hs hll
  generalize hT : labT l s = T at *
  clear hT
  go_enter Tryd.func5, Tryd.ntmps5
  go_wp2_with fail
  refine (HT.out _).mono ?_
  rintro e w1 ⟨rfl, hb1⟩
  obtain ⟨c0, c1, hz, hb⟩ := box_kept (w := w) hb1
  clear hb1 HT
  go_wp2_with fail
  refine (HP1.out _ (HE.out.grown hb)).mono ?_
  rintro e w2 ⟨x', sx', ok', rfl, hx, hb2⟩
  obtain ⟨rfl, rfl, rfl⟩ := hx.unique (HX.out.1)
  clear hx HP1
  replace c0 := kept_alloc (.cells #[.int .i64 x', .int .u64 sx'] 24) (kept hb2 c0)
  replace c1 := kept_alloc (.cells #[.int .i64 x', .int .u64 sx'] 24) (kept hb2 c1)
  obtain ⟨d0, d1⟩ := new_two w2 (.int .i64 x') (.int .u64 sx') 24
  replace hb := (hb.trans (hb2.mono hb.size)).alloc (hb.trans (hb2.mono hb.size)).size (.cells #[.int .i64 x', .int .u64 sx'] 24)
  clear hb2 hz
  go_wp2_with fail
  generalize w2.alloc (.cells #[.int .i64 x', .int .u64 sx'] 24) = W2 at *
  generalize w2.heap.size = B2 at *
  refine (HP2.out _ (HE.out.grown hb)).mono ?_
  rintro e w3 ⟨y, sy, is, rfl, hy, hb3⟩
  have HY := Lib.hid hy
  clear hy HP2
  replace c0 := kept_alloc (.cells #[.int .i64 y, .int .u64 sy] 24) (kept hb3 c0)
  replace c1 := kept_alloc (.cells #[.int .i64 y, .int .u64 sy] 24) (kept hb3 c1)
  replace d0 := kept_alloc (.cells #[.int .i64 y, .int .u64 sy] 24) (kept hb3 d0)
  replace d1 := kept_alloc (.cells #[.int .i64 y, .int .u64 sy] 24) (kept hb3 d1)
  obtain ⟨g0, g1⟩ := new_two w3 (.int .i64 y) (.int .u64 sy) 24
  replace hb := (hb.trans (hb3.mono hb.size)).alloc (hb.trans (hb3.mono hb.size)).size (.cells #[.int .i64 y, .int .u64 sy] 24)
  clear hb3
  go_wp2_with fail
  generalize w3.alloc (.cells #[.int .i64 y, .int .u64 sy] 24) = W3 at *
  generalize w3.heap.size = B3 at *
  refine (HP3.out _).mono ?_
  rintro e w4 ⟨y', sy', is', rfl, hy', hb4⟩
  obtain ⟨rfl, rfl, rfl⟩ := hy'.unique HY.out
  clear hy' HP3
  replace c0 := kept_alloc (.cells #[.int .i64 y', .int .u64 sy', .bool is'] 37) (kept hb4 c0)
  replace c1 := kept_alloc (.cells #[.int .i64 y', .int .u64 sy', .bool is'] 37) (kept hb4 c1)
  replace d0 := kept_alloc (.cells #[.int .i64 y', .int .u64 sy', .bool is'] 37) (kept hb4 d0)
  replace d1 := kept_alloc (.cells #[.int .i64 y', .int .u64 sy', .bool is'] 37) (kept hb4 d1)
  replace g0 := kept_alloc (.cells #[.int .i64 y', .int .u64 sy', .bool is'] 37) (kept hb4 g0)
  replace g1 := kept_alloc (.cells #[.int .i64 y', .int .u64 sy', .bool is'] 37) (kept hb4 g1)
  obtain ⟨k0, k1, k2⟩ := new_three w4 (.int .i64 y') (.int .u64 sy') (.bool is') 37
  replace hb := (hb.trans (hb4.mono hb.size)).alloc (hb.trans (hb4.mono hb.size)).size (.cells #[.int .i64 y', .int .u64 sy', .bool is'] 37)
  clear hb4
  go_wp2_with fail
  generalize w4.alloc (.cells #[.int .i64 y', .int .u64 sy', .bool is'] 37) = W4 at *
  generalize w4.heap.size = B4 at *
  refine (HR.out _).mono ?_
  rintro e w5 ⟨rfl, hb5⟩
  replace c0 := kept hb5 c0
  replace c1 := kept hb5 c1
  replace d0 := kept hb5 d0
  replace d1 := kept hb5 d1
  replace g0 := kept hb5 g0
  replace g1 := kept hb5 g1
  replace k0 := kept hb5 k0
  replace k1 := kept hb5 k1
  replace k2 := kept hb5 k2
  replace hb := hb.trans (hb5.mono hb.size)
  clear hb5 HR
  go_wp2_with fail
  refine (HM.out _).mono ?_
  rintro e w6 ⟨rfl, hb6⟩
  replace c0 := kept hb6 c0
  replace c1 := kept hb6 c1
  replace d0 := kept hb6 d0
  replace d1 := kept hb6 d1
  replace g0 := kept hb6 g0
  replace g1 := kept hb6 g1
  replace k0 := kept hb6 k0
  replace k1 := kept hb6 k1
  replace k2 := kept hb6 k2
  replace hb := hb.trans (hb6.mono hb.size)
  clear hb6
  obtain ⟨_, hok, hyes, hno⟩ := id HX.out
  rw [← hok]
  clear hok HM
  cases ok' <;> cases is'
  all_goals
    first
      | (obtain ⟨rfl, rfl⟩ := hyes rfl; clear hno)
      | (obtain ⟨rfl, rfl⟩ := hno rfl; clear hyes)
    first
      | (obtain ⟨rfl, rfl⟩ := HY.out.zero
         go_wp2_with fail
         refine (HA.out _ (HE.out.grown hb)).mono ?_
         rintro e w7 ⟨rfl, hb7⟩
         have hb8 := hb.trans (hb7.mono hb.size)
         clear hb7 hb
         go_wp2
         go_ret
         exact ⟨rfl, hb8⟩)
      | (obtain ⟨HL1, HL2⟩ := HY.out.text
         have HT2 := Lib.hid (fun w1 => ltext_c y' sy' HL2 w1)
         rw [HL1] at HT2
         have hts : (t.data.toList == t.toList) = true := by rw [Lib.toList_data]; simp
         generalize hTL : t.data.toList = TL at *
         clear HL1 HL2 hTL
         go_wp2_with fail
         refine (HT2.out _).mono ?_
         rintro e w7 ⟨rfl, hb7⟩
         replace hb := hb.trans (hb7.mono hb.size)
         clear hb7
         go_wp2_with fail
         refine (HA.out _ (HE.out.grown hb)).mono ?_
         rintro e w8 ⟨rfl, hb8⟩
         replace hb := hb.trans (hb8.mono hb.size)
         clear hb8
         go_wp2
         go_ret
         exact ⟨rfl, hb⟩)
theorem labelBack (l : Int) (s : Nat) (t : ByteArray) (hs : U s) (hl : t.size ≤ 9223372036854775807) (w : World) (hE : Errs w) :
    Calls Tryd.prog 5 #[.agg #[.int .i64 l, .int .u64 s], .string t] w fun e w' => e = .returned (.bool true) ∧ Below w.heap.size w w' := by
  by_cases ht : 300 < t.size
  · exact labelBack_long l s t ht hl w hE
  · exact labelBack_short l s t hs (by omega) w hE
end Go.Proofs.YtobjmldfnnhofaaDoor.Cats
