/- ZoneOver: the law returns true for every list of zones, every span and every cell, and makes new memory alone. -/
import Derived.Test.YtedpgcmmnmlpeaaZoneAlive
namespace Go.Proofs.Ytedpgcmmnmlpeaa.Zone
open Go.RowKit Kit Reg Go.Proofs.Ytedpgcmmnmlpeaa.Span Go.Proofs.Ytedpgcmmnmlpeaa.Lab
open Go.Proofs.Ytedpgcmmnmlpeaa.Cats (U U_or U_zero)

/-- a cell that a span has is among those that are told, if any are -/
theorem has_told {a b c d p q x y : Int} {m : Bool} {R C S : Nat} (hm : mayS a b c d = m) (hR : ext m a c = R) (hC : ext m b d = C) (hp : lo m a c = p) (hq : lo m b d = q) (hS : R * C = S)
    (h : hasB a b c d x y = true) (hT : told S (cellAt p q C) ≠ []) : (x, y) ∈ told S (cellAt p q C) := by
  obtain ⟨h1, ⟨h2, h3⟩, h4, h5⟩ := hasB_iff.1 h
  obtain rfl : m = true := by rw [← hm, h1]
  rw [ext_true] at hR hC
  unfold told at hT ⊢
  split
  · rename_i hs
    rw [if_pos hs] at hT
    exact absurd rfl hT
  · obtain ⟨k, hk⟩ := Int.eq_ofNat_of_zero_le (show 0 ≤ x - p by omega)
    obtain ⟨j, hj⟩ := Int.eq_ofNat_of_zero_le (show 0 ≤ y - q by omega)
    have hkR : k < R := by omega
    have hjC : j < C := by omega
    have hlt : k * C + j < S := by
      rw [← hS]
      have h1 : (k + 1) * C ≤ R * C := Nat.mul_le_mul_right C hkR
      rw [Nat.succ_mul] at h1
      omega
    refine List.mem_of_getElem? (i := k * C + j) ?_
    rw [upto_get _ hlt, cellAt_at p q hjC]
    congr 1
    exact Prod.ext (by show p + (k : Int) = x; omega) (by show q + (j : Int) = y; omega)
theorem over_big (A : Option Addr) (n cap : Nat) (a b c d x y : Int) (w : World) (hn : 60 < n) :
    Calls Try.prog 3 #[.slice A n cap, .agg #[.int .i64 a, .int .i64 b, .int .i64 c, .int .i64 d], .agg #[.int .i64 x, .int .i64 y]] w fun e w' => e = .returned (.bool true) ∧ Below w.heap.size w w' := by
  have HA := Lib.hid alive_c
  have hd : decide (60 < (n : Int)) = true := by simp; omega
  have hb0 := below2 w (.cells #[.int .i64 a, .int .i64 b, .int .i64 c, .int .i64 d] 26) (.cells #[.int .i64 x, .int .i64 y] 24)
  go_enter Try.func3, Try.ntmps3
  go_wp2_with fail
  refine (HA.out _).mono ?_
  rintro e w1 ⟨rfl, hb1⟩
  replace hb0 := on hb0 hb1
  go_wp2
  go_ret
  exact ⟨rfl, hb0⟩
set_option maxRecDepth 100000 in
set_option maxHeartbeats 8000000 in
theorem over_law (A : Option Addr) (n cap : Nat) (zs : List Zn) (a b c d x y : Int) (w : World) (hz : n ≤ 60 → ZonesR w A n zs) :
    Calls Try.prog 3 #[.slice A n cap, .agg #[.int .i64 a, .int .i64 b, .int .i64 c, .int .i64 d], .agg #[.int .i64 x, .int .i64 y]] w fun e w' => e = .returned (.bool true) ∧ Below w.heap.size w w' := by
  by_cases hn : 60 < n
  · exact over_big A n cap a b c d x y w hn
  have hd : decide (60 < (n : Int)) = false := by simp; omega
  replace hz := hz (by omega)
  have HZ := Lib.hid hz
  have HA := Lib.hid alive_c
  have hu := hz.2.2.1
  clear hz
  obtain ⟨m, hm⟩ : ∃ m, mayS a b c d = m := ⟨_, rfl⟩
  obtain ⟨R, hR⟩ : ∃ R : Nat, ext m a c = R := ⟨(ext m a c).toNat, by have := (ext_rows hm).1; omega⟩
  obtain ⟨C, hC⟩ : ∃ C : Nat, ext m b d = C := ⟨(ext m b d).toNat, by have := (ext_cols hm).1; omega⟩
  obtain ⟨p, hp⟩ : ∃ p, lo m a c = p := ⟨_, rfl⟩
  obtain ⟨q, hq⟩ : ∃ q, lo m b d = q := ⟨_, rfl⟩
  obtain ⟨S, hS⟩ : ∃ S, R * C = S := ⟨_, rfl⟩
  obtain ⟨T, hT⟩ : ∃ T, told S (cellAt p q C) = T := ⟨_, rfl⟩
  obtain ⟨hl, hlb⟩ : ∃ hl, hasB a b c d x y = hl := ⟨_, rfl⟩
  have hT9 : T.length ≤ 1000 := by rw [← hT]; exact (told_length S _).1
  have HIn : hl = true → T ≠ [] → (x, y) ∈ T := fun h1 h2 => by rw [← hT] at h2 ⊢; exact has_told hm hR hC hp hq hS (hlb.trans h1) h2
  have HC1 : ∀ w1, Calls Try.prog 17 #[.agg #[.int .i64 a, .int .i64 b, .int .i64 c, .int .i64 d]] w1 (CellsEnd T w1) := fun w1 => hT ▸ cells_c a b c d m R C S p q hm hR hC hp hq hS w1
  have HC2 : ∀ w1, Calls Try.prog 8 #[.agg #[.int .i64 a, .int .i64 b, .int .i64 c, .int .i64 d]] w1 (CellsEnd T w1) := fun w1 => hT ▸ rcells_c a b c d m R C S p q hm hR hC hp hq hS w1
  have HH := Lib.hid (fun w1 => rhas_c a b c d x y hl hlb w1)
  clear hm hR hC hp hq hS hT hlb
  obtain ⟨ol, os, ho⟩ : ∃ l s, overF zs T = (l, s) := ⟨_, _, rfl⟩
  have huo : U os := by have := overF_U hu T; rw [ho] at this; exact this
  have hall : seenF zs T ol os = T := by have := seenF_all hu T; rw [ho] at this; exact this
  obtain ⟨kl, ks, hk⟩ : ∃ l s, contF zs x y = (l, s) := ⟨_, _, rfl⟩
  have huk : U ks := by have := contF_U (x := x) (y := y) hu; rw [hk] at this; exact this
  have HBl : hl = true → T ≠ [] → belowL kl ks ol os = true := fun h1 h2 => by
    have h := overF_ge hu (HIn h1 h2)
    rw [ho] at h
    simp only [hk] at h
    exact h
  have H1 := Lib.hid (fun w1 h => over_c A n cap zs a b c d ol os T hT9 HC1 ho w1 h)
  have H2 := Lib.hid HC2
  have H3 := Lib.hid (fun w1 (h : ZonesR w1 A n zs) => of_c A n cap zs x y kl ks hk w1 h)
  have H4 := Lib.hid (fun (hh : belowL kl ks ol os = true) w1 => below_c kl ol ks os true huk huo hh w1)
  have H5 : Hid (∀ w1, ZonesR w1 A n zs → Calls Try.prog 13 #[.slice A n cap, .agg #[.int .i64 a, .int .i64 b, .int .i64 c, .int .i64 d], .agg #[.int .i64 ol, .int .u64 os]] w1 (CellsEnd T w1)) := Lib.hid (fun w1 h => by
    have := seen_c A n cap zs a b c d ol os huo T hT9 HC1 w1 h
    rwa [hall] at this)
  have H6 := Lib.hid (fun v v' w1 h h' => same_c v v' T w1 hT9 h h')
  replace HBl := Lib.hid HBl
  clear hu HIn HC1 HC2 ho huo hall hk huk
  have hb0 := below2 w (.cells #[.int .i64 a, .int .i64 b, .int .i64 c, .int .i64 d] 26) (.cells #[.int .i64 x, .int .i64 y] 24)
  have ka := (CellsAt.new w [.int .i64 a, .int .i64 b, .int .i64 c, .int .i64 d] 26).on_alloc (.cells #[.int .i64 x, .int .i64 y] 24)
  have kx := CellsAt.new (w.alloc (.cells #[.int .i64 a, .int .i64 b, .int .i64 c, .int .i64 d] 26)) [.int .i64 x, .int .i64 y] 24
  rw [show (w.alloc (.cells #[.int .i64 a, .int .i64 b, .int .i64 c, .int .i64 d] 26)).heap.size = w.heap.size + 1 by simp] at kx
  go_enter Try.func3, Try.ntmps3
  go_wp2_with fail
  replace HZ := Lib.hid (HZ.out.on hb0)
  generalize (w.alloc (.cells #[.int .i64 a, .int .i64 b, .int .i64 c, .int .i64 d] 26)).alloc (.cells #[.int .i64 x, .int .i64 y] 24) = W at *
  refine (H1.out _ HZ.out).mono ?_
  rintro e w1 ⟨rfl, hb1⟩
  replace hb0 := on hb0 hb1
  replace ka := ka.on hb1
  replace kx := kx.on hb1
  replace HZ := Lib.hid (HZ.out.on hb1)
  have hbx := below1 w1 (.cells #[.int .i64 ol, .int .u64 os] 30)
  have kl7 := CellsAt.new w1 [.int .i64 ol, .int .u64 os] 30
  replace hb0 := on hb0 hbx
  replace ka := ka.on hbx
  replace kx := kx.on hbx
  replace HZ := Lib.hid (HZ.out.on hbx)
  have la := ka.1
  obtain ⟨a0, a1, a2, a3, _⟩ := ka.four
  clear hb1 hbx H1
  go_wp2_with fail
  generalize w1.alloc (.cells #[.int .i64 ol, .int .u64 os] 30) = W1 at *
  refine (H2.out _).mono ?_
  rintro e w2 ⟨v, rfl, hv, hb2⟩
  replace hb0 := on hb0 hb2
  replace ka := ka.on hb2
  replace kx := kx.on hb2
  replace kl7 := kl7.on hb2
  replace HZ := Lib.hid (HZ.out.on hb2)
  have hrow := hv.row
  obtain ⟨V, vc, rfl, _⟩ := id hrow
  replace hrow := Lib.hid hrow
  clear hb2 hv a0 a1 a2 a3 H2
  go_wp2_with fail
  obtain ⟨a0, a1, a2, a3, _⟩ := ka.four
  obtain ⟨x0, x1, _⟩ := kx.two
  obtain ⟨l0, l1, _⟩ := kl7.two
  have A0 := fun d os => cell_regrown a0 d os
  have A1 := fun d os => cell_regrown a1 d os
  have A2 := fun d os => cell_regrown a2 d os
  have A3 := fun d os => cell_regrown a3 d os
  have X0 := fun d os => cell_regrown x0 d os
  have X1 := fun d os => cell_regrown x1 d os
  have L0 := fun d os => cell_regrown l0 d os
  have L1 := fun d os => cell_regrown l1 d os
  clear a0 a1 a2 a3 x0 x1 l0 l1
  rcases (show hl = false ∨ (hl = true ∧ T = []) ∨ (hl = true ∧ T ≠ []) by cases hl <;> by_cases hT0 : T = [] <;> simp [hT0]) with rfl | ⟨rfl, hT0⟩ | ⟨rfl, hT0⟩
  · skip
    refine wp_region_mem 16 (fun d => match d with
      | 20 => some (Is (.bool false))
      | 29 => some (Is (.agg #[.int .i64 kl, .int .u64 ks]))
      | 31 => some (Is (.bool true))
      | _ => none) (by kernel_rfl) (by kernel_rfl) ?_
    simp only [List.take_succ_cons, List.take_zero, List.drop_succ_cons, List.drop_zero]
    repeat (first | (refine wpM_calm rfl rfl rfl ?_; intro K hK; go_big_quiet_op; go_big_quiet_on) | (refine wpM_skip rfl ?_; simp only [Act.put, List.setIfInBounds_toArray, List.set_cons_succ, List.set_cons_zero]))
    refine wpM_exact rfl rfl rfl Try.func9 (by kernel_rfl) (by kernel_rfl) (fun w1 _ _ => HH.out w1) rfl (by simp only [Act.put, List.setIfInBounds_toArray, List.set_cons_succ, List.set_cons_zero]; rfl) ?_
    repeat (first | (refine wpM_calm rfl rfl rfl ?_; intro K hK; go_big_quiet_op; go_big_quiet_on) | (refine wpM_skip rfl ?_; simp only [Act.put, List.setIfInBounds_toArray, List.set_cons_succ, List.set_cons_zero]))
    refine wpM_nil ?_
    intro w4 hb4 _
    replace hb0 := on hb0 hb4
    replace ka := ka.on hb4
    replace kl7 := kl7.on hb4
    replace HZ := Lib.hid (HZ.out.on hb4)
    replace hrow := Lib.hid (hrow.out.on hb4)
    clear hb4 A0 A1 A2 A3 X0 X1 L0 L1 HH H3 H4 kx
    have la := ka.1
    have ll := kl7.1
    obtain ⟨a0, a1, a2, a3, _⟩ := ka.four
    obtain ⟨l0, l1, _⟩ := kl7.two
    go_wp2_with fail
    refine (H5.out _ HZ.out).mono ?_
    rintro e w5 ⟨v5, rfl, hv5, hb5⟩
    replace hb0 := on hb0 hb5
    replace hrow := Lib.hid (hrow.out.on hb5)
    have hrow5 := Lib.hid hv5.row
    clear hb5 hv5 ka kl7 a0 a1 a2 a3 l0 l1 la ll
    go_wp2_with fail
    refine (H6.out _ _ _ hrow5.out hrow.out).mono ?_
    rintro e w6 ⟨rfl, hb6⟩
    replace hb0 := on hb0 hb6
    clear hb6
    go_wp2_with fail
    refine (HA.out _).mono ?_
    rintro e w7 ⟨rfl, hb7⟩
    replace hb0 := on hb0 hb7
    clear hb7
    go_wp2
    go_ret
    exact ⟨rfl, hb0⟩
  · have hd0 : decide (0 < T.length) = false := by rw [hT0]; rfl
    clear hT0
    refine wp_region_mem 16 (fun d => match d with
      | 20 => some (Is (.bool true))
      | 29 => some (Is (.agg #[.int .i64 kl, .int .u64 ks]))
      | 31 => some (Is (.bool true))
      | _ => none) (by kernel_rfl) (by kernel_rfl) ?_
    simp only [List.take_succ_cons, List.take_zero, List.drop_succ_cons, List.drop_zero]
    repeat (first | (refine wpM_calm rfl rfl rfl ?_; intro K hK; go_big_quiet_op; go_big_quiet_on) | (refine wpM_skip rfl ?_; simp only [Act.put, List.setIfInBounds_toArray, List.set_cons_succ, List.set_cons_zero]))
    refine wpM_exact rfl rfl rfl Try.func9 (by kernel_rfl) (by kernel_rfl) (fun w1 _ _ => HH.out w1) rfl (by simp only [Act.put, List.setIfInBounds_toArray, List.set_cons_succ, List.set_cons_zero]; rfl) ?_
    repeat (first | (refine wpM_calm rfl rfl rfl ?_; intro K hK; go_big_quiet_op; go_big_quiet_on) | (refine wpM_skip rfl ?_; simp only [Act.put, List.setIfInBounds_toArray, List.set_cons_succ, List.set_cons_zero]))
    try simp only [hd0]
    repeat (first | (refine wpM_calm rfl rfl rfl ?_; intro K hK; go_big_quiet_op; go_big_quiet_on) | (refine wpM_skip rfl ?_; simp only [Act.put, List.setIfInBounds_toArray, List.set_cons_succ, List.set_cons_zero]))
    refine wpM_nil ?_
    intro w4 hb4 _
    replace hb0 := on hb0 hb4
    replace ka := ka.on hb4
    replace kl7 := kl7.on hb4
    replace HZ := Lib.hid (HZ.out.on hb4)
    replace hrow := Lib.hid (hrow.out.on hb4)
    clear hb4 A0 A1 A2 A3 X0 X1 L0 L1 HH H3 H4 kx
    have la := ka.1
    have ll := kl7.1
    obtain ⟨a0, a1, a2, a3, _⟩ := ka.four
    obtain ⟨l0, l1, _⟩ := kl7.two
    go_wp2_with fail
    refine (H5.out _ HZ.out).mono ?_
    rintro e w5 ⟨v5, rfl, hv5, hb5⟩
    replace hb0 := on hb0 hb5
    replace hrow := Lib.hid (hrow.out.on hb5)
    have hrow5 := Lib.hid hv5.row
    clear hb5 hv5 ka kl7 a0 a1 a2 a3 l0 l1 la ll
    go_wp2_with fail
    refine (H6.out _ _ _ hrow5.out hrow.out).mono ?_
    rintro e w6 ⟨rfl, hb6⟩
    replace hb0 := on hb0 hb6
    clear hb6
    go_wp2_with fail
    refine (HA.out _).mono ?_
    rintro e w7 ⟨rfl, hb7⟩
    replace hb0 := on hb0 hb7
    clear hb7
    go_wp2
    go_ret
    exact ⟨rfl, hb0⟩
  · have hd0 : decide (0 < T.length) = true := by simpa using List.length_pos_iff.2 hT0
    have H4b := Lib.hid (H4.out (HBl.out rfl hT0))
    clear hT0
    refine wp_region_mem 16 (fun d => match d with
      | 20 => some (Is (.bool true))
      | 29 => some (Is (.agg #[.int .i64 kl, .int .u64 ks]))
      | 31 => some (Is (.bool true))
      | _ => none) (by kernel_rfl) (by kernel_rfl) ?_
    simp only [List.take_succ_cons, List.take_zero, List.drop_succ_cons, List.drop_zero]
    repeat (first | (refine wpM_calm rfl rfl rfl ?_; intro K hK; go_big_quiet_op; go_big_quiet_on) | (refine wpM_skip rfl ?_; simp only [Act.put, List.setIfInBounds_toArray, List.set_cons_succ, List.set_cons_zero]))
    refine wpM_exact rfl rfl rfl Try.func9 (by kernel_rfl) (by kernel_rfl) (fun w1 _ _ => HH.out w1) rfl (by simp only [Act.put, List.setIfInBounds_toArray, List.set_cons_succ, List.set_cons_zero]; rfl) ?_
    repeat (first | (refine wpM_calm rfl rfl rfl ?_; intro K hK; go_big_quiet_op; go_big_quiet_on) | (refine wpM_skip rfl ?_; simp only [Act.put, List.setIfInBounds_toArray, List.set_cons_succ, List.set_cons_zero]))
    try simp only [hd0]
    repeat (first | (refine wpM_calm rfl rfl rfl ?_; intro K hK; go_big_quiet_op; go_big_quiet_on) | (refine wpM_skip rfl ?_; simp only [Act.put, List.setIfInBounds_toArray, List.set_cons_succ, List.set_cons_zero]))
    refine wpM_exact rfl rfl rfl Try.func11 (by kernel_rfl) (by kernel_rfl) (fun w1 hw1 _ => H3.out w1 (HZ.out.on hw1)) rfl (by simp only [Act.put, List.setIfInBounds_toArray, List.set_cons_succ, List.set_cons_zero]; rfl) ?_
    repeat (first | (refine wpM_calm rfl rfl rfl ?_; intro K hK; go_big_quiet_op; go_big_quiet_on) | (refine wpM_skip rfl ?_; simp only [Act.put, List.setIfInBounds_toArray, List.set_cons_succ, List.set_cons_zero]))
    refine wpM_exact rfl rfl rfl Try.func10 (by kernel_rfl) (by kernel_rfl) (fun w1 _ _ => H4b.out w1) rfl (by simp only [Act.put, List.setIfInBounds_toArray, List.set_cons_succ, List.set_cons_zero]; rfl) ?_
    repeat (first | (refine wpM_calm rfl rfl rfl ?_; intro K hK; go_big_quiet_op; go_big_quiet_on) | (refine wpM_skip rfl ?_; simp only [Act.put, List.setIfInBounds_toArray, List.set_cons_succ, List.set_cons_zero]))
    refine wpM_nil ?_
    intro w4 hb4 _
    replace hb0 := on hb0 hb4
    replace ka := ka.on hb4
    replace kl7 := kl7.on hb4
    replace HZ := Lib.hid (HZ.out.on hb4)
    replace hrow := Lib.hid (hrow.out.on hb4)
    clear hb4 A0 A1 A2 A3 X0 X1 L0 L1 HH H3 H4 kx
    have la := ka.1
    have ll := kl7.1
    obtain ⟨a0, a1, a2, a3, _⟩ := ka.four
    obtain ⟨l0, l1, _⟩ := kl7.two
    go_wp2_with fail
    refine (H5.out _ HZ.out).mono ?_
    rintro e w5 ⟨v5, rfl, hv5, hb5⟩
    replace hb0 := on hb0 hb5
    replace hrow := Lib.hid (hrow.out.on hb5)
    have hrow5 := Lib.hid hv5.row
    clear hb5 hv5 ka kl7 a0 a1 a2 a3 l0 l1 la ll
    go_wp2_with fail
    refine (H6.out _ _ _ hrow5.out hrow.out).mono ?_
    rintro e w6 ⟨rfl, hb6⟩
    replace hb0 := on hb0 hb6
    clear hb6
    go_wp2_with fail
    refine (HA.out _).mono ?_
    rintro e w7 ⟨rfl, hb7⟩
    replace hb0 := on hb0 hb7
    clear hb7
    go_wp2
    go_ret
    exact ⟨rfl, hb0⟩
end Go.Proofs.Ytedpgcmmnmlpeaa.Zone
