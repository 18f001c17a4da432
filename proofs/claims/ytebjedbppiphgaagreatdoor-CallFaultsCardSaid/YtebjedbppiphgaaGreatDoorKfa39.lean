/- The program's ofTexts: functions of one text, of two, of three. Written by wip/gen21f.py. -/
import Derived.Test.YtebjedbppiphgaaGreatDoorKfa38
import Derived.Test.YtebjedbppiphgaaGreatDoorKfa36
import Derived.Test.YtebjedbppiphgaaGreatDoorKfa20
import Derived.Test.YtebjedbppiphgaaGreatDoorKfa16
namespace Go.Proofs.YtebjedbppiphgaaGreatDoor.Cal
open Go.RowKit Kit Reg Dec Dig Val Fld
theorem str_v (m : List UInt8) (h : m.length ≤ 256) (w : World) : Calls Tryz.prog 24 #[.string ⟨m.toArray⟩] w (ValIs 2 0 ⟨m.toArray⟩ w) := str_in_c ⟨m.toArray⟩ h w
set_option maxRecDepth 100000 in
set_option maxHeartbeats 2000000 in
theorem ptx_LEN (A : Option Addr) (cap : Nat) (t : ByteArray) (ht : t.size ≤ 256) (w : World) (HN0 : ∀ w1, Below w.heap.size w w1 → Calls Tryz.prog 84 #[.slice A 1 cap] w1 fun e w' => ∃ A2 c2, e = .returned (.tuple #[.slice A2 1 c2, .agg #[.int .i64 0, .int .i64 0, .string ⟨#[]⟩]]) ∧ StrsB w' A2 [t] ∧ Below w1.heap.size w1 w') :
    Calls Tryz.prog 51 #[.int .i64 37, .slice A 1 cap] w (IsV (cV ((Run.ps t.data.toList).length : Nat)) w) := by
  obtain ⟨h2, hb2⟩ := first w [.int .i64 0, .int .i64 0, .string ⟨#[]⟩] 23
  have HN := Lib.hid HN0
  have HI : Hid (∀ w1, Calls Tryz.prog 42 #[.agg #[.int .i64 0, .int .i64 0, .string ⟨#[]⟩]] w1 fun e w' => e = .returned (.bool false) ∧ Below w1.heap.size w1 w') := Lib.hid (fun w1 => isfault_v 0 0 ⟨#[]⟩ false rfl w1)
  have hlen : (Run.ps t.data.toList).length ≤ 256 := Nat.le_trans (Run.ps_len _) (by rw [Dig.len]; exact ht)
  obtain ⟨n, hn⟩ : ∃ n, (Run.ps t.data.toList).length = n := ⟨_, rfl⟩
  have HA := Lib.hid (fun w1 => Run.count_c t _ rfl (by omega) n hn w1)
  rw [hn] at hlen ⊢
  clear hn
  have HZ : Hid (∀ w1, Calls Tryz.prog 101 #[.int .i64 (n : Nat)] w1 (IsV (cV (n : Nat)) w1)) := Lib.hid (fun w1 => counted_v n (by omega) (by omega) w1)
  obtain ⟨⟨a, b, c⟩, hz⟩ : ∃ v, (cV (n : Nat)) = v := ⟨_, rfl⟩
  rw [hz] at HZ ⊢
  clear hz
  have HZ2 : Hid (∀ w1, Calls Tryz.prog 101 #[.int .i64 (n : Nat)] w1 (ValIs a b c w1)) := HZ
  clear HZ
  show Calls Tryz.prog 51 _ w (ValIs a b c w)
  clear HN0
  go_enter Tryz.func51, Tryz.ntmps51
  go_wp2_with fail
  generalize w.alloc (.cells #[.int .i64 0, .int .i64 0, .string ⟨#[]⟩] 23) = W at *
  refine (HN.out _ hb2).mono ?_
  rintro e w1 ⟨A2, c2, rfl, hr, hb1⟩
  replace h2 := (h2.on hb1).on_alloc (.cells #[.int .i64 0, .int .i64 0, .string ⟨#[]⟩] 23)
  replace hb2 := on_alloc (on hb2 hb1) (.cells #[.int .i64 0, .int .i64 0, .string ⟨#[]⟩] 23)
  replace hr := hr.on (below1 w1 (.cells #[.int .i64 0, .int .i64 0, .string ⟨#[]⟩] 23))
  clear hb1
  obtain ⟨x0, x1, x2, -⟩ := (CellsAt.new w1 [.int .i64 0, .int .i64 0, .string ⟨#[]⟩] 23).three
  go_wp2_with fail
  generalize w1.alloc (.cells #[.int .i64 0, .int .i64 0, .string ⟨#[]⟩] 23) = X1 at *
  refine (HI.out _).mono ?_
  rintro e w2 ⟨rfl, hb1⟩
  replace h2 := h2.on hb1
  replace hb2 := on hb2 hb1
  replace hr := hr.on hb1
  clear x0 x1 x2 hb1 HN HI
  obtain ⟨g, o, rfl, hg, hc⟩ := hr
  have c0 := hc 0 _ rfl
  rw [Nat.add_zero] at c0
  clear hc
  go_wp2_with fail
  refine (HA.out _).mono ?_
  rintro e w3 ⟨rfl, hb1⟩
  replace h2 := h2.on hb1
  replace hb2 := on hb2 hb1
  clear hb1
  go_wp2_with fail
  refine (HZ2.out _).mono ?_
  rintro e w3 ⟨rfl, hb1⟩
  replace h2 := h2.on hb1
  replace hb2 := on hb2 hb1
  clear hb1
  obtain ⟨⟨g0, p0, p1, p2, q0, q1, q2⟩, ⟨z0, z1, z2⟩, hb3⟩ := val_ends h2 hb2 (Nat.le_refl _) (.int .i64 a) (.int .i64 b) (.string c)
  clear h2 hb2
  go_wp2
  exact bodyPost_ret (v := .agg #[.int .i64 a, .int .i64 b, .string c]) (by simp [results, Tryz.results51, go_sem, z0, z1, z2]) rfl ⟨rfl, hb3⟩
set_option maxRecDepth 100000 in
set_option maxHeartbeats 2000000 in
theorem ptx_LOWER (A : Option Addr) (cap : Nat) (t : ByteArray) (ht : t.size ≤ 256) (w : World) (HN0 : ∀ w1, Below w.heap.size w w1 → Calls Tryz.prog 84 #[.slice A 1 cap] w1 fun e w' => ∃ A2 c2, e = .returned (.tuple #[.slice A2 1 c2, .agg #[.int .i64 0, .int .i64 0, .string ⟨#[]⟩]]) ∧ StrsB w' A2 [t] ∧ Below w1.heap.size w1 w') :
    Calls Tryz.prog 51 #[.int .i64 38, .slice A 1 cap] w (IsV (sV (Txt.wrL 1 1 1 t.data.toList)) w) := by
  obtain ⟨h2, hb2⟩ := first w [.int .i64 0, .int .i64 0, .string ⟨#[]⟩] 23
  have HN := Lib.hid HN0
  have HI : Hid (∀ w1, Calls Tryz.prog 42 #[.agg #[.int .i64 0, .int .i64 0, .string ⟨#[]⟩]] w1 fun e w' => e = .returned (.bool false) ∧ Below w1.heap.size w1 w') := Lib.hid (fun w1 => isfault_v 0 0 ⟨#[]⟩ false rfl w1)
  have hlen : (Txt.wrL 1 1 1 t.data.toList).length ≤ 256 := Nat.le_trans (Nat.le_of_eq (Txt.wr_len _ _ _ _)) (by rw [Dig.len]; exact ht)
  have HA : Hid (∀ w1, Calls Tryz.prog 103 #[.string t] w1 fun e w' => e = .returned (.string ⟨(Txt.wrL 1 1 1 t.data.toList).toArray⟩) ∧ Below w1.heap.size w1 w') := Lib.hid (fun w1 => Txt.lower_c t (by omega) w1)
  generalize Txt.wrL 1 1 1 t.data.toList = m at *
  have HZ2 := Lib.hid (fun w1 => str_v m hlen w1)
  show Calls Tryz.prog 51 _ w (ValIs 2 0 ⟨m.toArray⟩ w)
  clear HN0
  go_enter Tryz.func51, Tryz.ntmps51
  go_wp2_with fail
  generalize w.alloc (.cells #[.int .i64 0, .int .i64 0, .string ⟨#[]⟩] 23) = W at *
  refine (HN.out _ hb2).mono ?_
  rintro e w1 ⟨A2, c2, rfl, hr, hb1⟩
  replace h2 := (h2.on hb1).on_alloc (.cells #[.int .i64 0, .int .i64 0, .string ⟨#[]⟩] 23)
  replace hb2 := on_alloc (on hb2 hb1) (.cells #[.int .i64 0, .int .i64 0, .string ⟨#[]⟩] 23)
  replace hr := hr.on (below1 w1 (.cells #[.int .i64 0, .int .i64 0, .string ⟨#[]⟩] 23))
  clear hb1
  obtain ⟨x0, x1, x2, -⟩ := (CellsAt.new w1 [.int .i64 0, .int .i64 0, .string ⟨#[]⟩] 23).three
  go_wp2_with fail
  generalize w1.alloc (.cells #[.int .i64 0, .int .i64 0, .string ⟨#[]⟩] 23) = X1 at *
  refine (HI.out _).mono ?_
  rintro e w2 ⟨rfl, hb1⟩
  replace h2 := h2.on hb1
  replace hb2 := on hb2 hb1
  replace hr := hr.on hb1
  clear x0 x1 x2 hb1 HN HI
  obtain ⟨g, o, rfl, hg, hc⟩ := hr
  have c0 := hc 0 _ rfl
  rw [Nat.add_zero] at c0
  clear hc
  go_wp2_with fail
  refine (HA.out _).mono ?_
  rintro e w3 ⟨rfl, hb1⟩
  replace h2 := h2.on hb1
  replace hb2 := on hb2 hb1
  clear hb1
  go_wp2_with fail
  refine (HZ2.out _).mono ?_
  rintro e w3 ⟨rfl, hb1⟩
  replace h2 := h2.on hb1
  replace hb2 := on hb2 hb1
  clear hb1
  obtain ⟨⟨g0, p0, p1, p2, q0, q1, q2⟩, ⟨z0, z1, z2⟩, hb3⟩ := val_ends h2 hb2 (Nat.le_refl _) (.int .i64 2) (.int .i64 0) (.string ⟨m.toArray⟩)
  clear h2 hb2
  go_wp2
  exact bodyPost_ret (v := .agg #[.int .i64 2, .int .i64 0, .string ⟨m.toArray⟩]) (by simp [results, Tryz.results51, go_sem, z0, z1, z2]) rfl ⟨rfl, hb3⟩
set_option maxRecDepth 100000 in
set_option maxHeartbeats 2000000 in
theorem ptx_UPPER (A : Option Addr) (cap : Nat) (t : ByteArray) (ht : t.size ≤ 256) (w : World) (HN0 : ∀ w1, Below w.heap.size w w1 → Calls Tryz.prog 84 #[.slice A 1 cap] w1 fun e w' => ∃ A2 c2, e = .returned (.tuple #[.slice A2 1 c2, .agg #[.int .i64 0, .int .i64 0, .string ⟨#[]⟩]]) ∧ StrsB w' A2 [t] ∧ Below w1.heap.size w1 w') :
    Calls Tryz.prog 51 #[.int .i64 75, .slice A 1 cap] w (IsV (sV (Txt.wrL 0 0 0 t.data.toList)) w) := by
  obtain ⟨h2, hb2⟩ := first w [.int .i64 0, .int .i64 0, .string ⟨#[]⟩] 23
  have HN := Lib.hid HN0
  have HI : Hid (∀ w1, Calls Tryz.prog 42 #[.agg #[.int .i64 0, .int .i64 0, .string ⟨#[]⟩]] w1 fun e w' => e = .returned (.bool false) ∧ Below w1.heap.size w1 w') := Lib.hid (fun w1 => isfault_v 0 0 ⟨#[]⟩ false rfl w1)
  have hlen : (Txt.wrL 0 0 0 t.data.toList).length ≤ 256 := Nat.le_trans (Nat.le_of_eq (Txt.wr_len _ _ _ _)) (by rw [Dig.len]; exact ht)
  have HA : Hid (∀ w1, Calls Tryz.prog 104 #[.string t] w1 fun e w' => e = .returned (.string ⟨(Txt.wrL 0 0 0 t.data.toList).toArray⟩) ∧ Below w1.heap.size w1 w') := Lib.hid (fun w1 => Txt.upper_c t (by omega) w1)
  generalize Txt.wrL 0 0 0 t.data.toList = m at *
  have HZ2 := Lib.hid (fun w1 => str_v m hlen w1)
  show Calls Tryz.prog 51 _ w (ValIs 2 0 ⟨m.toArray⟩ w)
  clear HN0
  go_enter Tryz.func51, Tryz.ntmps51
  go_wp2_with fail
  generalize w.alloc (.cells #[.int .i64 0, .int .i64 0, .string ⟨#[]⟩] 23) = W at *
  refine (HN.out _ hb2).mono ?_
  rintro e w1 ⟨A2, c2, rfl, hr, hb1⟩
  replace h2 := (h2.on hb1).on_alloc (.cells #[.int .i64 0, .int .i64 0, .string ⟨#[]⟩] 23)
  replace hb2 := on_alloc (on hb2 hb1) (.cells #[.int .i64 0, .int .i64 0, .string ⟨#[]⟩] 23)
  replace hr := hr.on (below1 w1 (.cells #[.int .i64 0, .int .i64 0, .string ⟨#[]⟩] 23))
  clear hb1
  obtain ⟨x0, x1, x2, -⟩ := (CellsAt.new w1 [.int .i64 0, .int .i64 0, .string ⟨#[]⟩] 23).three
  go_wp2_with fail
  generalize w1.alloc (.cells #[.int .i64 0, .int .i64 0, .string ⟨#[]⟩] 23) = X1 at *
  refine (HI.out _).mono ?_
  rintro e w2 ⟨rfl, hb1⟩
  replace h2 := h2.on hb1
  replace hb2 := on hb2 hb1
  replace hr := hr.on hb1
  clear x0 x1 x2 hb1 HN HI
  obtain ⟨g, o, rfl, hg, hc⟩ := hr
  have c0 := hc 0 _ rfl
  rw [Nat.add_zero] at c0
  clear hc
  go_wp2_with fail
  refine (HA.out _).mono ?_
  rintro e w3 ⟨rfl, hb1⟩
  replace h2 := h2.on hb1
  replace hb2 := on hb2 hb1
  clear hb1
  go_wp2_with fail
  refine (HZ2.out _).mono ?_
  rintro e w3 ⟨rfl, hb1⟩
  replace h2 := h2.on hb1
  replace hb2 := on hb2 hb1
  clear hb1
  obtain ⟨⟨g0, p0, p1, p2, q0, q1, q2⟩, ⟨z0, z1, z2⟩, hb3⟩ := val_ends h2 hb2 (Nat.le_refl _) (.int .i64 2) (.int .i64 0) (.string ⟨m.toArray⟩)
  clear h2 hb2
  go_wp2
  exact bodyPost_ret (v := .agg #[.int .i64 2, .int .i64 0, .string ⟨m.toArray⟩]) (by simp [results, Tryz.results51, go_sem, z0, z1, z2]) rfl ⟨rfl, hb3⟩
set_option maxRecDepth 100000 in
set_option maxHeartbeats 2000000 in
theorem ptx_PROPER (A : Option Addr) (cap : Nat) (t : ByteArray) (ht : t.size ≤ 256) (w : World) (HN0 : ∀ w1, Below w.heap.size w w1 → Calls Tryz.prog 84 #[.slice A 1 cap] w1 fun e w' => ∃ A2 c2, e = .returned (.tuple #[.slice A2 1 c2, .agg #[.int .i64 0, .int .i64 0, .string ⟨#[]⟩]]) ∧ StrsB w' A2 [t] ∧ Below w1.heap.size w1 w') :
    Calls Tryz.prog 51 #[.int .i64 52, .slice A 1 cap] w (IsV (sV (Txt.wrL 0 1 0 t.data.toList)) w) := by
  obtain ⟨h2, hb2⟩ := first w [.int .i64 0, .int .i64 0, .string ⟨#[]⟩] 23
  have HN := Lib.hid HN0
  have HI : Hid (∀ w1, Calls Tryz.prog 42 #[.agg #[.int .i64 0, .int .i64 0, .string ⟨#[]⟩]] w1 fun e w' => e = .returned (.bool false) ∧ Below w1.heap.size w1 w') := Lib.hid (fun w1 => isfault_v 0 0 ⟨#[]⟩ false rfl w1)
  have hlen : (Txt.wrL 0 1 0 t.data.toList).length ≤ 256 := Nat.le_trans (Nat.le_of_eq (Txt.wr_len _ _ _ _)) (by rw [Dig.len]; exact ht)
  have HA : Hid (∀ w1, Calls Tryz.prog 105 #[.string t] w1 fun e w' => e = .returned (.string ⟨(Txt.wrL 0 1 0 t.data.toList).toArray⟩) ∧ Below w1.heap.size w1 w') := Lib.hid (fun w1 => Txt.proper_c t (by omega) w1)
  generalize Txt.wrL 0 1 0 t.data.toList = m at *
  have HZ2 := Lib.hid (fun w1 => str_v m hlen w1)
  show Calls Tryz.prog 51 _ w (ValIs 2 0 ⟨m.toArray⟩ w)
  clear HN0
  go_enter Tryz.func51, Tryz.ntmps51
  go_wp2_with fail
  generalize w.alloc (.cells #[.int .i64 0, .int .i64 0, .string ⟨#[]⟩] 23) = W at *
  refine (HN.out _ hb2).mono ?_
  rintro e w1 ⟨A2, c2, rfl, hr, hb1⟩
  replace h2 := (h2.on hb1).on_alloc (.cells #[.int .i64 0, .int .i64 0, .string ⟨#[]⟩] 23)
  replace hb2 := on_alloc (on hb2 hb1) (.cells #[.int .i64 0, .int .i64 0, .string ⟨#[]⟩] 23)
  replace hr := hr.on (below1 w1 (.cells #[.int .i64 0, .int .i64 0, .string ⟨#[]⟩] 23))
  clear hb1
  obtain ⟨x0, x1, x2, -⟩ := (CellsAt.new w1 [.int .i64 0, .int .i64 0, .string ⟨#[]⟩] 23).three
  go_wp2_with fail
  generalize w1.alloc (.cells #[.int .i64 0, .int .i64 0, .string ⟨#[]⟩] 23) = X1 at *
  refine (HI.out _).mono ?_
  rintro e w2 ⟨rfl, hb1⟩
  replace h2 := h2.on hb1
  replace hb2 := on hb2 hb1
  replace hr := hr.on hb1
  clear x0 x1 x2 hb1 HN HI
  obtain ⟨g, o, rfl, hg, hc⟩ := hr
  have c0 := hc 0 _ rfl
  rw [Nat.add_zero] at c0
  clear hc
  go_wp2_with fail
  refine (HA.out _).mono ?_
  rintro e w3 ⟨rfl, hb1⟩
  replace h2 := h2.on hb1
  replace hb2 := on hb2 hb1
  clear hb1
  go_wp2_with fail
  refine (HZ2.out _).mono ?_
  rintro e w3 ⟨rfl, hb1⟩
  replace h2 := h2.on hb1
  replace hb2 := on hb2 hb1
  clear hb1
  obtain ⟨⟨g0, p0, p1, p2, q0, q1, q2⟩, ⟨z0, z1, z2⟩, hb3⟩ := val_ends h2 hb2 (Nat.le_refl _) (.int .i64 2) (.int .i64 0) (.string ⟨m.toArray⟩)
  clear h2 hb2
  go_wp2
  exact bodyPost_ret (v := .agg #[.int .i64 2, .int .i64 0, .string ⟨m.toArray⟩]) (by simp [results, Tryz.results51, go_sem, z0, z1, z2]) rfl ⟨rfl, hb3⟩
set_option maxRecDepth 100000 in
set_option maxHeartbeats 2000000 in
theorem ptx_TRIM (A : Option Addr) (cap : Nat) (t : ByteArray) (ht : t.size ≤ 256) (w : World) (HN0 : ∀ w1, Below w.heap.size w w1 → Calls Tryz.prog 84 #[.slice A 1 cap] w1 fun e w' => ∃ A2 c2, e = .returned (.tuple #[.slice A2 1 c2, .agg #[.int .i64 0, .int .i64 0, .string ⟨#[]⟩]]) ∧ StrsB w' A2 [t] ∧ Below w1.heap.size w1 w') :
    Calls Tryz.prog 51 #[.int .i64 73, .slice A 1 cap] w (IsV (sV (Txt.trimL t.data.toList)) w) := by
  obtain ⟨h2, hb2⟩ := first w [.int .i64 0, .int .i64 0, .string ⟨#[]⟩] 23
  have HN := Lib.hid HN0
  have HI : Hid (∀ w1, Calls Tryz.prog 42 #[.agg #[.int .i64 0, .int .i64 0, .string ⟨#[]⟩]] w1 fun e w' => e = .returned (.bool false) ∧ Below w1.heap.size w1 w') := Lib.hid (fun w1 => isfault_v 0 0 ⟨#[]⟩ false rfl w1)
  have hlen : (Txt.trimL t.data.toList).length ≤ 256 := Nat.le_trans (Txt.trimL_len _) (by rw [Dig.len]; exact ht)
  have HA : Hid (∀ w1, Calls Tryz.prog 106 #[.string t] w1 fun e w' => e = .returned (.string ⟨(Txt.trimL t.data.toList).toArray⟩) ∧ Below w1.heap.size w1 w') := Lib.hid (fun w1 => Txt.trim_c Txt.cutsBlank t _ rfl (by omega) w1)
  generalize Txt.trimL t.data.toList = m at *
  have HZ2 := Lib.hid (fun w1 => str_v m hlen w1)
  show Calls Tryz.prog 51 _ w (ValIs 2 0 ⟨m.toArray⟩ w)
  clear HN0
  go_enter Tryz.func51, Tryz.ntmps51
  go_wp2_with fail
  generalize w.alloc (.cells #[.int .i64 0, .int .i64 0, .string ⟨#[]⟩] 23) = W at *
  refine (HN.out _ hb2).mono ?_
  rintro e w1 ⟨A2, c2, rfl, hr, hb1⟩
  replace h2 := (h2.on hb1).on_alloc (.cells #[.int .i64 0, .int .i64 0, .string ⟨#[]⟩] 23)
  replace hb2 := on_alloc (on hb2 hb1) (.cells #[.int .i64 0, .int .i64 0, .string ⟨#[]⟩] 23)
  replace hr := hr.on (below1 w1 (.cells #[.int .i64 0, .int .i64 0, .string ⟨#[]⟩] 23))
  clear hb1
  obtain ⟨x0, x1, x2, -⟩ := (CellsAt.new w1 [.int .i64 0, .int .i64 0, .string ⟨#[]⟩] 23).three
  go_wp2_with fail
  generalize w1.alloc (.cells #[.int .i64 0, .int .i64 0, .string ⟨#[]⟩] 23) = X1 at *
  refine (HI.out _).mono ?_
  rintro e w2 ⟨rfl, hb1⟩
  replace h2 := h2.on hb1
  replace hb2 := on hb2 hb1
  replace hr := hr.on hb1
  clear x0 x1 x2 hb1 HN HI
  obtain ⟨g, o, rfl, hg, hc⟩ := hr
  have c0 := hc 0 _ rfl
  rw [Nat.add_zero] at c0
  clear hc
  go_wp2_with fail
  refine (HA.out _).mono ?_
  rintro e w3 ⟨rfl, hb1⟩
  replace h2 := h2.on hb1
  replace hb2 := on hb2 hb1
  clear hb1
  go_wp2_with fail
  refine (HZ2.out _).mono ?_
  rintro e w3 ⟨rfl, hb1⟩
  replace h2 := h2.on hb1
  replace hb2 := on hb2 hb1
  clear hb1
  obtain ⟨⟨g0, p0, p1, p2, q0, q1, q2⟩, ⟨z0, z1, z2⟩, hb3⟩ := val_ends h2 hb2 (Nat.le_refl _) (.int .i64 2) (.int .i64 0) (.string ⟨m.toArray⟩)
  clear h2 hb2
  go_wp2
  exact bodyPost_ret (v := .agg #[.int .i64 2, .int .i64 0, .string ⟨m.toArray⟩]) (by simp [results, Tryz.results51, go_sem, z0, z1, z2]) rfl ⟨rfl, hb3⟩
set_option maxRecDepth 100000 in
set_option maxHeartbeats 2000000 in
theorem ptx_REVERSE (A : Option Addr) (cap : Nat) (t : ByteArray) (ht : t.size ≤ 256) (w : World) (HN0 : ∀ w1, Below w.heap.size w w1 → Calls Tryz.prog 84 #[.slice A 1 cap] w1 fun e w' => ∃ A2 c2, e = .returned (.tuple #[.slice A2 1 c2, .agg #[.int .i64 0, .int .i64 0, .string ⟨#[]⟩]]) ∧ StrsB w' A2 [t] ∧ Below w1.heap.size w1 w') :
    Calls Tryz.prog 51 #[.int .i64 56, .slice A 1 cap] w (IsV (sV (Run.revL t.data.toList)) w) := by
  obtain ⟨h2, hb2⟩ := first w [.int .i64 0, .int .i64 0, .string ⟨#[]⟩] 23
  have HN := Lib.hid HN0
  have HI : Hid (∀ w1, Calls Tryz.prog 42 #[.agg #[.int .i64 0, .int .i64 0, .string ⟨#[]⟩]] w1 fun e w' => e = .returned (.bool false) ∧ Below w1.heap.size w1 w') := Lib.hid (fun w1 => isfault_v 0 0 ⟨#[]⟩ false rfl w1)
  have hlen : (Run.revL t.data.toList).length ≤ 256 := Nat.le_trans (Nat.le_of_eq (Run.rev_len _)) (by rw [Dig.len]; exact ht)
  have HA : Hid (∀ w1, Calls Tryz.prog 107 #[.string t] w1 fun e w' => e = .returned (.string ⟨(Run.revL t.data.toList).toArray⟩) ∧ Below w1.heap.size w1 w') := Lib.hid (fun w1 => Run.reverse_c t _ rfl (by omega) w1)
  generalize Run.revL t.data.toList = m at *
  have HZ2 := Lib.hid (fun w1 => str_v m hlen w1)
  show Calls Tryz.prog 51 _ w (ValIs 2 0 ⟨m.toArray⟩ w)
  clear HN0
  go_enter Tryz.func51, Tryz.ntmps51
  go_wp2_with fail
  generalize w.alloc (.cells #[.int .i64 0, .int .i64 0, .string ⟨#[]⟩] 23) = W at *
  refine (HN.out _ hb2).mono ?_
  rintro e w1 ⟨A2, c2, rfl, hr, hb1⟩
  replace h2 := (h2.on hb1).on_alloc (.cells #[.int .i64 0, .int .i64 0, .string ⟨#[]⟩] 23)
  replace hb2 := on_alloc (on hb2 hb1) (.cells #[.int .i64 0, .int .i64 0, .string ⟨#[]⟩] 23)
  replace hr := hr.on (below1 w1 (.cells #[.int .i64 0, .int .i64 0, .string ⟨#[]⟩] 23))
  clear hb1
  obtain ⟨x0, x1, x2, -⟩ := (CellsAt.new w1 [.int .i64 0, .int .i64 0, .string ⟨#[]⟩] 23).three
  go_wp2_with fail
  generalize w1.alloc (.cells #[.int .i64 0, .int .i64 0, .string ⟨#[]⟩] 23) = X1 at *
  refine (HI.out _).mono ?_
  rintro e w2 ⟨rfl, hb1⟩
  replace h2 := h2.on hb1
  replace hb2 := on hb2 hb1
  replace hr := hr.on hb1
  clear x0 x1 x2 hb1 HN HI
  obtain ⟨g, o, rfl, hg, hc⟩ := hr
  have c0 := hc 0 _ rfl
  rw [Nat.add_zero] at c0
  clear hc
  go_wp2_with fail
  refine (HA.out _).mono ?_
  rintro e w3 ⟨rfl, hb1⟩
  replace h2 := h2.on hb1
  replace hb2 := on hb2 hb1
  clear hb1
  go_wp2_with fail
  refine (HZ2.out _).mono ?_
  rintro e w3 ⟨rfl, hb1⟩
  replace h2 := h2.on hb1
  replace hb2 := on hb2 hb1
  clear hb1
  obtain ⟨⟨g0, p0, p1, p2, q0, q1, q2⟩, ⟨z0, z1, z2⟩, hb3⟩ := val_ends h2 hb2 (Nat.le_refl _) (.int .i64 2) (.int .i64 0) (.string ⟨m.toArray⟩)
  clear h2 hb2
  go_wp2
  exact bodyPost_ret (v := .agg #[.int .i64 2, .int .i64 0, .string ⟨m.toArray⟩]) (by simp [results, Tryz.results51, go_sem, z0, z1, z2]) rfl ⟨rfl, hb3⟩
set_option maxRecDepth 100000 in
set_option maxHeartbeats 2000000 in
theorem ptx_CODE0 (A : Option Addr) (cap : Nat) (t : ByteArray) (h0 : t.size = 0) (w : World) (HN0 : ∀ w1, Below w.heap.size w w1 → Calls Tryz.prog 84 #[.slice A 1 cap] w1 fun e w' => ∃ A2 c2, e = .returned (.tuple #[.slice A2 1 c2, .agg #[.int .i64 0, .int .i64 0, .string ⟨#[]⟩]]) ∧ StrsB w' A2 [t] ∧ Below w1.heap.size w1 w') :
    Calls Tryz.prog 51 #[.int .i64 8, .slice A 1 cap] w (IsV (fV 2) w) := by
  obtain ⟨h2, hb2⟩ := first w [.int .i64 0, .int .i64 0, .string ⟨#[]⟩] 23
  have HN := Lib.hid HN0
  have HI : Hid (∀ w1, Calls Tryz.prog 42 #[.agg #[.int .i64 0, .int .i64 0, .string ⟨#[]⟩]] w1 fun e w' => e = .returned (.bool false) ∧ Below w1.heap.size w1 w') := Lib.hid (fun w1 => isfault_v 0 0 ⟨#[]⟩ false rfl w1)
  have HA := Lib.hid (fun w1 => Run.first_none t h0 w1)
  have HZ2 := Lib.hid (fun w1 => placed_no 0 2 (by decide) (by decide) w1)
  show Calls Tryz.prog 51 _ w (ValIs 4 2 ⟨#[]⟩ w)
  clear HN0
  go_enter Tryz.func51, Tryz.ntmps51
  go_wp2_with fail
  generalize w.alloc (.cells #[.int .i64 0, .int .i64 0, .string ⟨#[]⟩] 23) = W at *
  refine (HN.out _ hb2).mono ?_
  rintro e w1 ⟨A2, c2, rfl, hr, hb1⟩
  replace h2 := (h2.on hb1).on_alloc (.cells #[.int .i64 0, .int .i64 0, .string ⟨#[]⟩] 23)
  replace hb2 := on_alloc (on hb2 hb1) (.cells #[.int .i64 0, .int .i64 0, .string ⟨#[]⟩] 23)
  replace hr := hr.on (below1 w1 (.cells #[.int .i64 0, .int .i64 0, .string ⟨#[]⟩] 23))
  clear hb1
  obtain ⟨x0, x1, x2, -⟩ := (CellsAt.new w1 [.int .i64 0, .int .i64 0, .string ⟨#[]⟩] 23).three
  go_wp2_with fail
  generalize w1.alloc (.cells #[.int .i64 0, .int .i64 0, .string ⟨#[]⟩] 23) = X1 at *
  refine (HI.out _).mono ?_
  rintro e w2 ⟨rfl, hb1⟩
  replace h2 := h2.on hb1
  replace hb2 := on hb2 hb1
  replace hr := hr.on hb1
  clear x0 x1 x2 hb1 HN HI
  obtain ⟨g, o, rfl, hg, hc⟩ := hr
  have c0 := hc 0 _ rfl
  rw [Nat.add_zero] at c0
  clear hc
  go_wp2_with fail
  refine (HA.out _).mono ?_
  rintro e w3 ⟨rfl, hb1⟩
  replace h2 := h2.on hb1
  replace hb2 := on hb2 hb1
  clear hb1
  go_wp2_with fail
  refine (HZ2.out _).mono ?_
  rintro e w3 ⟨rfl, hb1⟩
  replace h2 := h2.on hb1
  replace hb2 := on hb2 hb1
  clear hb1
  obtain ⟨⟨g0, p0, p1, p2, q0, q1, q2⟩, ⟨z0, z1, z2⟩, hb3⟩ := val_ends h2 hb2 (Nat.le_refl _) (.int .i64 4) (.int .i64 2) (.string ⟨#[]⟩)
  clear h2 hb2
  go_wp2
  exact bodyPost_ret (v := .agg #[.int .i64 4, .int .i64 2, .string ⟨#[]⟩]) (by simp [results, Tryz.results51, go_sem, z0, z1, z2]) rfl ⟨rfl, hb3⟩
set_option maxRecDepth 100000 in
set_option maxHeartbeats 2000000 in
theorem ptx_CODE1 (A : Option Addr) (cap : Nat) (t : ByteArray) (h0 : t.data.toList ≠ []) (w : World) (HN0 : ∀ w1, Below w.heap.size w w1 → Calls Tryz.prog 84 #[.slice A 1 cap] w1 fun e w' => ∃ A2 c2, e = .returned (.tuple #[.slice A2 1 c2, .agg #[.int .i64 0, .int .i64 0, .string ⟨#[]⟩]]) ∧ StrsB w' A2 [t] ∧ Below w1.heap.size w1 w') :
    Calls Tryz.prog 51 #[.int .i64 8, .slice A 1 cap] w (IsV (cV (Run.valL t.data.toList : Nat)) w) := by
  obtain ⟨h2, hb2⟩ := first w [.int .i64 0, .int .i64 0, .string ⟨#[]⟩] 23
  have HN := Lib.hid HN0
  have HI : Hid (∀ w1, Calls Tryz.prog 42 #[.agg #[.int .i64 0, .int .i64 0, .string ⟨#[]⟩]] w1 fun e w' => e = .returned (.bool false) ∧ Below w1.heap.size w1 w') := Lib.hid (fun w1 => isfault_v 0 0 ⟨#[]⟩ false rfl w1)
  have hroom := val_room t.data.toList
  obtain ⟨n, hn⟩ : ∃ n, Run.valL t.data.toList = n := ⟨_, rfl⟩
  have HA := Lib.hid (fun w1 => Run.first_c t _ rfl h0 n hn w1)
  rw [hn] at hroom ⊢
  clear hn
  have HZ : Hid (∀ w1, Calls Tryz.prog 109 #[.int .i64 (n : Nat), .bool true, .int .i64 2] w1 (IsV (cV (n : Nat)) w1)) := Lib.hid (fun w1 => placed_yes n 2 (by omega) (by omega) w1)
  obtain ⟨⟨a, b, c⟩, hz⟩ : ∃ v, (cV (n : Nat)) = v := ⟨_, rfl⟩
  rw [hz] at HZ ⊢
  clear hz
  have HZ2 : Hid (∀ w1, Calls Tryz.prog 109 #[.int .i64 (n : Nat), .bool true, .int .i64 2] w1 (ValIs a b c w1)) := HZ
  clear HZ
  show Calls Tryz.prog 51 _ w (ValIs a b c w)
  clear HN0
  go_enter Tryz.func51, Tryz.ntmps51
  go_wp2_with fail
  generalize w.alloc (.cells #[.int .i64 0, .int .i64 0, .string ⟨#[]⟩] 23) = W at *
  refine (HN.out _ hb2).mono ?_
  rintro e w1 ⟨A2, c2, rfl, hr, hb1⟩
  replace h2 := (h2.on hb1).on_alloc (.cells #[.int .i64 0, .int .i64 0, .string ⟨#[]⟩] 23)
  replace hb2 := on_alloc (on hb2 hb1) (.cells #[.int .i64 0, .int .i64 0, .string ⟨#[]⟩] 23)
  replace hr := hr.on (below1 w1 (.cells #[.int .i64 0, .int .i64 0, .string ⟨#[]⟩] 23))
  clear hb1
  obtain ⟨x0, x1, x2, -⟩ := (CellsAt.new w1 [.int .i64 0, .int .i64 0, .string ⟨#[]⟩] 23).three
  go_wp2_with fail
  generalize w1.alloc (.cells #[.int .i64 0, .int .i64 0, .string ⟨#[]⟩] 23) = X1 at *
  refine (HI.out _).mono ?_
  rintro e w2 ⟨rfl, hb1⟩
  replace h2 := h2.on hb1
  replace hb2 := on hb2 hb1
  replace hr := hr.on hb1
  clear x0 x1 x2 hb1 HN HI
  obtain ⟨g, o, rfl, hg, hc⟩ := hr
  have c0 := hc 0 _ rfl
  rw [Nat.add_zero] at c0
  clear hc
  go_wp2_with fail
  refine (HA.out _).mono ?_
  rintro e w3 ⟨rfl, hb1⟩
  replace h2 := h2.on hb1
  replace hb2 := on hb2 hb1
  clear hb1
  go_wp2_with fail
  refine (HZ2.out _).mono ?_
  rintro e w3 ⟨rfl, hb1⟩
  replace h2 := h2.on hb1
  replace hb2 := on hb2 hb1
  clear hb1
  obtain ⟨⟨g0, p0, p1, p2, q0, q1, q2⟩, ⟨z0, z1, z2⟩, hb3⟩ := val_ends h2 hb2 (Nat.le_refl _) (.int .i64 a) (.int .i64 b) (.string c)
  clear h2 hb2
  go_wp2
  exact bodyPost_ret (v := .agg #[.int .i64 a, .int .i64 b, .string c]) (by simp [results, Tryz.results51, go_sem, z0, z1, z2]) rfl ⟨rfl, hb3⟩
set_option maxRecDepth 100000 in
set_option maxHeartbeats 2000000 in
theorem ptx_FIND (A : Option Addr) (cap : Nat) (t s : ByteArray) (ht : t.size ≤ 256) (hs : s.size ≤ 256) (w : World) (HN0 : ∀ w1, Below w.heap.size w w1 → Calls Tryz.prog 84 #[.slice A 2 cap] w1 fun e w' => ∃ A2 c2, e = .returned (.tuple #[.slice A2 2 c2, .agg #[.int .i64 0, .int .i64 0, .string ⟨#[]⟩]]) ∧ StrsB w' A2 [t, s] ∧ Below w1.heap.size w1 w') :
    Calls Tryz.prog 51 #[.int .i64 21, .slice A 2 cap] w (IsV (findV t.data.toList s.data.toList) w) := by
  obtain ⟨h2, hb2⟩ := first w [.int .i64 0, .int .i64 0, .string ⟨#[]⟩] 23
  have HN := Lib.hid HN0
  have HI : Hid (∀ w1, Calls Tryz.prog 42 #[.agg #[.int .i64 0, .int .i64 0, .string ⟨#[]⟩]] w1 fun e w' => e = .returned (.bool false) ∧ Below w1.heap.size w1 w') := Lib.hid (fun w1 => isfault_v 0 0 ⟨#[]⟩ false rfl w1)
  have hlen : (Run.ps s.data.toList).length ≤ 256 := Nat.le_trans (Run.ps_len _) (by rw [Dig.len]; exact hs)
  obtain ⟨r0, hr0⟩ : ∃ r0, findO t.data.toList s.data.toList = r0 := ⟨_, rfl⟩
  have HA : Hid (∀ w1, Calls Tryz.prog 110 #[.string t, .string s] w1 fun e w' => e = .returned (Run.foundV r0) ∧ Below w1.heap.size w1 w') := Lib.hid fun w1 => (Run.find_c t s _ _ rfl rfl (by omega) (by omega) w1).mono fun e w' ⟨r, he, hr, hb⟩ => by
    obtain rfl : r0 = r := hr0.symm.trans (find_one hr)
    exact ⟨he, hb⟩
  obtain ⟨n, q, hn, hf, HZ⟩ : ∃ (n : Int) (q : Bool), Run.foundV r0 = .tuple #[.int .i64 n, .bool q] ∧ (0 ≤ n ∧ n ≤ 256) ∧ ∀ w1, Calls Tryz.prog 109 #[.int .i64 (n + 1), .bool q, .int .i64 2] w1 (IsV (findV t.data.toList s.data.toList) w1) := by
    cases r0 with
    | none => exact ⟨0, false, rfl, by omega, fun w1 => by rw [findV_none hr0]; exact placed_no _ 2 (by decide) (by decide) w1⟩
    | some k =>
      have := find_lt hr0
      exact ⟨k, true, rfl, by omega, fun w1 => by rw [findV_some hr0]; exact placed_yes _ 2 (by omega) (by omega) w1⟩
  rw [hn] at HA
  replace HZ := Lib.hid HZ
  obtain ⟨⟨a, b, c⟩, hz⟩ : ∃ v, findV t.data.toList s.data.toList = v := ⟨_, rfl⟩
  rw [hz] at HZ ⊢
  have HZ2 : Hid (∀ w1, Calls Tryz.prog 109 #[.int .i64 (n + 1), .bool q, .int .i64 2] w1 (ValIs a b c w1)) := HZ
  clear HZ hz hr0 hn hlen
  show Calls Tryz.prog 51 _ w (ValIs a b c w)
  clear HN0
  go_enter Tryz.func51, Tryz.ntmps51
  go_wp2_with fail
  generalize w.alloc (.cells #[.int .i64 0, .int .i64 0, .string ⟨#[]⟩] 23) = W at *
  refine (HN.out _ hb2).mono ?_
  rintro e w1 ⟨A2, c2, rfl, hr, hb1⟩
  replace h2 := (h2.on hb1).on_alloc (.cells #[.int .i64 0, .int .i64 0, .string ⟨#[]⟩] 23)
  replace hb2 := on_alloc (on hb2 hb1) (.cells #[.int .i64 0, .int .i64 0, .string ⟨#[]⟩] 23)
  replace hr := hr.on (below1 w1 (.cells #[.int .i64 0, .int .i64 0, .string ⟨#[]⟩] 23))
  clear hb1
  obtain ⟨x0, x1, x2, -⟩ := (CellsAt.new w1 [.int .i64 0, .int .i64 0, .string ⟨#[]⟩] 23).three
  go_wp2_with fail
  generalize w1.alloc (.cells #[.int .i64 0, .int .i64 0, .string ⟨#[]⟩] 23) = X1 at *
  refine (HI.out _).mono ?_
  rintro e w2 ⟨rfl, hb1⟩
  replace h2 := h2.on hb1
  replace hb2 := on hb2 hb1
  replace hr := hr.on hb1
  clear x0 x1 x2 hb1 HN HI
  obtain ⟨g, o, rfl, hg, hc⟩ := hr
  have c0 := hc 0 _ rfl
  have c1 := hc 1 _ rfl
  rw [Nat.add_zero] at c0
  clear hc
  go_wp2_with fail
  have C0 := fun d os => cell_regrown c0 d os
  have C1 := fun d os => cell_regrown c1 d os
  clear c0 c1
  refine wp_region_mem 12 (fun d => match d with
    | 94 => some (Is (.tuple #[.int .i64 n, .bool q]))
    | _ => none) (by kernel_rfl) (by kernel_rfl) ?_
  simp only [List.take_succ_cons, List.take_zero, List.drop_succ_cons, List.drop_zero]
  repeat (first | ((with_reducible refine wpM_calm ?_ ?_ ?_ ?_); exact rfl; exact rfl; exact rfl; intro K hK; go_big_quiet_op; go_big_quiet_on) | ((with_reducible refine wpM_skip ?_ ?_); exact rfl; simp only [Act.put, List.setIfInBounds_toArray, List.set_cons_succ, List.set_cons_zero]))
  refine wpM_exact rfl rfl rfl Tryz.func110 (by kernel_rfl) (by kernel_rfl) (fun w1 hw1 _ => HA.out w1) rfl (by simp only [Act.put, List.setIfInBounds_toArray, List.set_cons_succ, List.set_cons_zero]; rfl) ?_
  repeat (first | ((with_reducible refine wpM_calm ?_ ?_ ?_ ?_); exact rfl; exact rfl; exact rfl; intro K hK; go_big_quiet_op; go_big_quiet_on) | ((with_reducible refine wpM_skip ?_ ?_); exact rfl; simp only [Act.put, List.setIfInBounds_toArray, List.set_cons_succ, List.set_cons_zero]))
  refine wpM_nil ?_
  intro w3 hw3 _
  replace h2 := h2.on hw3
  replace hb2 := on hb2 hw3
  clear hw3 HA C0 C1
  have n1 := hf.1
  have n2 := hf.2
  go_wp2_with fail
  refine (HZ2.out _).mono ?_
  rintro e w3 ⟨rfl, hb1⟩
  replace h2 := h2.on hb1
  replace hb2 := on hb2 hb1
  clear hb1
  obtain ⟨⟨g0, p0, p1, p2, q0, q1, q2⟩, ⟨z0, z1, z2⟩, hb3⟩ := val_ends h2 hb2 (Nat.le_refl _) (.int .i64 a) (.int .i64 b) (.string c)
  clear h2 hb2
  go_wp2
  exact bodyPost_ret (v := .agg #[.int .i64 a, .int .i64 b, .string c]) (by simp [results, Tryz.results51, go_sem, z0, z1, z2]) rfl ⟨rfl, hb3⟩
end Go.Proofs.YtebjedbppiphgaaGreatDoor.Cal
