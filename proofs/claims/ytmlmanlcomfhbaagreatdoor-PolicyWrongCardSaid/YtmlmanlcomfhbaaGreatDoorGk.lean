/- What the program's Find, Acts, Lowers and Leaks answer (over the landed text of package right, e6de85d).
   What the program's Name answers (over the landed text of package right, e6de85d).
   What the program's Grants and Users answer (over the landed text of package right, e6de85d).
   What the program's Users answers (over the landed text of package right, e6de85d); all that the laws ask. -/
import Derived.Test.YtmlmanlcomfhbaaGreatDoorGj
import Derived.Test.YtmlmanlcomfhbaaGreatDoorGi
namespace Go.Proofs.YtmlmanlcomfhbaaGreatDoor.Right
open Go.RowKit Kit Reg Go.Proofs.YtmlmanlcomfhbaaGreatDoor.Lab
open Go.Proofs.YtmlmanlcomfhbaaGreatDoor.Cats (U U_or U_zero)

theorem clear_hit {us : List Us} {k : Nat} {u : Us} {t : ByteArray} (h : us[k]? = some u) (hh : (u.name.toList == t.toList) = true) : clearF (us.drop k) t = (u.l, u.s, true) := by rw [drop_at h, clearF, if_pos hh]
theorem clear_miss {us : List Us} {k : Nat} {u : Us} {t : ByteArray} (h : us[k]? = some u) (hh : (u.name.toList == t.toList) = false) : clearF (us.drop k) t = clearF (us.drop (k + 1)) t := by rw [drop_at h, clearF, if_neg (by rw [hh]; simp)]
theorem clear_end (us : List Us) (t : ByteArray) : clearF (us.drop us.length) t = (0, 0, false) := by rw [List.drop_length]; rfl
set_option maxRecDepth 100000 in
set_option maxHeartbeats 2000000 in
theorem find_in (A : Option Addr) (n cap : Nat) (us : List Us) (t : ByteArray) (l : Int) (s : Nat) (b0 : Bool) (hc : clearF us t = (l, s, b0)) (w : World) (hz : UsersR w A n us) :
    Calls Tryz.prog 62 #[.slice A n cap, .string t] w fun e w' => e = .returned (.tuple #[.agg #[.int .i64 l, .int .u64 s], .bool b0]) ∧ Below w.heap.size w w' := by
  obtain ⟨hlen, hmax, _, _⟩ := id hz
  have HZ := Lib.hid hz
  have HL := Lib.hid hlen
  have HC := Lib.hid hc
  clear hz hlen hc
  have hb0 := below1 w (.cells #[.int .i64 0, .int .u64 0] 70)
  have hr := CellsAt.new w [.int .i64 0, .int .u64 0] 70
  go_enter Tryz.func62, Tryz.ntmps62
  go_wp2
  go_loopw [10] (fun i wr => ∃ k : Nat, k ≤ n ∧ i = .int .i64 k ∧ Hid (clearF (us.drop k) t = (l, s, b0)) ∧ Below w.heap.size w wr ∧ CellsAt wr w.heap.size [.int .i64 0, .int .u64 0]) (fun i _ => n - (intOf i).toNat)
  case atStart => exact ⟨0, Nat.zero_le _, rfl, HC, hb0, hr⟩
  case round =>
    clear hb0 hr
    obtain ⟨k, hk, rfl, HK, hb0, hr⟩ := hrel
    by_cases hlt : k < n
    · obtain ⟨z, hzk⟩ : ∃ z, us[k]? = some z := ⟨_, List.getElem?_eq_getElem (by rw [HL.out]; exact hlt)⟩
      obtain ⟨_, _, _, h4⟩ := HZ.out.on hb0
      obtain ⟨b, o, rfl, hblt, hcell⟩ := h4 (by omega)
      obtain ⟨c0, c1, c2⟩ := user_cells (hcell k z hzk)
      have HZk := Lib.hid hzk
      clear h4 hcell hzk
      have lr := hr.1
      cases hh : (z.name.toList == t.toList) with
      | false =>
        have HN : Hid (clearF (us.drop (k + 1)) t = (l, s, b0)) := by rw [← clear_miss HZk.out hh]; exact HK
        replace hb0 := on_alloc hb0 (.cells #[.string z.name, .int .i64 z.l, .int .u64 z.s] 76)
        replace hr := hr.on_alloc (.cells #[.string z.name, .int .i64 z.l, .int .u64 z.s] 76)
        go_wp2
        go_roundw
        case rel => exact ⟨k + 1, by omega, by go_num, HN, hb0, hr⟩
        case measure => simp [intOf]; omega
      | true =>
        have HN : (z.l, z.s, true) = (l, s, b0) := by rw [← clear_hit HZk.out hh]; exact HK.out
        simp only [Prod.mk.injEq] at HN
        obtain ⟨rfl, rfl, rfl⟩ := HN
        have hb1 := on_alloc (set2 hb0 (Nat.le_refl _) (.int .i64 z.l) (.int .u64 z.s)) (.cells #[.string z.name, .int .i64 z.l, .int .u64 z.s] 76)
        obtain ⟨r0, r1, f0, f1⟩ := hr.two
        obtain ⟨e0, e1, _⟩ := ((hr.put2 (.int .i64 z.l) (.int .u64 z.s)).on_alloc (.cells #[.string z.name, .int .i64 z.l, .int .u64 z.s] 76)).two
        go_wp2
        exact bodyPost_ret (v := .tuple #[.agg #[.int .i64 z.l, .int .u64 z.s], .bool true]) (by simp [results, Tryz.results62, go_sem, e0, e1]) rfl ⟨rfl, hb1⟩
    · obtain rfl : k = n := by omega
      have HE := HK.out
      rw [← HL.out, clear_end] at HE
      simp only [Prod.mk.injEq] at HE
      obtain ⟨rfl, rfl, rfl⟩ := HE
      have lr := hr.1
      obtain ⟨r0, r1, f0, f1⟩ := hr.two
      obtain ⟨e0, e1, _⟩ := (hr.put2 (.int .i64 0) (.int .u64 0)).two
      go_wp2
      exact bodyPost_ret (v := .tuple #[.agg #[.int .i64 0, .int .u64 0], .bool false]) (by simp [results, Tryz.results62, go_sem, e0, e1]) rfl ⟨rfl, set2 hb0 (by omega) _ _⟩
theorem find_says : FindSays := fun A n cap us t w hz => find_in A n cap us t _ _ _ rfl w hz
theorem acts_ways (us : List Us) (t : ByteArray) (l : Int) (s : Nat) : (clearF us t = (0, 0, false) ∧ actsI us t l s = 11) ∨ ∃ u ∈ us, clearF us t = (u.l, u.s, true) ∧ actsI us t l s = bif mayL l && belowL l s u.l u.s then 0 else 12 := by
  rcases clear_find us t 0 with ⟨h1, h2⟩ | ⟨i, u, hu, h1, h2⟩
  · exact .inl ⟨h2, by unfold actsI; rw [h1]; rfl⟩
  · refine .inr ⟨u, List.mem_of_getElem? hu, h2, ?_⟩
    unfold actsI
    rw [h1, Nat.zero_add, if_neg (by omega), Int.toNat_natCast, hu]
    show (if mayL l = true ∧ belowL l s u.l u.s = true then (0 : Int) else 12) = bif mayL l && belowL l s u.l u.s then 0 else 12
    generalize belowL l s u.l u.s = q
    generalize mayL l = p
    cases p <;> cases q <;> simp
theorem lowers_drop {gs : List Gr} {k : Nat} {g : Gr} (h : gs[k]? = some g) (t : ByteArray) (l : Int) (s : Nat) (j : Int) (r : Nat) : lowersB (gs.drop k) t l s j r = (g.lets t l s j r || lowersB (gs.drop (k + 1)) t l s j r) := by rw [drop_at h]; rfl
end Go.Proofs.YtmlmanlcomfhbaaGreatDoor.Right
namespace Go.Proofs.YtmlmanlcomfhbaaGreatDoor.Right
open Go.RowKit Kit Reg Go.Proofs.YtmlmanlcomfhbaaGreatDoor.Lab
open Go.Proofs.YtmlmanlcomfhbaaGreatDoor.Cats (U U_or U_zero)

set_option maxRecDepth 100000 in
set_option maxHeartbeats 1000000 in
theorem letter_c (b : UInt8) (r : Bool) (hr : letB b = r) (w : World) : Calls Tryz.prog 87 #[.int .u8 b.toNat] w fun e w' => e = .returned (.bool r) ∧ w' = w := by
  have HR := Lib.hid hr
  clear hr
  by_cases h0 : 97 ≤ b.toNat
  · by_cases h1 : b.toNat ≤ 122
    · have d0 : decide (97 ≤ (b.toNat : Int)) = true := decide_eq_true (by omega)
      have d1 : decide ((b.toNat : Int) ≤ 122) = true := decide_eq_true (by omega)
      go_enter Tryz.func87, Tryz.ntmps87
      go_wp2
      go_ret
      exact ⟨ret_bool (by rw [← HR.out]; simp [letB, h0, h1]), rfl⟩
    · have d0 : decide (97 ≤ (b.toNat : Int)) = true := decide_eq_true (by omega)
      have d1 : decide ((b.toNat : Int) ≤ 122) = false := decide_eq_false (by omega)
      go_enter Tryz.func87, Tryz.ntmps87
      go_wp2
      go_ret
      exact ⟨ret_bool (by rw [← HR.out]; simp [letB]; omega), rfl⟩
  · have d0 : decide (97 ≤ (b.toNat : Int)) = false := decide_eq_false (by omega)
    go_enter Tryz.func87, Tryz.ntmps87
    go_wp2
    go_ret
    exact ⟨ret_bool (by rw [← HR.out]; simp [letB]; omega), rfl⟩
set_option maxRecDepth 100000 in
set_option maxHeartbeats 1000000 in
theorem digit_c (b : UInt8) (r : Bool) (hr : digB b = r) (w : World) : Calls Tryz.prog 88 #[.int .u8 b.toNat] w fun e w' => e = .returned (.bool r) ∧ w' = w := by
  have HR := Lib.hid hr
  clear hr
  by_cases h0 : 48 ≤ b.toNat
  · by_cases h1 : b.toNat ≤ 57
    · have d0 : decide (48 ≤ (b.toNat : Int)) = true := decide_eq_true (by omega)
      have d1 : decide ((b.toNat : Int) ≤ 57) = true := decide_eq_true (by omega)
      go_enter Tryz.func88, Tryz.ntmps88
      go_wp2
      go_ret
      exact ⟨ret_bool (by rw [← HR.out]; simp [digB, h0, h1]), rfl⟩
    · have d0 : decide (48 ≤ (b.toNat : Int)) = true := decide_eq_true (by omega)
      have d1 : decide ((b.toNat : Int) ≤ 57) = false := decide_eq_false (by omega)
      go_enter Tryz.func88, Tryz.ntmps88
      go_wp2
      go_ret
      exact ⟨ret_bool (by rw [← HR.out]; simp [digB]; omega), rfl⟩
  · have d0 : decide (48 ≤ (b.toNat : Int)) = false := decide_eq_false (by omega)
    go_enter Tryz.func88, Tryz.ntmps88
    go_wp2
    go_ret
    exact ⟨ret_bool (by rw [← HR.out]; simp [digB]; omega), rfl⟩
theorem empty_no {t : ByteArray} (h : 0 < t.size) : (t.toList == []) = false := by
  rw [Bool.eq_false_iff]
  intro e
  rw [beq_iff_eq, Lib.toList_data] at e
  have := size_list t
  rw [e] at this
  simp at this
  omega
set_option maxRecDepth 100000 in
set_option maxHeartbeats 4000000 in
theorem name_in (t : ByteArray) (h1 : 0 < t.size) (h2 : t.size ≤ 16) (w : World) : Calls Tryz.prog 63 #[.string t] w fun e w' => e = .returned (.bool (letB t[0] && t.data.toList.all wordB)) ∧ w' = w := by
  have d2 : decide (16 < t.size) = false := decide_eq_false (by omega)
  have d2' : decide (16 < (t.size : Int)) = false := decide_eq_false (by omega)
  have d0 := empty_no h1
  cases hl0 : letB t[0] with
  | false =>
    have HL := Lib.hid (fun w1 => letter_c t[0] false hl0 w1)
    clear hl0
    go_enter Tryz.func63, Tryz.ntmps63
    go_wp2_with fail
    refine (HL.out _).mono ?_
    rintro e w1 ⟨rfl, rfl⟩
    go_wp2
    go_ret
    exact ⟨rfl, rfl⟩
  | true =>
    have HL := Lib.hid (fun w1 => letter_c t[0] true hl0 w1)
    clear hl0
    obtain ⟨r, hr⟩ : ∃ r, t.data.toList.all wordB = r := ⟨_, rfl⟩
    rw [hr, Bool.true_and]
    have HR := Lib.hid hr
    clear hr
    go_enter Tryz.func63, Tryz.ntmps63
    go_wp2_with fail
    refine (HL.out _).mono ?_
    rintro e w1 ⟨rfl, rfl⟩
    go_wp2
    go_loopw [19] (fun i wr => ∃ k : Nat, k ≤ t.size ∧ i = .int .i64 k ∧ wr = w1 ∧ Hid ((t.data.toList.drop k).all wordB = r)) (fun i _ => t.size - (intOf i).toNat)
    case atStart => exact ⟨0, Nat.zero_le _, rfl, rfl, HR⟩
    case round =>
      obtain ⟨k, hk, rfl, rfl, HK⟩ := hrel
      by_cases hlt : k < t.size
      · have HN : Hid ((wordB t[k] && (t.data.toList.drop (k + 1)).all wordB) = r) := by rw [← all_from (byte_at t k hlt)]; exact HK
        cases hl : letB t[k] with
        | true =>
          have HLk := Lib.hid (fun w1 => letter_c t[k] true hl w1)
          have HN2 : Hid ((t.data.toList.drop (k + 1)).all wordB = r) := by
            have := HN.out
            rwa [show wordB t[k] = true by simp [wordB, hl], Bool.true_and] at this
          clear hl HN
          go_wp2_with fail
          refine (HLk.out _).mono ?_
          rintro e w2 ⟨rfl, rfl⟩
          go_wp2
          go_roundw
          case rel => exact ⟨k + 1, by omega, by go_num, by first | rfl | trivial, HN2⟩
          case measure => simp [intOf]; omega
        | false =>
          have HLk := Lib.hid (fun w1 => letter_c t[k] false hl w1)
          cases hd : digB t[k] with
          | true =>
            have HDk := Lib.hid (fun w1 => digit_c t[k] true hd w1)
            have HN2 : Hid ((t.data.toList.drop (k + 1)).all wordB = r) := by
              have := HN.out
              rwa [show wordB t[k] = true by simp [wordB, hd], Bool.true_and] at this
            clear hl hd HN
            go_wp2_with fail
            refine (HLk.out _).mono ?_
            rintro e w2 ⟨rfl, rfl⟩
            go_wp2_with fail
            refine (HDk.out _).mono ?_
            rintro e w3 ⟨rfl, rfl⟩
            go_wp2
            go_roundw
            case rel => exact ⟨k + 1, by omega, by go_num, by first | rfl | trivial, HN2⟩
            case measure => simp [intOf]; omega
          | false =>
            have HDk := Lib.hid (fun w1 => digit_c t[k] false hd w1)
            have HN2 : r = false := by
              have := HN.out
              rw [show wordB t[k] = false by simp [wordB, hl, hd], Bool.false_and] at this
              exact this.symm
            subst HN2
            clear hl hd HN
            go_wp2_with fail
            refine (HLk.out _).mono ?_
            rintro e w2 ⟨rfl, rfl⟩
            go_wp2_with fail
            refine (HDk.out _).mono ?_
            rintro e w3 ⟨rfl, rfl⟩
            go_wp2
            go_ret
            exact ⟨rfl, rfl⟩
      · obtain rfl : k = t.size := by omega
        have HE := HK.out
        rw [← size_list, List.drop_length] at HE
        obtain rfl : true = r := HE
        go_wp2
        go_ret
        exact ⟨rfl, rfl⟩
set_option maxRecDepth 100000 in
set_option maxHeartbeats 1000000 in
theorem name_says : NameSays := by
  intro t w
  by_cases h0 : t.size < 1
  · have d0 : (t.toList == []) = true := by
      rw [beq_iff_eq, Lib.toList_data]
      exact List.eq_nil_of_length_eq_zero (by rw [size_list]; omega)
    rw [show nameB t.data.toList = false by unfold nameB; rw [size_list]; simp; omega]
    go_enter Tryz.func63, Tryz.ntmps63
    go_wp2
    go_ret
    exact ⟨rfl, Below.refl _ _⟩
  · have d0 := empty_no (t := t) (by omega)
    by_cases h1 : 16 < t.size
    · have d2 : decide (16 < t.size) = true := decide_eq_true (by omega)
      have d2' : decide (16 < (t.size : Int)) = true := decide_eq_true (by omega)
      rw [show nameB t.data.toList = false by unfold nameB; rw [size_list]; simp; omega]
      go_enter Tryz.func63, Tryz.ntmps63
      go_wp2
      go_ret
      exact ⟨rfl, Below.refl _ _⟩
    · have h2 : 0 < t.size := by omega
      rw [nameB_in h2 (by omega)]
      exact (name_in t h2 (by omega) w).mono fun e w' ⟨h, h2⟩ => ⟨h, by rw [h2]; exact Below.refl _ _⟩
end Go.Proofs.YtmlmanlcomfhbaaGreatDoor.Right
namespace Go.Proofs.YtmlmanlcomfhbaaGreatDoor.Right
open Go.RowKit Kit Reg Go.Proofs.YtmlmanlcomfhbaaGreatDoor.Lab
open Go.Proofs.YtmlmanlcomfhbaaGreatDoor.Cats (U U_or U_zero)

set_option maxRecDepth 100000 in
set_option maxHeartbeats 4000000 in
theorem whyG_c (k : Nat) (hk9 : k ≤ 140737488355328) (g : Gr) (A : Option Addr) (n cap : Nat) (us : List Us) (w : World) (hz : UsersR w A n us) :
    Calls Tryz.prog 39 #[.int .i64 k, .agg #[.string g.name, .int .i64 g.l, .int .u64 g.s, .int .i64 g.k, .int .u64 g.r], .slice A n cap] w fun e' w' => e' = .returned (.int .i64 (whyG k g us)) ∧ Below w.heap.size w w' := by
  have hb0 := below1 w (.cells #[.string g.name, .int .i64 g.l, .int .u64 g.s, .int .i64 g.k, .int .u64 g.r] 78)
  have kg := CellsAt.new w g.cells 78
  change CellsAt (w.alloc (.cells #[.string g.name, .int .i64 g.l, .int .u64 g.s, .int .i64 g.k, .int .u64 g.r] 78)) w.heap.size [.string g.name, .int .i64 g.l, .int .u64 g.s, .int .i64 g.k, .int .u64 g.r] at kg
  have HZ := Lib.hid (hz.on hb0)
  obtain ⟨l, s, fb, hc, hfb⟩ : ∃ l s fb, clearF us g.name = (l, s, fb) ∧ (findI us g.name 0 < 0 ↔ fb = false) := by
    rcases clear_find us g.name 0 with ⟨h1, hc⟩ | ⟨i, u, hu, h1, hc⟩
    · exact ⟨_, _, _, hc, by rw [h1]; simp⟩
    · exact ⟨_, _, _, hc, by rw [h1]; simp⟩
  have HF := Lib.hid (fun w1 h => find_in A n cap us g.name _ _ _ hc w1 h)
  by_cases hk : 31 < k
  · have hd : decide (32 ≤ (k : Int)) = true := decide_eq_true (by omega)
    rw [show whyG k g us = 10 by unfold whyG; rw [if_pos hk]]
    clear hfb hc hz
    go_enter Tryz.func39, Tryz.ntmps39
    go_wp2_with fail
    refine (HF.out _ HZ.out).mono ?_
    rintro e w1 ⟨rfl, hb1⟩
    replace hb0 := on_alloc (on hb0 hb1) (.cells #[.int .i64 l, .int .u64 s] 70)
    go_wp2
    go_ret
    exact ⟨rfl, hb0⟩
  have hd : decide (32 ≤ (k : Int)) = false := decide_eq_false (by omega)
  cases fb with
  | false =>
    rw [show whyG k g us = 11 by unfold whyG; rw [if_neg hk, if_pos (hfb.2 rfl)]]
    clear hfb hc hz
    go_enter Tryz.func39, Tryz.ntmps39
    go_wp2_with fail
    refine (HF.out _ HZ.out).mono ?_
    rintro e w1 ⟨rfl, hb1⟩
    replace hb0 := on_alloc (on hb0 hb1) (.cells #[.int .i64 l, .int .u64 s] 70)
    go_wp2
    go_ret
    exact ⟨rfl, hb0⟩
  | true =>
    obtain ⟨m, hm⟩ : ∃ m, mayL g.l = m := ⟨_, rfl⟩
    obtain ⟨m2, hm2⟩ : ∃ m2, mayL g.k = m2 := ⟨_, rfl⟩
    have HM := Lib.hid (fun w1 => Lab.may_c g.l g.s m hm w1)
    have HM2 := Lib.hid (fun w1 => Lab.may_c g.k g.r m2 hm2 w1)
    rw [show whyG k g us = bif m && m2 then 0 else 7 by
      unfold whyG
      rw [if_neg hk, if_neg (by rw [hfb]; simp), hm, hm2]
      cases m <;> cases m2 <;> simp]
    clear hfb hc hz hm hm2
    go_enter Tryz.func39, Tryz.ntmps39
    go_wp2_with fail
    refine (HF.out _ HZ.out).mono ?_
    rintro e w1 ⟨rfl, hb1⟩
    have hbx := below1 w1 (.cells #[.int .i64 l, .int .u64 s] 70)
    have lg0 := (kg.on hb1).1
    have g1' := ((kg.on hb1).2 1 _ rfl).1
    have g2' := ((kg.on hb1).2 2 _ rfl).1
    replace hb0 := on (on hb0 hb1) hbx
    replace kg := (kg.on hb1).on hbx
    clear hb1 hbx
    have g1 := (kg.2 1 _ rfl).1
    have g2 := (kg.2 2 _ rfl).1
    have lg := kg.1
    go_wp2_with fail
    generalize w1.alloc (.cells #[.int .i64 l, .int .u64 s] 70) = W1 at *
    refine (HM.out _).mono ?_
    rintro e w2 ⟨rfl, hb2⟩
    replace hb0 := on hb0 hb2
    replace kg := kg.on hb2
    clear hb2 g1 g2 lg g1' g2' lg0
    cases m with
    | false =>
      go_wp2
      go_ret
      exact ⟨rfl, hb0⟩
    | true =>
      have g3 := (kg.2 3 _ rfl).1
      have g4 := (kg.2 4 _ rfl).1
      have lg := kg.1
      go_wp2_with fail
      refine (HM2.out _).mono ?_
      rintro e w3 ⟨rfl, hb3⟩
      replace hb0 := on hb0 hb3
      cases m2 <;> (go_wp2; go_ret; exact ⟨rfl, hb0⟩)
set_option maxRecDepth 100000 in
set_option maxHeartbeats 4000000 in
theorem grants_says : GrantsSays := by
  intro A n cap gs A2 n2 cap2 us w hz hz2
  obtain ⟨p, e, hpe⟩ : ∃ p e, wrongG us 0 gs = (p, e) := ⟨_, _, rfl⟩
  rw [hpe]
  obtain ⟨hlen, hmax, _, _⟩ := id hz
  have HZ := Lib.hid hz
  have HZ2 := Lib.hid hz2
  have HL := Lib.hid hlen
  have HC := Lib.hid hpe
  clear hz hlen hpe hz2
  go_enter Tryz.func20, Tryz.ntmps20
  go_wp2
  go_loopw [11] (fun i wr => ∃ k : Nat, k ≤ n ∧ i = .int .i64 k ∧ Hid (wrongG us k (gs.drop k) = (p, e)) ∧ Below w.heap.size w wr) (fun i _ => n - (intOf i).toNat)
  case atStart => exact ⟨0, Nat.zero_le _, rfl, HC, Below.refl _ _⟩
  case round =>
    obtain ⟨k, hk, rfl, HK, hb0⟩ := hrel
    by_cases hlt : k < n
    · obtain ⟨g, hgk⟩ : ∃ g, gs[k]? = some g := ⟨_, List.getElem?_eq_getElem (by rw [HL.out]; exact hlt)⟩
      obtain ⟨_, _, _, h4⟩ := HZ.out.on hb0
      obtain ⟨b, o, rfl, hblt, hcell⟩ := h4 (by omega)
      obtain ⟨c0, c1, c2, c3, c4⟩ := grant_cells (hcell k g hgk)
      have HZk := Lib.hid hgk
      clear h4 hcell hgk
      replace hb0 := on_alloc hb0 (.cells #[.string g.name, .int .i64 g.l, .int .u64 g.s, .int .i64 g.k, .int .u64 g.r] 78)
      have HZ2k := Lib.hid (HZ2.out.on hb0)
      have HW := Lib.hid (fun w1 h => whyG_c k (by omega) g A2 n2 cap2 us w1 h)
      obtain ⟨y, hy⟩ : ∃ y, whyG k g us = y := ⟨_, rfl⟩
      rw [hy] at HW
      by_cases hh : y = 0
      · have HN : Hid (wrongG us (k + 1) (gs.drop (k + 1)) = (p, e)) := by rw [← wrongG_miss HZk.out (hy.trans hh)]; exact HK
        subst hh
        clear hy
        go_wp2_with fail
        refine (HW.out _ HZ2k.out).mono ?_
        rintro e' w1 ⟨rfl, hb1⟩
        replace hb0 := on hb0 hb1
        clear hb1 c0 c1 c2 c3 c4
        go_wp2
        go_roundw
        case rel => exact ⟨k + 1, by omega, by go_num, HN, hb0⟩
        case measure => simp [intOf]; omega
      · have HN : ((k : Int), y) = (p, e) := by rw [← hy, ← wrongG_hit HZk.out (by rw [hy]; exact hh)]; exact HK.out
        simp only [Prod.mk.injEq] at HN
        obtain ⟨rfl, rfl⟩ := HN
        have hne : (y == 0) = false := by simpa using hh
        clear hh hy
        go_wp2_with fail
        refine (HW.out _ HZ2k.out).mono ?_
        rintro e' w1 ⟨rfl, hb1⟩
        replace hb0 := on hb0 hb1
        clear hb1 c0 c1 c2 c3 c4
        go_wp2
        exact bodyPost_ret (v := .tuple #[.int .i64 k, .int .i64 y]) (by simp [results, Tryz.results20, go_sem]) rfl ⟨rfl, hb0⟩
    · obtain rfl : k = n := by omega
      have HE := HK.out
      rw [← HL.out, wrongG_end] at HE
      simp only [Prod.mk.injEq] at HE
      obtain ⟨rfl, rfl⟩ := HE
      go_wp2
      exact bodyPost_ret (v := .tuple #[.int .i64 0, .int .i64 0]) (by simp [results, Tryz.results20, go_sem]) rfl ⟨rfl, hb0⟩
theorem UsersR.take {w : World} {A : Option Addr} {n k : Nat} {us : List Us} (h : UsersR w A n us) (hk : k ≤ n) : UsersR w A k (us.take k) := by
  obtain ⟨h1, h2, h3, h4⟩ := h
  refine ⟨by rw [List.length_take]; omega, by omega, fun z hz => h3 z (List.mem_of_mem_take hz), fun hk0 => ?_⟩
  obtain ⟨b, o, rfl, hlt, hc⟩ := h4 (by omega)
  refine ⟨b, o, rfl, hlt, fun j z hj => hc j z ?_⟩
  rw [List.getElem?_take] at hj
  split at hj
  · exact hj
  · cases hj
/-- is somebody of that name ahead? -/
theorem ahead_find : ∀ (us : List Us) (u : Us) (k j : Nat), us[k]? = some u → (clearF (us.take k) u.name = (0, 0, false) ∧ findI us u.name j = ((j + k : Nat) : Int)) ∨ ∃ l s, clearF (us.take k) u.name = (l, s, true) ∧ findI us u.name j ≠ ((j + k : Nat) : Int)
  | [], _, _, _, h => by simp at h
  | v :: r, u, 0, j, h => by
    simp only [List.getElem?_cons_zero, Option.some.injEq] at h
    subst h
    exact .inl ⟨rfl, by unfold findI; rw [if_pos (name_refl _)]; simp⟩
  | v :: r, u, k + 1, j, h => by
    rw [List.take_succ_cons]
    unfold clearF findI
    by_cases hh : (v.name.toList == u.name.toList) = true
    · rw [if_pos hh, if_pos hh]
      exact .inr ⟨v.l, v.s, rfl, by omega⟩
    · rw [if_neg hh, if_neg hh]
      rcases ahead_find r u k (j + 1) (by simpa using h) with ⟨h1, h2⟩ | ⟨l, s, h1, h2⟩
      · exact .inl ⟨h1, by rw [h2]; congr 1; omega⟩
      · exact .inr ⟨l, s, h1, by intro e; apply h2; rw [e]; congr 1; omega⟩
set_option maxRecDepth 100000 in
set_option maxHeartbeats 4000000 in
theorem whyU_c (k cap : Nat) (hk9 : k ≤ 140737488355328) (us : List Us) (u : Us) (huk : us[k]? = some u) (A : Option Addr) (w : World) (hz : UsersR w A k (us.take k)) :
    Calls Tryz.prog 38 #[.slice A k cap, .agg #[.string u.name, .int .i64 u.l, .int .u64 u.s]] w fun e' w' => e' = .returned (.int .i64 (whyU k u (findI us u.name 0))) ∧ Below w.heap.size w w' := by
  have hb0 := below1 w (.cells #[.string u.name, .int .i64 u.l, .int .u64 u.s] 76)
  have ku := CellsAt.new w u.cells 76
  change CellsAt (w.alloc (.cells #[.string u.name, .int .i64 u.l, .int .u64 u.s] 76)) w.heap.size [.string u.name, .int .i64 u.l, .int .u64 u.s] at ku
  obtain ⟨f, hf⟩ : ∃ f, findI us u.name 0 = f := ⟨_, rfl⟩
  obtain ⟨l, s, fb, hc, hfb⟩ : ∃ l s fb, clearF (us.take k) u.name = (l, s, fb) ∧ (f ≠ (k : Int) ↔ fb = true) := by
    rcases ahead_find us u k 0 huk with ⟨hc, h1⟩ | ⟨l, s, hc, h1⟩
    · rw [Nat.zero_add, hf] at h1
      exact ⟨_, _, _, hc, by rw [h1]; simp⟩
    · rw [Nat.zero_add, hf] at h1
      exact ⟨_, _, _, hc, by simp [h1]⟩
  rw [hf]
  have HZ := Lib.hid (hz.on hb0)
  have HF := Lib.hid (fun w1 h => find_in A k cap (us.take k) u.name _ _ _ hc w1 h)
  obtain ⟨nb, hnb⟩ : ∃ nb, nameB u.name.data.toList = nb := ⟨_, rfl⟩
  have HNm : Hid (∀ w1, Calls Tryz.prog 63 #[.string u.name] w1 fun e w' => e = .returned (.bool nb) ∧ Below w1.heap.size w1 w') := Lib.hid (fun w1 => hnb ▸ name_says u.name w1)
  obtain ⟨m, hm⟩ : ∃ m, mayL u.l = m := ⟨_, rfl⟩
  have HM := Lib.hid (fun w1 => Lab.may_c u.l u.s m hm w1)
  by_cases hk : 15 < k
  · have hd : decide (16 ≤ (k : Int)) = true := decide_eq_true (by omega)
    rw [show whyU k u f = 10 by unfold whyU; rw [if_pos hk]]
    clear hz hnb hm hc hfb hf
    go_enter Tryz.func38, Tryz.ntmps38
    go_wp2_with fail
    refine (HF.out _ HZ.out).mono ?_
    rintro e w1 ⟨rfl, hb1⟩
    replace hb0 := on_alloc (on hb0 hb1) (.cells #[.int .i64 l, .int .u64 s] 70)
    go_wp2
    go_ret
    exact ⟨rfl, hb0⟩
  have hd : decide (16 ≤ (k : Int)) = false := decide_eq_false (by omega)
  rw [show whyU k u f = bif nb then (bif fb then 8 else bif m then 0 else 7) else 1 by
    unfold whyU
    rw [if_neg hk, hnb, hm]
    cases nb with
    | false => rfl
    | true =>
      cases fb with
      | false => rw [if_neg (by simp), if_neg (by rw [hfb]; simp)]; cases m <;> simp
      | true => rw [if_neg (by simp), if_pos (hfb.2 rfl)]; rfl]
  clear hz hnb hm hc hfb hf
  go_enter Tryz.func38, Tryz.ntmps38
  go_wp2_with fail
  refine (HF.out _ HZ.out).mono ?_
  rintro e w1 ⟨rfl, hb1⟩
  have hbx := below1 w1 (.cells #[.int .i64 l, .int .u64 s] 70)
  have ku1 := ku.on hb1
  replace hb0 := on (on hb0 hb1) hbx
  replace ku := ku1.on hbx
  obtain ⟨v0, v1, v2, _⟩ := ku1.three
  obtain ⟨u0, u1, u2, _⟩ := ku.three
  have lv := ku1.1
  have lu := ku.1
  clear hb1 hbx HF HZ
  go_wp2_with fail
  generalize w1.alloc (.cells #[.int .i64 l, .int .u64 s] 70) = W1 at *
  refine (HNm.out _).mono ?_
  rintro e w2 ⟨rfl, hb2⟩
  replace hb0 := on hb0 hb2
  replace ku := ku.on hb2
  clear hb2 v0 v1 v2 u0 u1 u2 lv lu ku1 HNm
  cases nb with
  | false =>
    go_wp2
    go_ret
    exact ⟨rfl, hb0⟩
  | true =>
    cases fb with
    | true =>
      go_wp2
      go_ret
      exact ⟨rfl, hb0⟩
    | false =>
      obtain ⟨u0, u1, u2, _⟩ := ku.three
      have lu := ku.1
      go_wp2_with fail
      refine (HM.out _).mono ?_
      rintro e w3 ⟨rfl, hb3⟩
      replace hb0 := on hb0 hb3
      cases m <;> (go_wp2; go_ret; exact ⟨rfl, hb0⟩)
end Go.Proofs.YtmlmanlcomfhbaaGreatDoor.Right
namespace Go.Proofs.YtmlmanlcomfhbaaGreatDoor.Right
open Go.RowKit Kit Reg Go.Proofs.YtmlmanlcomfhbaaGreatDoor.Lab
open Go.Proofs.YtmlmanlcomfhbaaGreatDoor.Cats (U U_or U_zero)

set_option maxRecDepth 100000 in
set_option maxHeartbeats 4000000 in
theorem users_says : UsersSays := by
  intro A n cap us w hcap hz
  obtain ⟨p, e, hpe⟩ : ∃ p e, wrongU us 0 us = (p, e) := ⟨_, _, rfl⟩
  rw [hpe]
  obtain ⟨hlen, hmax, _, _⟩ := id hz
  have HZ := Lib.hid hz
  have HL := Lib.hid hlen
  have HC := Lib.hid hpe
  clear hz hlen hpe
  go_enter Tryz.func19, Tryz.ntmps19
  go_wp2
  go_loopw [9] (fun i wr => ∃ k : Nat, k ≤ n ∧ i = .int .i64 k ∧ Hid (wrongU us k (us.drop k) = (p, e)) ∧ Below w.heap.size w wr) (fun i _ => n - (intOf i).toNat)
  case atStart => exact ⟨0, Nat.zero_le _, rfl, HC, Below.refl _ _⟩
  case round =>
    obtain ⟨k, hk, rfl, HK, hb0⟩ := hrel
    by_cases hlt : k < n
    · obtain ⟨u, huk⟩ : ∃ u, us[k]? = some u := ⟨_, List.getElem?_eq_getElem (by rw [HL.out]; exact hlt)⟩
      obtain ⟨_, _, _, h4⟩ := HZ.out.on hb0
      obtain ⟨b, o, rfl, hblt, hcell⟩ := h4 (by omega)
      obtain ⟨c0, c1, c2⟩ := user_cells (hcell k u huk)
      have HZk := Lib.hid huk
      have kv := CellsAt.new wr u.cells 76
      change CellsAt (wr.alloc (.cells #[.string u.name, .int .i64 u.l, .int .u64 u.s] 76)) wr.heap.size [.string u.name, .int .i64 u.l, .int .u64 u.s] at kv
      replace hb0 := on_alloc hb0 (.cells #[.string u.name, .int .i64 u.l, .int .u64 u.s] 76)
      have HT := Lib.hid ((HZ.out.on hb0).take (k := k) (by omega))
      obtain ⟨y, hy⟩ : ∃ y, whyU k u (findI us u.name 0) = y := ⟨_, rfl⟩
      have HW : Hid (∀ w1 cp, UsersR w1 (some ⟨b, o, none⟩) k (us.take k) → Calls Tryz.prog 38 #[.slice (some ⟨b, o, none⟩) k cp, .agg #[.string u.name, .int .i64 u.l, .int .u64 u.s]] w1 fun e' w' => e' = .returned (.int .i64 y) ∧ Below w1.heap.size w1 w') := Lib.hid (fun w1 cp h => by
        have := whyU_c k cp (by omega) us u HZk.out (some ⟨b, o, none⟩) w1 h
        rwa [hy] at this)
      clear h4 hcell huk
      go_wp2_with fail
      generalize wr.alloc (.cells #[.string u.name, .int .i64 u.l, .int .u64 u.s] 76) = X at *
      obtain ⟨v0, v1, v2, _⟩ := kv.three
      have V0 := fun d os => cell_regrown v0 d os
      have V1 := fun d os => cell_regrown v1 d os
      have V2 := fun d os => cell_regrown v2 d os
      have hkc : k ≤ cap := by omega
      clear v0 v1 v2 c0 c1 c2
      refine wp_region_mem 6 (fun d => match d with
        | 18 => some (Is (.int .i64 y))
        | _ => none) (by kernel_rfl) (by kernel_rfl) ?_
      simp only [List.take_succ_cons, List.take_zero, List.drop_succ_cons, List.drop_zero]
      repeat (first | ((with_reducible refine wpM_calm ?_ ?_ ?_ ?_); exact rfl; exact rfl; exact rfl; intro K hK; go_big_quiet_op; go_big_quiet_on) | ((with_reducible refine wpM_skip ?_ ?_); exact rfl; simp only [Act.put, List.setIfInBounds_toArray, List.set_cons_succ, List.set_cons_zero]))
      refine wpM_exact rfl rfl rfl Tryz.func38 (by kernel_rfl) (by kernel_rfl) (fun w1 hw1 _ => HW.out w1 _ (HT.out.on hw1)) rfl (by simp only [Act.put, List.setIfInBounds_toArray, List.set_cons_succ, List.set_cons_zero]; rfl) ?_
      repeat (first | ((with_reducible refine wpM_calm ?_ ?_ ?_ ?_); exact rfl; exact rfl; exact rfl; intro K hK; go_big_quiet_op; go_big_quiet_on) | ((with_reducible refine wpM_skip ?_ ?_); exact rfl; simp only [Act.put, List.setIfInBounds_toArray, List.set_cons_succ, List.set_cons_zero]))
      refine wpM_nil ?_
      intro w1 hw1 _
      replace hb0 := on hb0 hw1
      clear hw1 V0 V1 V2
      by_cases hh : y = 0
      · have HN : Hid (wrongU us (k + 1) (us.drop (k + 1)) = (p, e)) := by rw [← wrongU_miss HZk.out (hy.trans hh)]; exact HK
        subst hh
        clear hy
        go_wp2
        go_roundw
        case rel => exact ⟨k + 1, by omega, by go_num, HN, hb0⟩
        case measure => simp [intOf]; omega
      · have HN : ((k : Int), y) = (p, e) := by rw [← hy, ← wrongU_hit HZk.out (by rw [hy]; exact hh)]; exact HK.out
        simp only [Prod.mk.injEq] at HN
        obtain ⟨rfl, rfl⟩ := HN
        have hne : (y == 0) = false := by simpa using hh
        clear hh hy
        go_wp2
        exact bodyPost_ret (v := .tuple #[.int .i64 k, .int .i64 y]) (by simp [results, Tryz.results19, go_sem]) rfl ⟨rfl, hb0⟩
    · obtain rfl : k = n := by omega
      have HE := HK.out
      rw [← HL.out, wrongU_end] at HE
      simp only [Prod.mk.injEq] at HE
      obtain ⟨rfl, rfl⟩ := HE
      go_wp2
      exact bodyPost_ret (v := .tuple #[.int .i64 0, .int .i64 0]) (by simp [results, Tryz.results19, go_sem]) rfl ⟨rfl, hb0⟩
end Go.Proofs.YtmlmanlcomfhbaaGreatDoor.Right
