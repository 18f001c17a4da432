/- What the program's Find, Acts, Lowers and Leaks answer (over the landed text of package right, e6de85d). -/
import Derived.Test.YteolenhgaekihaaRightSays
import Derived.Test.YteolenhgaekihaaLabLeafs
namespace Go.Proofs.Yteolenhgaekihaa.Right
open Go.RowKit Kit Reg Go.Proofs.Yteolenhgaekihaa.Lab
open Go.Proofs.Yteolenhgaekihaa.Cats (U U_or U_zero)

theorem clear_hit {us : List Us} {k : Nat} {u : Us} {t : ByteArray} (h : us[k]? = some u) (hh : (u.name.toList == t.toList) = true) : clearF (us.drop k) t = (u.l, u.s, true) := by rw [drop_at h, clearF, if_pos hh]
theorem clear_miss {us : List Us} {k : Nat} {u : Us} {t : ByteArray} (h : us[k]? = some u) (hh : (u.name.toList == t.toList) = false) : clearF (us.drop k) t = clearF (us.drop (k + 1)) t := by rw [drop_at h, clearF, if_neg (by rw [hh]; simp)]
theorem clear_end (us : List Us) (t : ByteArray) : clearF (us.drop us.length) t = (0, 0, false) := by rw [List.drop_length]; rfl
set_option maxRecDepth 100000 in
set_option maxHeartbeats 2000000 in
theorem find_in (A : Option Addr) (n cap : Nat) (us : List Us) (t : ByteArray) (l : Int) (s : Nat) (b0 : Bool) (hc : clearF us t = (l, s, b0)) (w : World) (hz : UsersR w A n us) :
    Calls Try.prog 8 #[.slice A n cap, .string t] w fun e w' => e = .returned (.tuple #[.agg #[.int .i64 l, .int .u64 s], .bool b0]) ∧ Below w.heap.size w w' := by
  obtain ⟨hlen, hmax, _, _⟩ := id hz
  have HZ := Lib.hid hz
  have HL := Lib.hid hlen
  have HC := Lib.hid hc
  clear hz hlen hc
  have hb0 := below1 w (.cells #[.int .i64 0, .int .u64 0] 25)
  have hr := CellsAt.new w [.int .i64 0, .int .u64 0] 25
  go_enter Try.func8, Try.ntmps8
  go_wp2
  go_loopw [10] (fun i wr => ∃ k : Nat, k ≤ n ∧ i = .int .i64 k ∧ Hid (clearF (us.drop k) t = (l, s, b0)) ∧ Below w.heap.size w wr ∧ CellsAt wr w.heap.size [.int .i64 0, .int .u64 0]) (fun i _ => n - (intOf i).toNat)
  case atStart => exact ⟨0, Nat.zero_le _, rfl, HC, hb0, hr⟩
  case round =>
    clear hb0 hr
    obtain ⟨k, hk, rfl, HK, hb0, hr⟩ := hrel
    by_cases hlt : k < n
    · obtain ⟨z, hzk⟩ : ∃ z, us[k]? = some z := ⟨_, List.getElem?_eq_getElem (by rw [HL.out]; exact hlt)⟩
      obtain ⟨_, _, _, h4⟩ := HZ.out.on hb0
      obtain ⟨b, o, rfl, hblt, hcell⟩ := h4 (by omega)
      obtain ⟨c0, c1, c2⟩ := user_cells (hcell k z hzk)
      have HZk := Lib.hid hzk
      clear h4 hcell hzk
      have lr := hr.1
      cases hh : (z.name.toList == t.toList) with
      | false =>
        have HN : Hid (clearF (us.drop (k + 1)) t = (l, s, b0)) := by rw [← clear_miss HZk.out hh]; exact HK
        replace hb0 := on_alloc hb0 (.cells #[.string z.name, .int .i64 z.l, .int .u64 z.s] 31)
        replace hr := hr.on_alloc (.cells #[.string z.name, .int .i64 z.l, .int .u64 z.s] 31)
        go_wp2
        go_roundw
        case rel => exact ⟨k + 1, by omega, by go_num, HN, hb0, hr⟩
        case measure => simp [intOf]; omega
      | true =>
        have HN : (z.l, z.s, true) = (l, s, b0) := by rw [← clear_hit HZk.out hh]; exact HK.out
        simp only [Prod.mk.injEq] at HN
        obtain ⟨rfl, rfl, rfl⟩ := HN
        have hb1 := on_alloc (set2 hb0 (Nat.le_refl _) (.int .i64 z.l) (.int .u64 z.s)) (.cells #[.string z.name, .int .i64 z.l, .int .u64 z.s] 31)
        obtain ⟨r0, r1, f0, f1⟩ := hr.two
        obtain ⟨e0, e1, _⟩ := ((hr.put2 (.int .i64 z.l) (.int .u64 z.s)).on_alloc (.cells #[.string z.name, .int .i64 z.l, .int .u64 z.s] 31)).two
        go_wp2
        exact bodyPost_ret (v := .tuple #[.agg #[.int .i64 z.l, .int .u64 z.s], .bool true]) (by simp [results, Try.results8, go_sem, e0, e1]) rfl ⟨rfl, hb1⟩
    · obtain rfl : k = n := by omega
      have HE := HK.out
      rw [← HL.out, clear_end] at HE
      simp only [Prod.mk.injEq] at HE
      obtain ⟨rfl, rfl, rfl⟩ := HE
      have lr := hr.1
      obtain ⟨r0, r1, f0, f1⟩ := hr.two
      obtain ⟨e0, e1, _⟩ := (hr.put2 (.int .i64 0) (.int .u64 0)).two
      go_wp2
      exact bodyPost_ret (v := .tuple #[.agg #[.int .i64 0, .int .u64 0], .bool false]) (by simp [results, Try.results8, go_sem, e0, e1]) rfl ⟨rfl, set2 hb0 (by omega) _ _⟩
theorem find_says : FindSays := fun A n cap us t w hz => find_in A n cap us t _ _ _ rfl w hz
theorem acts_ways (us : List Us) (t : ByteArray) (l : Int) (s : Nat) : (clearF us t = (0, 0, false) ∧ actsI us t l s = 11) ∨ ∃ u ∈ us, clearF us t = (u.l, u.s, true) ∧ actsI us t l s = bif mayL l && belowL l s u.l u.s then 0 else 12 := by
  rcases clear_find us t 0 with ⟨h1, h2⟩ | ⟨i, u, hu, h1, h2⟩
  · exact .inl ⟨h2, by unfold actsI; rw [h1]; rfl⟩
  · refine .inr ⟨u, List.mem_of_getElem? hu, h2, ?_⟩
    unfold actsI
    rw [h1, Nat.zero_add, if_neg (by omega), Int.toNat_natCast, hu]
    show (if mayL l = true ∧ belowL l s u.l u.s = true then (0 : Int) else 12) = bif mayL l && belowL l s u.l u.s then 0 else 12
    generalize belowL l s u.l u.s = q
    generalize mayL l = p
    cases p <;> cases q <;> simp
set_option maxRecDepth 100000 in
set_option maxHeartbeats 2000000 in
theorem acts_says : ActsSays := by
  intro A n cap us t l s w hs hz
  have hb0 := below1 w (.cells #[.int .i64 l, .int .u64 s] 25)
  have kl := CellsAt.new w [.int .i64 l, .int .u64 s] 25
  have HZ := Lib.hid (hz.on hb0)
  rcases acts_ways us t l s with ⟨hc, ha⟩ | ⟨u, hu, hc, ha⟩
  · have HF := Lib.hid (fun w1 h => find_in A n cap us t _ _ _ hc w1 h)
    rw [ha]
    clear ha hc hz
    go_enter Try.func14, Try.ntmps14
    go_wp2_with fail
    refine (HF.out _ HZ.out).mono ?_
    rintro e w1 ⟨rfl, hb1⟩
    replace hb0 := on_alloc (on hb0 hb1) (.cells #[.int .i64 0, .int .u64 0] 25)
    go_wp2
    go_ret
    exact ⟨rfl, hb0⟩
  · have HF := Lib.hid (fun w1 h => find_in A n cap us t _ _ _ hc w1 h)
    have hus := hz.2.2.1 u hu
    obtain ⟨m, hm⟩ : ∃ m, mayL l = m := ⟨_, rfl⟩
    obtain ⟨b, hb⟩ : ∃ b, belowL l s u.l u.s = b := ⟨_, rfl⟩
    have HM := Lib.hid (fun w1 => Lab.may_c l s m hm w1)
    have HB := Lib.hid (fun w1 => below_c l u.l s u.s b hs hus hb w1)
    rw [ha, hm, hb]
    clear ha hc hz hus hm hb
    go_enter Try.func14, Try.ntmps14
    go_wp2_with fail
    refine (HF.out _ HZ.out).mono ?_
    rintro e w1 ⟨rfl, hb1⟩
    have hbx := below1 w1 (.cells #[.int .i64 u.l, .int .u64 u.s] 25)
    have ku := CellsAt.new w1 [.int .i64 u.l, .int .u64 u.s] 25
    replace hb0 := on (on hb0 hb1) hbx
    replace kl := (kl.on hb1).on hbx
    obtain ⟨l0, l1, _⟩ := kl.two
    obtain ⟨u0, u1, _⟩ := ku.two
    have ll := kl.1
    have lu := ku.1
    clear hb1 hbx
    go_wp2_with fail
    generalize w1.alloc (.cells #[.int .i64 u.l, .int .u64 u.s] 25) = W1 at *
    refine (HM.out _).mono ?_
    rintro e w2 ⟨rfl, hb2⟩
    replace hb0 := on hb0 hb2
    replace kl := kl.on hb2
    replace ku := ku.on hb2
    clear hb2 l0 l1 u0 u1 ll lu
    cases m with
    | false =>
      go_wp2
      go_ret
      exact ⟨rfl, hb0⟩
    | true =>
      obtain ⟨l0, l1, _⟩ := kl.two
      obtain ⟨u0, u1, _⟩ := ku.two
      have ll := kl.1
      have lu := ku.1
      go_wp2_with fail
      refine (HB.out _).mono ?_
      rintro e w3 ⟨rfl, hb3⟩
      replace hb0 := on hb0 hb3
      cases b <;> (go_wp2; go_ret; exact ⟨rfl, hb0⟩)
theorem lowers_drop {gs : List Gr} {k : Nat} {g : Gr} (h : gs[k]? = some g) (t : ByteArray) (l : Int) (s : Nat) (j : Int) (r : Nat) : lowersB (gs.drop k) t l s j r = (g.lets t l s j r || lowersB (gs.drop (k + 1)) t l s j r) := by rw [drop_at h]; rfl
set_option maxRecDepth 100000 in
set_option maxHeartbeats 4000000 in
theorem lowers_says : LowersSays := by
  intro A n cap gs t l s j r w hs hr hz
  obtain ⟨q, hq⟩ : ∃ q, lowersB gs t l s j r = q := ⟨_, rfl⟩
  rw [hq]
  have HZ := Lib.hid hz
  have hlen := hz.1
  have hmax := hz.2.1
  have HU := Lib.hid hz.2.2.1
  have HS := Lib.hid hs
  have HR := Lib.hid hr
  have HC := Lib.hid hq
  clear hz hs hr hq
  have hb0 := below2 w (.cells #[.int .i64 l, .int .u64 s] 25) (.cells #[.int .i64 j, .int .u64 r] 25)
  have kl := (CellsAt.new w [.int .i64 l, .int .u64 s] 25).on_alloc (.cells #[.int .i64 j, .int .u64 r] 25)
  have kj := CellsAt.new (w.alloc (.cells #[.int .i64 l, .int .u64 s] 25)) [.int .i64 j, .int .u64 r] 25
  rw [show (w.alloc (.cells #[.int .i64 l, .int .u64 s] 25)).heap.size = w.heap.size + 1 by simp] at kj
  go_enter Try.func16, Try.ntmps16
  go_wp2
  go_loopw [13] (fun i wr => ∃ k : Nat, k ≤ n ∧ i = .int .i64 k ∧ Hid (lowersB (gs.drop k) t l s j r = q) ∧ Below w.heap.size w wr ∧ CellsAt wr w.heap.size [.int .i64 l, .int .u64 s] ∧ CellsAt wr (w.heap.size + 1) [.int .i64 j, .int .u64 r]) (fun i _ => n - (intOf i).toNat)
  case atStart => exact ⟨0, Nat.zero_le _, rfl, HC, hb0, kl, kj⟩
  case round =>
    clear hb0 kl kj
    obtain ⟨k, hk, rfl, HK, hb0, kl, kj⟩ := hrel
    by_cases hlt : k < n
    · obtain ⟨g, hgk⟩ : ∃ g, gs[k]? = some g := ⟨_, List.getElem?_eq_getElem (by rw [hlen]; exact hlt)⟩
      have HN := Lib.hid ((lowers_drop hgk t l s j r).symm.trans HK.out)
      obtain ⟨hg1, hg2⟩ := HU.out g (List.mem_of_getElem? hgk)
      obtain ⟨_, _, _, h4⟩ := HZ.out.on hb0
      obtain ⟨b, o, rfl, hblt, hcell⟩ := h4 (by omega)
      obtain ⟨c0, c1, c2, c3, c4⟩ := grant_cells (hcell k g hgk)
      have H1 := Lib.hid (fun b (hb : belowL l s g.l g.s = b) w1 => below_c l g.l s g.s b HS.out hg1 hb w1)
      have H2 := Lib.hid (fun b (hb : belowL g.k g.r j r = b) w1 => below_c g.k j g.r r b hg2 HR.out hb w1)
      have kg := CellsAt.new wr g.cells 59
      have hbx := below1 wr (.cells #[.string g.name, .int .i64 g.l, .int .u64 g.s, .int .i64 g.k, .int .u64 g.r] 59)
      obtain ⟨l0, l1, _⟩ := kl.two
      have ll := kl.1
      have lj := kj.1
      replace hb0 := on hb0 hbx
      replace kl := kl.on hbx
      replace kj := kj.on hbx
      clear h4 hcell hgk HK
      cases hn : (g.name.toList == t.toList) with
      | false =>
        have HN2 : Hid (lowersB (gs.drop (k + 1)) t l s j r = q) := by rw [← HN.out]; exact Lib.hid (by unfold Gr.lets; rw [hn]; rfl)
        clear HN hbx
        go_wp2
        go_roundw
        case rel => exact ⟨k + 1, by omega, by go_num, HN2, hb0, kl, kj⟩
        case measure => simp [intOf]; omega
      | true =>
        cases h1 : belowL l s g.l g.s with
        | false =>
          have HN2 : Hid (lowersB (gs.drop (k + 1)) t l s j r = q) := by rw [← HN.out]; exact Lib.hid (by unfold Gr.lets; rw [hn, h1]; rfl)
          have H1b := Lib.hid (fun w1 => H1.out _ h1 w1)
          clear HN h1 hbx
          go_wp2_with fail
          refine (H1b.out _).mono ?_
          rintro e w3 ⟨rfl, hb3⟩
          replace hb0 := on hb0 hb3
          replace kl := kl.on hb3
          replace kj := kj.on hb3
          clear hb3 c0 c1 c2 c3 c4 l0 l1 ll lj
          go_wp2
          go_roundw
          case rel => exact ⟨k + 1, by omega, by go_num, HN2, hb0, kl, kj⟩
          case measure => simp [intOf]; omega
        | true =>
          obtain ⟨p, h2⟩ : ∃ p, belowL g.k g.r j r = p := ⟨_, rfl⟩
          have HN2 : Hid ((p || lowersB (gs.drop (k + 1)) t l s j r) = q) := by rw [← HN.out]; exact Lib.hid (by unfold Gr.lets; rw [hn, h1, h2]; rfl)
          have H1b := Lib.hid (fun w1 => H1.out _ h1 w1)
          have H2b := Lib.hid (fun w1 => H2.out _ h2 w1)
          clear HN h1 h2 hbx
          go_wp2_with fail
          refine (H1b.out _).mono ?_
          rintro e w3 ⟨rfl, hb3⟩
          replace hb0 := on hb0 hb3
          replace kl := kl.on hb3
          replace kj := kj.on hb3
          replace kg := kg.on hb3
          clear hb3 c0 c1 c2 c3 c4 l0 l1 ll lj
          obtain ⟨j0, j1, _⟩ := kj.two
          have g3 := (kg.2 3 _ rfl).1
          have g4 := (kg.2 4 _ rfl).1
          have lj := kj.1
          have lg := kg.1
          go_wp2_with fail
          refine (H2b.out _).mono ?_
          rintro e w4 ⟨rfl, hb4⟩
          replace hb0 := on hb0 hb4
          replace kl := kl.on hb4
          replace kj := kj.on hb4
          clear hb4 j0 j1 g3 g4 lj lg
          cases p with
          | true =>
            have hq : true = q := HN2.out
            subst hq
            go_wp2
            go_ret
            exact ⟨rfl, hb0⟩
          | false =>
            have HN3 : Hid (lowersB (gs.drop (k + 1)) t l s j r = q) := HN2
            go_wp2
            go_roundw
            case rel => exact ⟨k + 1, by omega, by go_num, HN3, hb0, kl, kj⟩
            case measure => simp [intOf]; omega
    · obtain rfl : k = n := by omega
      have HE := HK.out
      rw [← hlen, List.drop_length] at HE
      obtain rfl : false = q := HE
      go_wp2
      go_ret
      exact ⟨rfl, hb0⟩
end Go.Proofs.Yteolenhgaekihaa.Right
