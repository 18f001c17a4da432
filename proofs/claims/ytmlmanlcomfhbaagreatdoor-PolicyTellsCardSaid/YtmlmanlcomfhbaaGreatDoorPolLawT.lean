/- PolicyTells: the law returns true for every policy, and makes new memory alone. -/
import Derived.Test.YtmlmanlcomfhbaaGreatDoorGt
import Derived.Test.YtmlmanlcomfhbaaGreatDoorGm
import Derived.Test.YtmlmanlcomfhbaaGreatDoorGn
import Derived.Test.YtmlmanlcomfhbaaGreatDoorGs
namespace Go.Proofs.YtmlmanlcomfhbaaGreatDoor.Pol
open Go.RowKit Kit Reg
open Go.Proofs.YtmlmanlcomfhbaaGreatDoor.Zone (Zn ZonesR)
open Go.Proofs.YtmlmanlcomfhbaaGreatDoor.Right (Us Gr UsersR GrantsR)
open Go.Proofs.YtmlmanlcomfhbaaGreatDoor.Cats (U U_zero)
open Go.Proofs.YtmlmanlcomfhbaaGreatDoor.Addr (Libs)

theorem pu_of {w : World} {p : Pl} {A1 A2 A3 : Option Addr} {n1 n2 n3 : Nat} (hz : ZonesR w A1 n1 p.zs) (hu : UsersR w A2 n2 p.us) (hg : GrantsR w A3 n3 p.gs) : PU p := ⟨hz.2.2.1, hu.2.2.1, hg.2.2.1⟩
set_option maxRecDepth 100000 in
set_option maxHeartbeats 4000000 in
theorem tells_law (p : Pl) (A1 : Option Addr) (n1 c1 : Nat) (A2 : Option Addr) (n2 c2 : Nat) (A3 : Option Addr) (n3 c3 : Nat) (w : World) (hL : PLibs w) (hcap : n2 ≤ c2) (hz : n1 ≤ 60 → ZonesR w A1 n1 p.zs) (hu : n2 ≤ 60 → UsersR w A2 n2 p.us) (hg : n3 ≤ 60 → GrantsR w A3 n3 p.gs) :
    Calls Tryz.prog 4 #[.agg #[.int .i64 p.rows, .int .i64 p.cols, .slice A1 n1 c1, .slice A2 n2 c2, .slice A3 n3 c3]] w fun e w' => e = .returned (.bool true) ∧ Below w.heap.size w w' := by
  have HA := Lib.hid (fun w1 h => alive_c w1 h)
  have HL := Lib.hid hL
  obtain ⟨b, hb⟩ : ∃ b, (decide (n1 ≤ 50) && decide (n2 ≤ 30) && decide (n3 ≤ 50)) = b := ⟨_, rfl⟩
  have HS := Lib.hid (fun w1 => small_c p.rows p.cols A1 n1 c1 A2 n2 c2 A3 n3 c3 b hb w1)
  have hb0 := below1 w (.cells #[.int .i64 p.rows, .int .i64 p.cols, .slice A1 n1 c1, .slice A2 n2 c2, .slice A3 n3 c3] 26)
  have kp := CellsAt.new w [.int .i64 p.rows, .int .i64 p.cols, .slice A1 n1 c1, .slice A2 n2 c2, .slice A3 n3 c3] 26
  change CellsAt (w.alloc (.cells #[.int .i64 p.rows, .int .i64 p.cols, .slice A1 n1 c1, .slice A2 n2 c2, .slice A3 n3 c3] 26)) w.heap.size [.int .i64 p.rows, .int .i64 p.cols, .slice A1 n1 c1, .slice A2 n2 c2, .slice A3 n3 c3] at kp
  clear hL
  cases b
  case false =>
    clear hz hu hg hb
    generalize p.rows = r at *
    generalize p.cols = q at *
    go_enter Tryz.func4, Tryz.ntmps4
    go_wp2_with fail
    generalize w.alloc (.cells #[.int .i64 r, .int .i64 q, .slice A1 n1 c1, .slice A2 n2 c2, .slice A3 n3 c3] 26) = W at *
    refine (HS.out _).mono ?_
    rintro e w1 ⟨rfl, hb1⟩
    replace hb0 := on hb0 hb1
    clear hb1
    go_wp2_with fail
    refine (HA.out _ (HL.out.grown hb0)).mono ?_
    rintro e w2 ⟨rfl, hb2⟩
    go_wp2
    go_ret
    exact ⟨rfl, on hb0 hb2⟩
  case true =>
    simp only [Bool.and_eq_true, decide_eq_true_eq] at hb
    obtain ⟨⟨s1, s2⟩, s3⟩ := hb
    have HZ := Lib.hid (hz (by omega))
    have HU := Lib.hid (hu (by omega))
    have HG := Lib.hid (hg (by omega))
    have HPU := Lib.hid (pu_of HZ.out HU.out HG.out)
    have lz := HZ.out.1
    have lu := HU.out.1
    have lg := HG.out.1
    have HT := Lib.hid (fun w1 h0 h1 h2 h3 => textP_g p A1 n1 c1 A2 n2 c2 A3 n3 c3 hcap w1 h0 h1 h2 h3 (by omega) (by omega) (by omega))
    have HRT := Lib.hid (fun w1 h1 h2 h3 => rtextP_c p A1 n1 c1 A2 n2 c2 A3 n3 c3 w1 h1 h2 h3)
    have HRW := Lib.hid (fun w1 h1 h2 h3 => rwrongP_c p A1 n1 c1 A2 n2 c2 A3 n3 c3 w1 h1 h2 h3)
    have HSa := Lib.hid (fun (B1 : Option Addr) (d1 : Nat) (B2 : Option Addr) (d2 : Nat) (B3 : Option Addr) (d3 : Nat) w3 h1 h2 h3 h4 h5 h6 => rsame_c p n1 n2 n3 B1 d1 B2 d2 B3 d3 A1 c1 A2 c2 A3 c3 w3 h1 h2 h3 h4 h5 h6)
    have hfld := field_err
    obtain ⟨S, hS⟩ : ∃ S : ByteArray, S = ⟨(textP p).toArray⟩ := ⟨_, rfl⟩
    rw [← hS] at HT HRT
    have hSL : S.data.toList = textP p := by rw [hS]
    have HSL := Lib.hid hSL
    have hss := Right.name_refl S
    have HP := Lib.hid (fun w1 h => parseP_c S w1 h)
    have hsz := list_size S
    rw [hSL] at HP hsz
    obtain ⟨wa, we, hwp⟩ : ∃ a b, wrongP p = (a, b) := ⟨_, _, rfl⟩
    simp only [hwp] at HRW
    have HWP := Lib.hid hwp
    clear hz hu hg hS hSL hwp
    obtain ⟨p0, p1, p2, p3, p4, _⟩ := kp.five
    have lp := kp.1
    go_enter Tryz.func4, Tryz.ntmps4
    go_wp2_with fail
    generalize w.alloc (.cells #[.int .i64 p.rows, .int .i64 p.cols, .slice A1 n1 c1, .slice A2 n2 c2, .slice A3 n3 c3] 26) = W at *
    refine (HS.out _).mono ?_
    rintro e w1 ⟨rfl, hb1⟩
    replace hb0 := on hb0 hb1
    replace kp := kp.on hb1
    clear hb1 p0 p1 p2 p3 p4 lp HS
    obtain ⟨p0, p1, p2, p3, p4, _⟩ := kp.five
    have lp := kp.1
    go_wp2_with fail
    refine (HT.out _ (HL.out.grown hb0).1 (HZ.out.on hb0) (HU.out.on hb0) (HG.out.on hb0)).mono ?_
    rintro e w2 ⟨rfl, hb2⟩
    replace hb0 := on hb0 hb2
    replace kp := kp.on hb2
    clear hb2 p0 p1 p2 p3 p4 lp HT
    obtain ⟨p0, p1, p2, p3, p4, _⟩ := kp.five
    have lp := kp.1
    go_wp2_with fail
    refine (HRT.out _ (HZ.out.on hb0) (HU.out.on hb0) (HG.out.on hb0)).mono ?_
    rintro e w3 ⟨rfl, hb3⟩
    replace hb0 := on hb0 hb3
    replace kp := kp.on hb3
    clear hb3 p0 p1 p2 p3 p4 lp HRT
    go_wp2_with fail
    refine (HP.out _ (HL.out.grown hb0)).mono ?_
    rintro e w4 ⟨pp, m, er, B1, m1, d1, B2, m2, d2, B3, m3, d3, rfl, hi, _, _, kz, ku, kg, hb4⟩
    have kq := CellsAt.new w4 [.int .i64 pp.rows, .int .i64 pp.cols, .slice B1 m1 d1, .slice B2 m2 d2, .slice B3 m3 d3] 26
    change CellsAt (w4.alloc (.cells #[.int .i64 pp.rows, .int .i64 pp.cols, .slice B1 m1 d1, .slice B2 m2 d2, .slice B3 m3 d3] 26)) w4.heap.size [.int .i64 pp.rows, .int .i64 pp.cols, .slice B1 m1 d1, .slice B2 m2 d2, .slice B3 m3 d3] at kq
    have hbx := below1 w4 (.cells #[.int .i64 pp.rows, .int .i64 pp.cols, .slice B1 m1 d1, .slice B2 m2 d2, .slice B3 m3 d3] 26)
    replace hb0 := on hb0 (on hb4 hbx)
    replace kp := kp.on (on hb4 hbx)
    have KZ := Lib.hid (kz.on hbx)
    have KU := Lib.hid (ku.on hbx)
    have KG := Lib.hid (kg.on hbx)
    have HI := Lib.hid hi
    clear kz ku kg hb4 hbx hi HP
    obtain ⟨p0, p1, p2, p3, p4, _⟩ := kp.five
    have lp := kp.1
    go_wp2_with fail
    generalize w4.alloc (.cells #[.int .i64 pp.rows, .int .i64 pp.cols, .slice B1 m1 d1, .slice B2 m2 d2, .slice B3 m3 d3] 26) = Y at *
    generalize w4.heap.size = c at *
    refine (HRW.out _ (HZ.out.on hb0) (HU.out.on hb0) (HG.out.on hb0)).mono ?_
    rintro e w5 ⟨rfl, hb5⟩
    replace hb0 := on hb0 hb5
    replace kp := kp.on hb5
    replace kq := kq.on hb5
    replace KZ := Lib.hid (KZ.out.on hb5)
    replace KU := Lib.hid (KU.out.on hb5)
    replace KG := Lib.hid (KG.out.on hb5)
    clear hb5 p0 p1 p2 p3 p4 lp HRW
    by_cases hwe : we = 0
    · subst hwe
      by_cases hl : 4000 < S.size
      · have hd : decide (4000 < (S.size : Int)) = true := decide_eq_true (by omega)
        have h := HI.out.unique (PolIs.long (by omega))
        simp only [Prod.mk.injEq] at h
        obtain ⟨rfl, rfl, rfl⟩ := h
        clear HI KZ KU KG kp kq HSa HZ HU HG
        go_wp2_with fail
        refine (HA.out _ (HL.out.grown hb0)).mono ?_
        rintro e w6 ⟨rfl, hb6⟩
        go_wp2
        go_ret
        exact ⟨rfl, on hb0 hb6⟩
      · have hd : decide (4000 < (S.size : Int)) = false := decide_eq_false (by omega)
        have h := HI.out.unique (PolIs.of_text HPU.out (by rw [HWP.out]) (by omega))
        simp only [Prod.mk.injEq] at h
        obtain ⟨rfl, rfl, rfl⟩ := h
        obtain rfl : m1 = n1 := KZ.out.1.symm.trans HZ.out.1
        obtain rfl : m2 = n2 := KU.out.1.symm.trans HU.out.1
        obtain rfl : m3 = n3 := KG.out.1.symm.trans HG.out.1
        clear HI HWP HSL
        generalize pp.rows = r at *
        generalize pp.cols = q at *
        obtain ⟨p0, p1, p2, p3, p4, _⟩ := kp.five
        obtain ⟨q0, q1, q2, q3, q4, _⟩ := kq.five
        have lp := kp.1
        have lq := kq.1
        go_wp2_with fail
        refine (HSa.out _ _ _ _ _ _ _ KZ.out KU.out KG.out (HZ.out.on hb0) (HU.out.on hb0) (HG.out.on hb0)).mono ?_
        rintro e w6 ⟨rfl, hb6⟩
        replace hb0 := on hb0 hb6
        clear hb6 p0 p1 p2 p3 p4 lp q0 q1 q2 q3 q4 lq kp kq KZ KU KG HSa
        go_wp2_with fail
        refine (HA.out _ (HL.out.grown hb0)).mono ?_
        rintro e w7 ⟨rfl, hb7⟩
        go_wp2
        go_ret
        exact ⟨rfl, on hb0 hb7⟩
    · have hn : (we == 0) = false := by rw [beq_eq_false_iff_ne]; exact hwe
      have ht : textP p = [] := by rw [textP, if_neg (by rw [HWP.out]; exact hwe)]
      have h := HI.out
      rw [ht] at h
      have h2 := h.unique PolIs.empty
      simp only [Prod.mk.injEq] at h2
      obtain ⟨rfl, rfl, rfl⟩ := h2
      have hS0 : S = ⟨#[]⟩ := bytes_inj (by rw [HSL.out, ht])
      have hse : (S.toList == []) = true := by rw [Lib.toList_data, HSL.out, ht]; rfl
      have hse2 : S.toList.isEmpty = true := by rw [Lib.toList_data, HSL.out, ht]; rfl
      clear HI KZ KU KG kp kq HSa HZ HU HG hS0 HSL HWP ht h hwe
      go_wp2_with fail
      refine (HA.out _ (HL.out.grown hb0)).mono ?_
      rintro e w6 ⟨rfl, hb6⟩
      go_wp2
      go_ret
      exact ⟨rfl, on hb0 hb6⟩
end Go.Proofs.YtmlmanlcomfhbaaGreatDoor.Pol
