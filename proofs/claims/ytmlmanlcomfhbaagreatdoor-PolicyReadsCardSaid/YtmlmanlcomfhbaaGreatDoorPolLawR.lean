/- PolicyReads: the law returns true for every text, and makes new memory alone. -/
import Derived.Test.YtmlmanlcomfhbaaGreatDoorGt
import Derived.Test.YtmlmanlcomfhbaaGreatDoorPolRefParse
import Derived.Test.YtmlmanlcomfhbaaGreatDoorGn
import Derived.Test.YtmlmanlcomfhbaaGreatDoorGs
namespace Go.Proofs.YtmlmanlcomfhbaaGreatDoor.Pol
open Go.RowKit Kit Reg
open Go.Proofs.YtmlmanlcomfhbaaGreatDoor.Zone (Zn ZonesR)
open Go.Proofs.YtmlmanlcomfhbaaGreatDoor.Right (Us Gr UsersR GrantsR)
open Go.Proofs.YtmlmanlcomfhbaaGreatDoor.Cats (U U_zero)
open Go.Proofs.YtmlmanlcomfhbaaGreatDoor.Addr (Libs)

/-- a text has no more lines than bytes -/
theorem flat_long : ∀ xs : List Ln, xs.length ≤ ((xs.map Ln.text).flatten).length
  | [] => Nat.zero_le _
  | x :: r => by
    have h := flat_long r
    have hx : 1 ≤ x.text.length := by simp [Ln.text]
    simp only [List.map_cons, List.flatten_cons, List.length_append, List.length_cons]
    omega
theorem few_lines (p : Pl) : p.zs.length ≤ (textAll p).length ∧ p.us.length ≤ (textAll p).length ∧ p.gs.length ≤ (textAll p).length := by
  have h := flat_long (linesOf p)
  have hl : (linesOf p).length = 1 + (p.zs.length + (p.us.length + p.gs.length)) := by simp [linesOf]; omega
  unfold textAll
  omega
theorem few_read {s : List UInt8} {p : Pl} {m : Int} (h : PolIs s (p, m, 0)) : p.zs.length ≤ s.length ∧ p.us.length ≤ s.length ∧ p.gs.length ≤ s.length := by
  obtain ⟨_, h1, h2⟩ := h.told
  have := few_lines p
  rw [textP, if_pos h1] at h2
  rwa [h2] at this
theorem same_text {x y : ByteArray} (h : x = y) : (x.toList == y.toList) = true := Right.name_eq.2 h
set_option maxRecDepth 100000 in
set_option maxHeartbeats 4000000 in
theorem reads_law (s : ByteArray) (w : World) (hL : PLibs w) : Calls Tryz.prog 5 #[.string s] w fun e w' => e = .returned (.bool true) ∧ Below w.heap.size w w' := by
  have HA := Lib.hid (fun w1 h => alive_c w1 h)
  have HL := Lib.hid hL
  clear hL
  by_cases hl : 5000 < s.size
  · have hd : decide (5000 < (s.size : Int)) = true := decide_eq_true (by omega)
    go_enter Tryz.func5, Tryz.ntmps5
    go_wp2_with fail
    refine (HA.out _ HL.out).mono ?_
    rintro e w1 ⟨rfl, hb1⟩
    go_wp2
    go_ret
    exact ⟨rfl, hb1⟩
  have hd : decide (5000 < (s.size : Int)) = false := decide_eq_false (by omega)
  have HP := Lib.hid (fun w1 h => parseP_c s w1 h)
  have HR := Lib.hid (fun w1 => rparseP_c s w1)
  have hsz := list_size s
  obtain ⟨T, hT⟩ : ∃ T, s.data.toList = T := ⟨_, rfl⟩
  rw [hT] at HP HR hsz
  have HT := Lib.hid hT
  clear hT
  go_enter Tryz.func5, Tryz.ntmps5
  go_wp2_with fail
  refine (HP.out _ HL.out).mono ?_
  rintro e w1 ⟨p, m, er, A1, n1, c1, A2, n2, c2, A3, n3, c3, rfl, hi, _, hcap, hz, hu, hg, hb1⟩
  have kq := CellsAt.new w1 [.int .i64 p.rows, .int .i64 p.cols, .slice A1 n1 c1, .slice A2 n2 c2, .slice A3 n3 c3] 26
  change CellsAt (w1.alloc (.cells #[.int .i64 p.rows, .int .i64 p.cols, .slice A1 n1 c1, .slice A2 n2 c2, .slice A3 n3 c3] 26)) w1.heap.size [.int .i64 p.rows, .int .i64 p.cols, .slice A1 n1 c1, .slice A2 n2 c2, .slice A3 n3 c3] at kq
  have hbx := below1 w1 (.cells #[.int .i64 p.rows, .int .i64 p.cols, .slice A1 n1 c1, .slice A2 n2 c2, .slice A3 n3 c3] 26)
  have hb0 := on hb1 hbx
  have HI := Lib.hid hi
  have HZ := Lib.hid (hz.on hbx)
  have HU := Lib.hid (hu.on hbx)
  have HG := Lib.hid (hg.on hbx)
  clear hz hu hg hb1 hbx hi HP
  go_wp2_with fail
  generalize w1.alloc (.cells #[.int .i64 p.rows, .int .i64 p.cols, .slice A1 n1 c1, .slice A2 n2 c2, .slice A3 n3 c3] 26) = X at *
  generalize w1.heap.size = b at *
  refine (HR.out _).mono ?_
  rintro e w2 ⟨p', m', er', D1, m1, d1, D2, m2, d2, D3, m3, d3, rfl, hi, _, _, kz, ku, kg, hb2⟩
  have h := hi.unique HI.out
  simp only [Prod.mk.injEq] at h
  obtain ⟨rfl, rfl, rfl⟩ := h
  obtain rfl : n1 = m1 := HZ.out.1.symm.trans kz.1
  obtain rfl : n2 = m2 := HU.out.1.symm.trans ku.1
  obtain rfl : n3 = m3 := HG.out.1.symm.trans kg.1
  have kt := CellsAt.new w2 [.int .i64 p'.rows, .int .i64 p'.cols, .slice D1 n1 d1, .slice D2 n2 d2, .slice D3 n3 d3, .int .i64 m', .int .i64 er'] 43
  change CellsAt (w2.alloc (.cells #[.int .i64 p'.rows, .int .i64 p'.cols, .slice D1 n1 d1, .slice D2 n2 d2, .slice D3 n3 d3, .int .i64 m', .int .i64 er'] 43)) w2.heap.size [.int .i64 p'.rows, .int .i64 p'.cols, .slice D1 n1 d1, .slice D2 n2 d2, .slice D3 n3 d3, .int .i64 m', .int .i64 er'] at kt
  have hbx := below1 w2 (.cells #[.int .i64 p'.rows, .int .i64 p'.cols, .slice D1 n1 d1, .slice D2 n2 d2, .slice D3 n3 d3, .int .i64 m', .int .i64 er'] 43)
  have kq2 := kq.on hb2
  replace hb0 := on hb0 (on hb2 hbx)
  replace kq := kq.on (on hb2 hbx)
  replace HZ := Lib.hid (HZ.out.on (on hb2 hbx))
  replace HU := Lib.hid (HU.out.on (on hb2 hbx))
  replace HG := Lib.hid (HG.out.on (on hb2 hbx))
  have KZ := Lib.hid (kz.on hbx)
  have KU := Lib.hid (ku.on hbx)
  have KG := Lib.hid (kg.on hbx)
  have HS := Lib.hid (fun w3 h1 h2 h3 h4 h5 h6 => rsame_c p' n1 n2 n3 A1 c1 A2 c2 A3 c3 D1 d1 D2 d2 D3 d3 w3 h1 h2 h3 h4 h5 h6)
  have HTx := Lib.hid (fun w3 h0 h1 h2 h3 h4 h5 h6 => textP_g p' A1 n1 c1 A2 n2 c2 A3 n3 c3 hcap w3 h0 h1 h2 h3 h4 h5 h6)
  have hm : (m' == m') = true := by simp
  have he : (er' == er') = true := by simp
  clear kz ku kg hb2 hbx hi HR
  obtain ⟨q0, q1, q2, q3, q4, _⟩ := kq2.five
  have lq := kq2.1
  clear kq2
  by_cases her : er' = 0
  · subst her
    have hfew := few_read HI.out
    obtain ⟨rfl, _, hte⟩ := HI.out.told
    have HTe := Lib.hid hte
    have hx := HZ.out.1
    have hy := HU.out.1
    have hv := HG.out.1
    obtain ⟨S, hS⟩ : ∃ S : ByteArray, S = ⟨(textP p').toArray⟩ := ⟨_, rfl⟩
    have hSs : (S.toList == s.toList) = true := same_text (by rw [hS, HTe.out, ← HT.out])
    rw [← hS] at HTx
    clear hte hS HTe HI
    generalize p'.rows = r at *
    generalize p'.cols = q at *
    go_wp2_with fail
    generalize w2.alloc (.cells #[.int .i64 r, .int .i64 q, .slice D1 n1 d1, .slice D2 n2 d2, .slice D3 n3 d3, .int .i64 0, .int .i64 0] 43) = Y at *
    generalize w2.heap.size = c at *
    refine (HS.out _ HZ.out HU.out HG.out KZ.out KU.out KG.out).mono ?_
    rintro e w3 ⟨rfl, hb3⟩
    replace hb0 := on hb0 hb3
    replace kq := kq.on hb3
    replace kt := kt.on hb3
    replace HZ := Lib.hid (HZ.out.on hb3)
    replace HU := Lib.hid (HU.out.on hb3)
    replace HG := Lib.hid (HG.out.on hb3)
    clear hb3 q0 q1 q2 q3 q4 lq KZ KU KG HS
    obtain ⟨q0, q1, q2, q3, q4, _⟩ := kq.five
    obtain ⟨t0, t1, t2, t3, t4, t5, t6, _⟩ := CellsAt.seven kt
    have lq := kq.1
    have lt := kt.1
    go_wp2_with fail
    refine (HTx.out _ (HL.out.grown hb0).1 HZ.out HU.out HG.out (by omega) (by omega) (by omega)).mono ?_
    rintro e w4 ⟨rfl, hb4⟩
    replace hb0 := on hb0 hb4
    clear hb4 q0 q1 q2 q3 q4 t0 t1 t2 t3 t4 t5 t6 lq lt kq kt HZ HU HG HTx
    go_wp2_with fail
    refine (HA.out _ (HL.out.grown hb0)).mono ?_
    rintro e w5 ⟨rfl, hb5⟩
    go_wp2
    go_ret
    exact ⟨rfl, on hb0 hb5⟩
  · have hn : (er' == 0) = false := by rw [beq_eq_false_iff_ne]; exact her
    clear HI HTx
    generalize p'.rows = r at *
    generalize p'.cols = q at *
    go_wp2_with fail
    generalize w2.alloc (.cells #[.int .i64 r, .int .i64 q, .slice D1 n1 d1, .slice D2 n2 d2, .slice D3 n3 d3, .int .i64 m', .int .i64 er'] 43) = Y at *
    generalize w2.heap.size = c at *
    refine (HS.out _ HZ.out HU.out HG.out KZ.out KU.out KG.out).mono ?_
    rintro e w3 ⟨rfl, hb3⟩
    replace hb0 := on hb0 hb3
    replace kq := kq.on hb3
    replace kt := kt.on hb3
    clear hb3 q0 q1 q2 q3 q4 lq KZ KU KG HS HZ HU HG
    obtain ⟨q0, q1, q2, q3, q4, _⟩ := kq.five
    obtain ⟨t0, t1, t2, t3, t4, t5, t6, _⟩ := CellsAt.seven kt
    have lq := kq.1
    have lt := kt.1
    go_wp2_with fail
    refine (HA.out _ (HL.out.grown hb0)).mono ?_
    rintro e w5 ⟨rfl, hb5⟩
    go_wp2
    go_ret
    exact ⟨rfl, on hb0 hb5⟩
end Go.Proofs.YtmlmanlcomfhbaaGreatDoor.Pol
