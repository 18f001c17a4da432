/- What the program's read answers: the policy that a text's lines tell, or which line is none that may stand there.
   What the program's Parse of a policy answers: for any text of at most 5000 bytes.
   The check of life of the stage's laws: true; and which policies are small. -/
import Derived.Test.YtmlmanlcomfhbaaGreatDoorGq
import Derived.Test.YtmlmanlcomfhbaaGreatDoorGp
namespace Go.Proofs.YtmlmanlcomfhbaaGreatDoor.Pol
open Go.RowKit Kit Reg
open Go.Proofs.YtmlmanlcomfhbaaGreatDoor.Zone (Zn ZonesR)
open Go.Proofs.YtmlmanlcomfhbaaGreatDoor.Right (Us Gr UsersR GrantsR)
open Go.Proofs.YtmlmanlcomfhbaaGreatDoor.Addr (Libs)

/-- a reader of lines' answer -/
def RdEnd (T : List UInt8) (w : World) (e : Ending) (w' : World) : Prop :=
  (∃ (p : Pl) (A1 : Option Addr) (c1 : Nat) (A2 : Option Addr) (c2 : Nat) (A3 : Option Addr) (c3 : Nat) (B : Nat), e = .returned (.tuple #[.agg #[.int .i64 p.rows, .int .i64 p.cols, .slice A1 p.zs.length c1, .slice A2 p.us.length c2, .slice A3 p.gs.length c3], .int .i64 0, .bool true]) ∧
    (∃ os, AllIs (linesF T) os ∧ goF 1 0 .zero os = endP p) ∧ PU p ∧ p.zs.length ≤ T.length ∧ p.us.length ≤ T.length ∧ p.gs.length ≤ T.length ∧ Own B p (.slice A1 p.zs.length c1) (.slice A2 p.us.length c2) (.slice A3 p.gs.length c3) w' ∧ w.heap.size ≤ B ∧ Below w.heap.size w w') ∨
  (∃ m : Int, e = .returned (.tuple #[.agg #[.int .i64 0, .int .i64 0, .slice none 0 0, .slice none 0 0, .slice none 0 0], .int .i64 m, .bool false]) ∧ (∃ os, AllIs (linesF T) os ∧ goF 1 0 .zero os = (.zero, m, 1)) ∧ Below w.heap.size w w')
def textSize : Value → Nat
  | .string s => s.size
  | _ => 0
theorem empty_of {l : ByteArray} (h : l.toList.isEmpty = true) : l = ⟨#[]⟩ := by
  apply bytes_inj
  rw [← Lib.toList_data]
  simpa using h
theorem ne_of {l : ByteArray} (h : l.toList.isEmpty = false) : l.data.toList ≠ [] := by
  rw [← Lib.toList_data]
  intro e
  rw [e] at h
  cases h
theorem CellsAt.under {w w' : World} {B b : Nat} {cs : List Value} (h : CellsAt w b cs) (hb : Below B w w') (hlt : b < B) : CellsAt w' b cs :=
  ⟨Nat.lt_of_lt_of_le h.1 hb.size, fun i v hi => ⟨(hb.cell (p := ⟨b, i, none⟩) hlt).trans (h.2 i v hi).1, (World.frozen?_of_block (a := ⟨b, i, none⟩) (hb.block b hlt)).trans (h.2 i v hi).2⟩⟩
theorem CutsAt.sizes {l a b : ByteArray} {f : Bool} (h : CutsAt 10 l.data.toList a.data.toList b.data.toList f) : a.size ≤ l.size ∧ (f = true → b.size < l.size) := by
  rw [← list_size, ← list_size, ← list_size]
  rcases h with ⟨h, rfl⟩ | ⟨_, h1, h2, rfl⟩
  · rw [(of_cutAt h).1, List.length_append, List.length_cons]
    exact ⟨by omega, fun _ => by omega⟩
  · rw [h1]
    exact ⟨Nat.le_refl _, fun e => (nomatch e)⟩
theorem row_apart {B : Nat} {p : Pl} {vz vu vg : Value} {w : World} (h : Own B p vz vu vg w) {b : Nat} (hb : b < B) : vz.ownBlock ≠ some b ∧ vu.ownBlock ≠ some b ∧ vg.ownBlock ≠ some b :=
  ⟨fun e => by have := (h.z.lt b e).1; omega, fun e => by have := (h.u.lt b e).1; omega, fun e => by have := (h.g.lt b e).1; omega⟩
set_option maxRecDepth 100000 in
set_option maxHeartbeats 4000000 in
theorem read_c (s : ByteArray) (hl : s.size ≤ 5000) (w : World) (hL : PLibs w) : Calls Tryz.prog 34 #[.string s] w (RdEnd s.data.toList w) := by
  obtain ⟨os, hos⟩ := AllIs.some_one (linesF s.data.toList)
  obtain ⟨R, hR⟩ : ∃ R, goF 1 0 .zero os = R := ⟨_, rfl⟩
  have HR0 : Hid (∃ os, AllIs (linesF s.data.toList) os ∧ goF 1 0 .zero os = R) := Lib.hid ⟨os, hos, hR⟩
  have HS := Lib.hid (RdAt.start (T := s.data.toList) ⟨os, hos, hR⟩)
  have hsz := list_size s
  have HL := Lib.hid hL
  clear hos hR hL
  generalize hT : s.data.toList = T at *
  have HT := Lib.hid hT
  clear hT os
  have hb0 := below2 w (.cells #[.int .i64 0, .int .i64 0, .slice none 0 0, .slice none 0 0, .slice none 0 0] 26) (.cells #[.int .i64 0, .int .i64 0, .slice none 0 0, .slice none 0 0, .slice none 0 0] 26)
  have kr := (CellsAt.new w [.int .i64 0, .int .i64 0, .slice none 0 0, .slice none 0 0, .slice none 0 0] 26).on_alloc (.cells #[.int .i64 0, .int .i64 0, .slice none 0 0, .slice none 0 0, .slice none 0 0] 26)
  have kp := CellsAt.new (w.alloc (.cells #[.int .i64 0, .int .i64 0, .slice none 0 0, .slice none 0 0, .slice none 0 0] 26)) [.int .i64 0, .int .i64 0, .slice none 0 0, .slice none 0 0, .slice none 0 0] 26
  rw [show (w.alloc (.cells #[.int .i64 0, .int .i64 0, .slice none 0 0, .slice none 0 0, .slice none 0 0] 26)).heap.size = w.heap.size + 1 by simp] at kp
  have hpa : PolAt (w.heap.size + 1) (w.heap.size + 1) .zero none 0 none 0 none 0 _ := ⟨Nat.le_refl _, kp, Own.nil _ _, by simp [Value.ownBlock], by simp [Value.ownBlock], by simp [Value.ownBlock]⟩
  go_enter Tryz.func34, Tryz.ntmps34
  go_wp2_with fail
  go_loopw [6, 7, 8] (fun la le nu wr => ∃ (k last : Nat) (p : Pl) (l : ByteArray) (A1 : Option Addr) (c1 : Nat) (A2 : Option Addr) (c2 : Nat) (A3 : Option Addr) (c3 : Nat), la = .int .i64 last ∧ le = .string l ∧ nu = .int .i64 k ∧ Hid (RdAt T R k last p l.data.toList) ∧ Below w.heap.size w wr ∧
    Hid (PolAt (w.heap.size + 1) (w.heap.size + 1) p A1 c1 A2 c2 A3 c3 wr) ∧ CellsAt wr w.heap.size [.int .i64 0, .int .i64 0, .slice none 0 0, .slice none 0 0, .slice none 0 0]) (fun _ le _ _ => textSize le)
  case atStart => exact ⟨0, 0, .zero, s, none, 0, none, 0, none, 0, rfl, rfl, rfl, Lib.hid (by rw [HT.out]; exact HS.out), hb0, Lib.hid hpa, kr⟩
  case round =>
    clear hb0 kp kr hpa HS
    obtain ⟨k, last, p, l, A1, c1, A2, c2, A3, c3, rfl, rfl, rfl, HA, hb0, HP, kr⟩ := hrel
    have hA := HA.out
    have b1 := hA.2.2.1
    have b2 := hA.2.2.2.1
    have b3 := hA.2.2.2.2.1
    have b4 := hA.2.2.2.2.2.1
    have b5 := hA.2.2.2.2.2.2.2
    rw [list_size] at b5
    have hsw := hb0.size
    have hlr := kr.1
    clear hA
    obtain ⟨bz, hbz⟩ : ∃ b, ((k : Int) == 0) = b := ⟨_, rfl⟩
    obtain ⟨be, hbe⟩ : ∃ b, l.toList.isEmpty = b := ⟨_, rfl⟩
    have hkz : bz = true ↔ k = 0 := by rw [← hbz, beq_iff_eq]; omega
    have HC := Lib.hid (fun w1 => cutB_c l 10 (by omega) w1)
    by_cases hend : bz = false ∧ be = true
    · obtain ⟨rfl, rfl⟩ := hend
      have hk0 : k ≠ 0 := fun e => by have := hkz.2 e; cases this
      obtain rfl := empty_of hbe
      have HEnd := Lib.hid (HA.out.done hk0)
      have HPU := Lib.hid HA.out.2.1
      have kp := HP.out.2.1
      have hown := HP.out.2.2.1
      obtain ⟨q1, q2, q3⟩ := row_apart hown (b := w.heap.size) (by omega)
      obtain ⟨p0, p1, p2, p3, p4, _⟩ := kp.five
      obtain ⟨r0, r1, r2, r3, r4, f0, f1, f2, f3, f4⟩ := kr.five
      obtain ⟨e0, e1, e2, e3, e4, _⟩ := (kr.put5 (.int .i64 p.rows) (.int .i64 p.cols) (.slice A1 p.zs.length c1) (.slice A2 p.us.length c2) (.slice A3 p.gs.length c3)).five
      have hbx := put5_below hb0 (b := w.heap.size) (Nat.le_refl _) (.int .i64 p.rows) (.int .i64 p.cols) (.slice A1 p.zs.length c1) (.slice A2 p.us.length c2) (.slice A3 p.gs.length c3)
      have HO := Lib.hid (hown.far (put5_grown wr w.heap.size (.int .i64 p.rows) (.int .i64 p.cols) (.slice A1 p.zs.length c1) (.slice A2 p.us.length c2) (.slice A3 p.gs.length c3)) q1 q2 q3)
      have lp := kp.1
      dsimp only [put5, put4] at e0 e1 e2 e3 e4 hbx HO
      clear kp kr hown HA HP HC hkz hb0 q1 q2 q3
      go_wp2
      exact bodyPost_ret (v := .tuple #[.agg #[.int .i64 p.rows, .int .i64 p.cols, .slice A1 p.zs.length c1, .slice A2 p.us.length c2, .slice A3 p.gs.length c3], .int .i64 0, .bool true]) (by simp [results, Tryz.results34, go_sem, e0, e1, e2, e3, e4]) rfl
        (.inl ⟨p, A1, c1, A2, c2, A3, c3, _, rfl, by rw [HEnd.out]; exact HR0.out, HPU.out, by omega, by omega, by omega, HO.out, Nat.le_succ _, hbx⟩)
    · have hgo : k = 0 ∨ l.data.toList ≠ [] := by
        cases bz
        · exact .inr (ne_of (by cases be; exact hbe; exact absurd ⟨rfl, rfl⟩ hend))
        · exact .inl (hkz.1 rfl)
      have HGo := Lib.hid hgo
      have hways : (((k : Int) == 0) = true) ∨ (((k : Int) == 0) = false ∧ l.toList.isEmpty = false) := by
        rw [hbz, hbe]
        cases bz <;> cases be <;> simp at hend ⊢
      have HAd := Lib.hid (fun (sa : ByteArray) (h : sa.size ≤ 100000) w1 h1 h2 => add_c (w.heap.size + 1) (w.heap.size + 1) p A1 c1 A2 c2 A3 c3 sa h (by omega) (by omega) (by omega) w1 h1 h2)
      clear hkz hend hgo hbz hbe bz be
      rcases hways with hbz | ⟨hbz, hbe⟩
      all_goals
        go_wp2_with fail
        refine (HC.out _).mono ?_
        rintro e w1 ⟨sa, sb, f, rfl, hc, hb1⟩
        obtain ⟨z1, z2⟩ := CutsAt.sizes hc
        have HCu := Lib.hid hc
        clear hc HC
        go_wp2_with fail
        refine (HAd.out sa (by omega) _ (HL.out.grown (on hb0 hb1)) (HP.out.on hb1)).mono ?_
        rintro e w2 ⟨kk, o, q, D1, d1, D2, d2, D3, d3, rfl, hLn, hP2, hb2, hsome, hnone⟩
        have hkk : kk ≤ 4 := by
          cases o with
          | none => rw [hnone rfl]; omega
          | some x => rw [(hsome x rfl).1]; cases x <;> simp [Ln.kind]
        have HLn := Lib.hid hLn
        have HP2 := Lib.hid hP2
        have HSo := Lib.hid hsome
        have HNo := Lib.hid hnone
        replace hb0 := (on hb0 hb1).trans (hb2.mono (show w.heap.size ≤ w.heap.size + 1 by omega))
        replace kr := CellsAt.under (kr.on hb1) hb2 (by omega)
        have lr2 := kr.1
        clear hLn hP2 hsome hnone hb1 hb2 HAd HP
        obtain ⟨r0, r1, r2, r3, r4, f0, f1, f2, f3, f4⟩ := kr.five
        obtain ⟨e0, e1, e2, e3, e4, _⟩ := (kr.put5 (.int .i64 0) (.int .i64 0) (.slice none 0 0) (.slice none 0 0) (.slice none 0 0)).five
        have hbx := put5_below hb0 (b := w.heap.size) (Nat.le_refl _) (.int .i64 0) (.int .i64 0) (.slice none 0 0) (.slice none 0 0) (.slice none 0 0)
        dsimp only [put5, put4] at e0 e1 e2 e3 e4 hbx
        have HSt := Lib.hid (fun w1 => stand_c kk last hkk b4 w1)
        rcases HCu.out with ⟨hcut, rfl⟩ | ⟨hcut, hsa, hsb, rfl⟩
        · obtain ⟨c1', c2'⟩ := of_cutAt hcut
          have hA := HA.out
          rw [c1'] at hA
          have hA2 := hA.hit c2' HLn.out kk q HSo.out HNo.out
          clear hA c1' c2' hcut HA HLn HSo HNo HCu
          rcases hA2 with ⟨hst, hRR⟩ | ⟨hst, _, hA3⟩
          · have HRR := Lib.hid hRR
            clear hRR
            rw [hst] at HSt
            clear hst HP2 kr
            go_wp2_with (go_at_call 56; refine (HSt.out _).mono ?_; rintro e w3 ⟨rfl, rfl⟩)
            exact bodyPost_ret (v := .tuple #[.agg #[.int .i64 0, .int .i64 0, .slice none 0 0, .slice none 0 0, .slice none 0 0], .int .i64 ((k : Int) + 1), .bool false]) (by simp [results, Tryz.results34, go_sem, e0, e1, e2, e3, e4]) rfl
              (.inr ⟨_, rfl, by rw [← HRR.out]; exact HR0.out, hbx⟩)
          · have HA3 := Lib.hid hA3
            clear hA3 hbx e0 e1 e2 e3 e4
            rw [hst] at HSt
            clear hst
            go_wp2_with (go_at_call 56; refine (HSt.out _).mono ?_; rintro e w3 ⟨rfl, rfl⟩)
            go_roundw
            case rel => exact ⟨k + 1, kk, q, sb, D1, d1, D2, d2, D3, d3, rfl, rfl, by go_num, HA3, hb0, HP2, kr⟩
            case measure => have := z2 trivial; simp [textSize]; omega
        · have hRR := HA.out.miss (Span.cutAt_no hcut) HGo.out
          have HRR := Lib.hid hRR
          clear hRR hcut HA HLn HSo HNo HCu HP2 kr HSt
          go_wp2_with fail
          exact bodyPost_ret (v := .tuple #[.agg #[.int .i64 0, .int .i64 0, .slice none 0 0, .slice none 0 0, .slice none 0 0], .int .i64 ((k : Int) + 1), .bool false]) (by simp [results, Tryz.results34, go_sem, e0, e1, e2, e3, e4]) rfl
            (.inr ⟨_, rfl, by rw [← HRR.out]; exact HR0.out, hbx⟩)
end Go.Proofs.YtmlmanlcomfhbaaGreatDoor.Pol
namespace Go.Proofs.YtmlmanlcomfhbaaGreatDoor.Pol
open Go.RowKit Kit Reg
open Go.Proofs.YtmlmanlcomfhbaaGreatDoor.Zone (Zn ZonesR)
open Go.Proofs.YtmlmanlcomfhbaaGreatDoor.Right (Us Gr UsersR GrantsR)
open Go.Proofs.YtmlmanlcomfhbaaGreatDoor.Addr (Libs)

/-- a reader's answer, as the program gives it -/
def PPEnd (T : List UInt8) (w : World) (e : Ending) (w' : World) : Prop :=
  ∃ (p : Pl) (m er : Int) (A1 : Option Addr) (n1 c1 : Nat) (A2 : Option Addr) (n2 c2 : Nat) (A3 : Option Addr) (n3 c3 : Nat),
    e = .returned (.tuple #[.agg #[.int .i64 p.rows, .int .i64 p.cols, .slice A1 n1 c1, .slice A2 n2 c2, .slice A3 n3 c3], .int .i64 m, .int .i64 er]) ∧ PolIs T (p, m, er) ∧ PU p ∧ n2 ≤ c2 ∧ ZonesR w' A1 n1 p.zs ∧ UsersR w' A2 n2 p.us ∧ GrantsR w' A3 n3 p.gs ∧ Below w.heap.size w w'
theorem PPEnd.bad {T : List UInt8} {w w' : World} {m er : Int} (h : PolIs T (.zero, m, er)) (hb : Below w.heap.size w w') : PPEnd T w (.returned (.tuple #[.agg #[.int .i64 0, .int .i64 0, .slice none 0 0, .slice none 0 0, .slice none 0 0], .int .i64 m, .int .i64 er])) w' :=
  ⟨.zero, m, er, none, 0, 0, none, 0, 0, none, 0, 0, rfl, h, PU.zero, Nat.le_refl _, ⟨rfl, by omega, fun z h => (nomatch h), fun h => absurd rfl h⟩, ⟨rfl, by omega, fun z h => (nomatch h), fun h => absurd rfl h⟩, ⟨rfl, by omega, fun z h => (nomatch h), fun h => absurd rfl h⟩, hb⟩
theorem PolIs.short {T : List UInt8} {r : Pl × Int × Int} (hl : ¬ 4000 < T.length) (h : ∃ os, AllIs (linesF T) os ∧ goF 1 0 .zero os = r) : PolIs T r := by
  rw [PolIs, if_neg hl]
  exact h
set_option maxRecDepth 100000 in
set_option maxHeartbeats 2000000 in
theorem parseP_long (s : ByteArray) (hlong : 4000 < s.size) (w : World) : Calls Tryz.prog 14 #[.string s] w (PPEnd s.data.toList w) := by
  have hsz := list_size s
  generalize s.data.toList = T at *
  have hb0 := below1 w (.cells #[.int .i64 0, .int .i64 0, .slice none 0 0, .slice none 0 0, .slice none 0 0] 26)
  have kr := CellsAt.new w [.int .i64 0, .int .i64 0, .slice none 0 0, .slice none 0 0, .slice none 0 0] 26
  have HI := Lib.hid (PolIs.long (s := T) (by omega))
  have hd : decide ((4000 : Int) < (s.size : Int)) = true := decide_eq_true (by omega)
  obtain ⟨e0, e1, e2, e3, e4, f0, f1, f2, f3, f4⟩ := kr.five
  have lr := kr.1
  clear kr
  go_enter Tryz.func14, Tryz.ntmps14
  go_wp2
  exact bodyPost_ret (v := .tuple #[.agg #[.int .i64 0, .int .i64 0, .slice none 0 0, .slice none 0 0, .slice none 0 0], .int .i64 0, .int .i64 3]) (by simp [results, Tryz.results14, go_sem, e0, e1, e2, e3, e4]) rfl (PPEnd.bad HI.out hb0)
set_option maxRecDepth 100000 in
set_option maxHeartbeats 4000000 in
theorem parseP_in (s : ByteArray) (hlong : ¬ 4000 < s.size) (w : World) (hL : PLibs w) : Calls Tryz.prog 14 #[.string s] w (PPEnd s.data.toList w) := by
  have HR := Lib.hid (fun w1 h => read_c s (by omega) w1 h)
  have HL := Lib.hid hL
  have hsz := list_size s
  clear hL
  generalize s.data.toList = T at *
  have hb0 := below1 w (.cells #[.int .i64 0, .int .i64 0, .slice none 0 0, .slice none 0 0, .slice none 0 0] 26)
  have kr := CellsAt.new w [.int .i64 0, .int .i64 0, .slice none 0 0, .slice none 0 0, .slice none 0 0] 26
  have hd : decide ((4000 : Int) < (s.size : Int)) = false := decide_eq_false (by omega)
  go_enter Tryz.func14, Tryz.ntmps14
  go_wp2_with fail
  refine (HR.out _ (HL.out.grown hb0)).mono ?_
  rintro e w1 hrd
  rcases hrd with ⟨p, A1, c1, A2, c2, A3, c3, B, rfl, hos, hpu, m1, m2, m3, hown, hB, hb1⟩ | ⟨m, rfl, hos, hb1⟩
  · have HOs := Lib.hid hos
    have HPU := Lib.hid hpu
    obtain ⟨wa, we, hwp⟩ : ∃ a b, wrongP p = (a, b) := ⟨_, _, rfl⟩
    have hb2 := below1 w1 (.cells #[.int .i64 p.rows, .int .i64 p.cols, .slice A1 p.zs.length c1, .slice A2 p.us.length c2, .slice A3 p.gs.length c3] 26)
    obtain ⟨A1', c1', A2', c2', A3', c3', e1, e2, e3, hnc, hz, hu, hg⟩ := (hown.on hb2).reads hpu (by omega) (by omega) (by omega)
    simp only [Value.slice.injEq, true_and] at e1 e2 e3
    obtain ⟨rfl, rfl⟩ := e1
    obtain ⟨rfl, rfl⟩ := e2
    obtain ⟨rfl, rfl⟩ := e3
    have HO := Lib.hid (hown.on hb2)
    have hB2 : w.heap.size < B := by simp at hB; omega
    have HZ := Lib.hid hz
    have HU := Lib.hid hu
    have HG := Lib.hid hg
    have HW := Lib.hid (fun w2 h1 h2 h3 => wrongP_c p A1 p.zs.length c1 A2 p.us.length c2 A3 p.gs.length c3 hnc w2 h1 h2 h3)
    simp only [hwp] at HW
    have kq := CellsAt.new w1 [.int .i64 p.rows, .int .i64 p.cols, .slice A1 p.zs.length c1, .slice A2 p.us.length c2, .slice A3 p.gs.length c3] 26
    change CellsAt (w1.alloc (.cells #[.int .i64 p.rows, .int .i64 p.cols, .slice A1 p.zs.length c1, .slice A2 p.us.length c2, .slice A3 p.gs.length c3] 26)) w1.heap.size [.int .i64 p.rows, .int .i64 p.cols, .slice A1 p.zs.length c1, .slice A2 p.us.length c2, .slice A3 p.gs.length c3] at kq
    replace hb2 := on hb1 hb2
    replace kr := kr.on hb2
    replace hb0 := on hb0 hb2
    clear hos hpu hz hu hg hown hb1 hb2 HR hB
    go_wp2_with fail
    generalize w1.alloc (.cells #[.int .i64 p.rows, .int .i64 p.cols, .slice A1 p.zs.length c1, .slice A2 p.us.length c2, .slice A3 p.gs.length c3] 26) = X at *
    generalize w1.heap.size = bq at *
    obtain ⟨q0, q1, q2, q3, q4, _⟩ := kq.five
    have lq := kq.1
    go_wp2_with fail
    refine (HW.out _ HZ.out HU.out HG.out).mono ?_
    rintro e w3 ⟨rfl, hb3⟩
    replace kr := kr.on hb3
    replace kq := kq.on hb3
    replace hb0 := on hb0 hb3
    replace HO := Lib.hid (HO.out.on hb3)
    have hsw := hb0.size
    clear hb3 HW q0 q1 q2 q3 q4 lq HZ HU HG
    obtain ⟨r0, r1, r2, r3, r4, f0, f1, f2, f3, f4⟩ := kr.five
    obtain ⟨q0, q1, q2, q3, q4, _⟩ := kq.five
    have lq := kq.1
    have lr := kr.1
    by_cases hwe : we = 0
    · have hn : (we == 0) = true := by rw [hwe]; rfl
      have HI : Hid (PolIs T (p, 0, 0)) := Lib.hid (PolIs.short (by omega) (by
        obtain ⟨os, h1, h2⟩ := HOs.out
        exact ⟨os, h1, by rw [h2, endP, hwp, if_pos hwe]⟩))
      obtain ⟨e0, e1, e2, e3, e4, _⟩ := (kr.put5 (.int .i64 p.rows) (.int .i64 p.cols) (.slice A1 p.zs.length c1) (.slice A2 p.us.length c2) (.slice A3 p.gs.length c3)).five
      have hbx := put5_below hb0 (b := w.heap.size) (Nat.le_refl _) (.int .i64 p.rows) (.int .i64 p.cols) (.slice A1 p.zs.length c1) (.slice A2 p.us.length c2) (.slice A3 p.gs.length c3)
      obtain ⟨h1, h2, h3⟩ := row_apart HO.out hB2
      obtain ⟨A1', c1', A2', c2', A3', c3', g1, g2, g3, hnc2, hz, hu, hg⟩ := (HO.out.far (put5_grown w3 w.heap.size (.int .i64 p.rows) (.int .i64 p.cols) (.slice A1 p.zs.length c1) (.slice A2 p.us.length c2) (.slice A3 p.gs.length c3)) h1 h2 h3).reads HPU.out (by omega) (by omega) (by omega)
      simp only [Value.slice.injEq, true_and] at g1 g2 g3
      obtain ⟨rfl, rfl⟩ := g1
      obtain ⟨rfl, rfl⟩ := g2
      obtain ⟨rfl, rfl⟩ := g3
      have KZ := Lib.hid hz
      have KU := Lib.hid hu
      have KG := Lib.hid hg
      dsimp only [put5, put4] at e0 e1 e2 e3 e4 hbx KZ KU KG
      clear kr kq HOs hwp HO h1 h2 h3 hz hu hg
      go_wp2
      exact bodyPost_ret (v := .tuple #[.agg #[.int .i64 p.rows, .int .i64 p.cols, .slice A1 p.zs.length c1, .slice A2 p.us.length c2, .slice A3 p.gs.length c3], .int .i64 0, .int .i64 0]) (by simp [results, Tryz.results14, go_sem, e0, e1, e2, e3, e4]) rfl
        ⟨p, 0, 0, A1, p.zs.length, c1, A2, p.us.length, c2, A3, p.gs.length, c3, rfl, HI.out, HPU.out, hnc, KZ.out, KU.out, KG.out, hbx⟩
    · have hn : (we == 0) = false := by rw [beq_eq_false_iff_ne]; exact hwe
      have HI : Hid (PolIs T (.zero, wa, we)) := Lib.hid (PolIs.short (by omega) (by
        obtain ⟨os, h1, h2⟩ := HOs.out
        exact ⟨os, h1, by rw [h2, endP, hwp, if_neg hwe]⟩))
      obtain ⟨e0, e1, e2, e3, e4, _⟩ := (kr.put5 (.int .i64 0) (.int .i64 0) (.slice none 0 0) (.slice none 0 0) (.slice none 0 0)).five
      have hbx := put5_below hb0 (b := w.heap.size) (Nat.le_refl _) (.int .i64 0) (.int .i64 0) (.slice none 0 0) (.slice none 0 0) (.slice none 0 0)
      dsimp only [put5, put4] at e0 e1 e2 e3 e4 hbx
      clear kr kq HO HPU HOs hwp
      go_wp2
      exact bodyPost_ret (v := .tuple #[.agg #[.int .i64 0, .int .i64 0, .slice none 0 0, .slice none 0 0, .slice none 0 0], .int .i64 wa, .int .i64 we]) (by simp [results, Tryz.results14, go_sem, e0, e1, e2, e3, e4]) rfl (PPEnd.bad HI.out hbx)
  · have HI := Lib.hid (PolIs.short (T := T) (by omega) hos)
    replace kr := kr.on hb1
    replace hb0 := on hb0 hb1
    replace kr := kr.on (below1 w1 (.cells #[.int .i64 0, .int .i64 0, .slice none 0 0, .slice none 0 0, .slice none 0 0] 26))
    replace hb0 := on hb0 (below1 w1 (.cells #[.int .i64 0, .int .i64 0, .slice none 0 0, .slice none 0 0, .slice none 0 0] 26))
    obtain ⟨r0, r1, r2, r3, r4, f0, f1, f2, f3, f4⟩ := kr.five
    obtain ⟨e0, e1, e2, e3, e4, _⟩ := (kr.put5 (.int .i64 0) (.int .i64 0) (.slice none 0 0) (.slice none 0 0) (.slice none 0 0)).five
    have hbx := put5_below hb0 (b := w.heap.size) (Nat.le_refl _) (.int .i64 0) (.int .i64 0) (.slice none 0 0) (.slice none 0 0) (.slice none 0 0)
    have lr := kr.1
    dsimp only [put5, put4] at e0 e1 e2 e3 e4 hbx
    clear kr hos hb1 HR
    go_wp2
    exact bodyPost_ret (v := .tuple #[.agg #[.int .i64 0, .int .i64 0, .slice none 0 0, .slice none 0 0, .slice none 0 0], .int .i64 m, .int .i64 1]) (by simp [results, Tryz.results14, go_sem, e0, e1, e2, e3, e4]) rfl (PPEnd.bad HI.out hbx)
theorem parseP_c (s : ByteArray) (w : World) (hL : PLibs w) : Calls Tryz.prog 14 #[.string s] w (PPEnd s.data.toList w) := by
  by_cases h : 4000 < s.size
  · exact parseP_long s h w
  · exact parseP_in s h w hL
end Go.Proofs.YtmlmanlcomfhbaaGreatDoor.Pol
namespace Go.Proofs.YtmlmanlcomfhbaaGreatDoor.Pol
open Go.RowKit Kit Reg
open Go.Proofs.YtmlmanlcomfhbaaGreatDoor.Zone (Zn ZonesR)
open Go.Proofs.YtmlmanlcomfhbaaGreatDoor.Right (Us Gr UsersR GrantsR)
open Go.Proofs.YtmlmanlcomfhbaaGreatDoor.Cats (U U_zero)
open Go.Proofs.YtmlmanlcomfhbaaGreatDoor.Addr (Libs)

def annN : ByteArray := ⟨#[97, 110, 110]⟩
def lifeP : Pl := ⟨5, 4, [⟨0, 0, 1, 1, 2, 1⟩], [⟨annN, 15, Cats.allN⟩], [⟨annN, 3, 0, 1, 0⟩]⟩
def lifeT : ByteArray := ⟨#[103, 114, 105, 100, 32, 53, 32, 52, 10, 122, 111, 110, 101, 32, 65, 49, 58, 66, 50, 32, 50, 58, 48, 10, 117, 115, 101, 114, 32, 97, 110, 110, 32, 116, 111, 112, 10, 103, 114, 97, 110, 116, 32, 97, 110, 110, 32, 51, 32, 49, 10]⟩
def badT : ByteArray := ⟨#[103, 114, 105, 100, 32, 53, 32, 52, 10, 117, 115, 101, 114, 32, 97, 110, 110, 32, 49, 10, 122, 111, 110, 101, 32, 65, 49, 32, 49, 10]⟩
theorem U_one : U 1 := by unfold Cats.U; decide
theorem life_find : Right.findI lifeP.us annN 0 = 0 := by
  show Right.findI [⟨annN, 15, Cats.allN⟩] annN 0 = 0
  rw [Right.findI, if_pos (Right.name_refl _)]
  rfl
theorem life_users : Right.wrongU lifeP.us 0 lifeP.us = (0, 0) := by
  show Right.wrongU lifeP.us 0 [⟨annN, 15, Cats.allN⟩] = (0, 0)
  have h : Right.whyU 0 ⟨annN, 15, Cats.allN⟩ (Right.findI lifeP.us annN 0) = 0 := by rw [life_find]; decide +kernel
  rw [Right.wrongU, if_pos h]
  rfl
theorem life_grants : Right.wrongG lifeP.us 0 lifeP.gs = (0, 0) := by
  show Right.wrongG lifeP.us 0 [⟨annN, 3, 0, 1, 0⟩] = (0, 0)
  have h : Right.whyG 0 ⟨annN, 3, 0, 1, 0⟩ lifeP.us = 0 := by
    unfold Right.whyG
    rw [life_find]
    decide +kernel
  rw [Right.wrongG, if_pos h]
  rfl
theorem life_zones : Zone.wrongF 0 lifeP.zs lifeP.rows lifeP.cols = (0, 0) := by decide +kernel
theorem life_ok : (wrongP lifeP).2 = 0 := by
  unfold wrongP
  rw [if_neg (by decide +kernel), life_zones, life_users, life_grants]
  rfl
theorem life_text : textP lifeP = lifeT.data.toList := by
  rw [textP, if_pos life_ok]
  decide +kernel
theorem life_PU : PU lifeP := by
  refine ⟨fun z hz => ?_, fun z hz => ?_, fun z hz => ?_⟩
  · obtain rfl : z = ⟨0, 0, 1, 1, 2, 1⟩ := by simpa [lifeP] using hz
    exact U_one
  · obtain rfl : z = ⟨annN, 15, Cats.allN⟩ := by simpa [lifeP] using hz
    exact Cats.U_all
  · obtain rfl : z = ⟨annN, 3, 0, 1, 0⟩ := by simpa [lifeP] using hz
    exact ⟨U_zero, U_zero⟩
theorem life_is : PolIs lifeT.data.toList (lifeP, 0, 0) := by
  have h := PolIs.of_text life_PU life_ok (by rw [life_text]; decide)
  rwa [life_text] at h
theorem bad_lines : linesF badT.data.toList = [(Ln.grid 5 4).text, (Ln.user ⟨annN, 1, 0⟩).text, (Ln.zone ⟨0, 0, 0, 0, 1, 0⟩).text] := by decide +kernel
theorem bad_is : PolIs badT.data.toList (.zero, 3, 1) := by
  rw [PolIs, if_neg (by decide)]
  refine ⟨[some (.grid 5 4), some (.user ⟨annN, 1, 0⟩), some (.zone ⟨0, 0, 0, 0, 1, 0⟩)], ?_, ?_⟩
  · rw [bad_lines]
    exact ⟨⟨⟨by decide, by decide⟩, rfl⟩, ⟨⟨by decide, by decide, by decide, U_zero⟩, rfl⟩, ⟨⟨by decide +kernel, by decide, by decide, U_zero⟩, rfl⟩, trivial⟩
  · rw [goF, if_neg (by simp [Ln.kind]), goF, if_neg (by simp [Ln.kind]), goF, if_pos (by simp [Ln.kind])]
    rfl
theorem parse_life (w : World) (hL : PLibs w) : Calls Tryz.prog 14 #[.string lifeT] w fun e w' => ∃ (A1 : Option Addr) (c1 : Nat) (A2 : Option Addr) (c2 : Nat) (A3 : Option Addr) (c3 : Nat),
    e = .returned (.tuple #[.agg #[.int .i64 5, .int .i64 4, .slice A1 1 c1, .slice A2 1 c2, .slice A3 1 c3], .int .i64 0, .int .i64 0]) ∧ Below w.heap.size w w' :=
  (parseP_c lifeT w hL).mono fun e w' ⟨p, m, er, A1, n1, c1, A2, n2, c2, A3, n3, c3, he, hi, _, _, hz, hu, hg, hb⟩ => by
    have h := hi.unique life_is
    simp only [Prod.mk.injEq] at h
    obtain ⟨rfl, rfl, rfl⟩ := h
    obtain rfl : 1 = n1 := hz.1
    obtain rfl : 1 = n2 := hu.1
    obtain rfl : 1 = n3 := hg.1
    exact ⟨A1, c1, A2, c2, A3, c3, he, hb⟩
theorem parse_bad (w : World) (hL : PLibs w) : Calls Tryz.prog 14 #[.string badT] w fun e w' => ∃ (A1 : Option Addr) (c1 : Nat) (A2 : Option Addr) (c2 : Nat) (A3 : Option Addr) (c3 : Nat),
    e = .returned (.tuple #[.agg #[.int .i64 0, .int .i64 0, .slice A1 0 c1, .slice A2 0 c2, .slice A3 0 c3], .int .i64 3, .int .i64 1]) ∧ Below w.heap.size w w' :=
  (parseP_c badT w hL).mono fun e w' ⟨p, m, er, A1, n1, c1, A2, n2, c2, A3, n3, c3, he, hi, _, _, hz, hu, hg, hb⟩ => by
    have h := hi.unique bad_is
    simp only [Prod.mk.injEq] at h
    obtain ⟨rfl, rfl, rfl⟩ := h
    obtain rfl : 0 = n1 := hz.1
    obtain rfl : 0 = n2 := hu.1
    obtain rfl : 0 = n3 := hg.1
    exact ⟨A1, c1, A2, c2, A3, c3, he, hb⟩
set_option maxRecDepth 100000 in
set_option maxHeartbeats 4000000 in
theorem alive_c (w : World) (hL : PLibs w) : Calls Tryz.prog 7 #[] w fun e w' => e = .returned (.bool true) ∧ Below w.heap.size w w' := by
  have H1 := Lib.hid parse_life
  have H2 := Lib.hid parse_bad
  have HL := Lib.hid hL
  have HI1 : Hid (∀ (v1 v2 v3 : Value) (w1 : World), Calls Tryz.prog 10 #[.agg #[.int .i64 5, .int .i64 4, v1, v2, v3], .agg #[.int .i64 4, .int .i64 3]] w1 fun e w' => e = .returned (.bool true) ∧ Below w1.heap.size w1 w') := Lib.hid fun v1 v2 v3 w1 => in_c 5 4 4 3 v1 v2 v3 w1
  have HI2 : Hid (∀ (v1 v2 v3 : Value) (w1 : World), Calls Tryz.prog 10 #[.agg #[.int .i64 5, .int .i64 4, v1, v2, v3], .agg #[.int .i64 4, .int .i64 4]] w1 fun e w' => e = .returned (.bool false) ∧ Below w1.heap.size w1 w') := Lib.hid fun v1 v2 v3 w1 => in_c 5 4 4 4 v1 v2 v3 w1
  clear hL
  go_enter Tryz.func7, Tryz.ntmps7
  go_wp2_with fail
  refine (H1.out _ HL.out).mono ?_
  rintro e w1 ⟨A1, c1, A2, c2, A3, c3, rfl, hb1⟩
  have kq := CellsAt.new w1 [.int .i64 5, .int .i64 4, .slice A1 1 c1, .slice A2 1 c2, .slice A3 1 c3] 26
  change CellsAt (w1.alloc (.cells #[.int .i64 5, .int .i64 4, .slice A1 1 c1, .slice A2 1 c2, .slice A3 1 c3] 26)) w1.heap.size [.int .i64 5, .int .i64 4, .slice A1 1 c1, .slice A2 1 c2, .slice A3 1 c3] at kq
  have hb0 := on hb1 (below1 w1 (.cells #[.int .i64 5, .int .i64 4, .slice A1 1 c1, .slice A2 1 c2, .slice A3 1 c3] 26))
  clear hb1
  go_wp2_with fail
  generalize w1.alloc (.cells #[.int .i64 5, .int .i64 4, .slice A1 1 c1, .slice A2 1 c2, .slice A3 1 c3] 26) = X at *
  generalize w1.heap.size = b at *
  refine (H2.out _ (HL.out.grown hb0)).mono ?_
  rintro e w2 ⟨D1, d1, D2, d2, D3, d3, rfl, hb2⟩
  replace hb2 := on hb2 (below1 w2 (.cells #[.int .i64 0, .int .i64 0, .slice D1 0 d1, .slice D2 0 d2, .slice D3 0 d3] 26))
  replace hb0 := on hb0 hb2
  replace kq := kq.on hb2
  clear hb2
  obtain ⟨q0, q1, q2, q3, q4, _⟩ := kq.five
  have lq := kq.1
  go_wp2_with fail
  generalize w2.alloc (.cells #[.int .i64 0, .int .i64 0, .slice D1 0 d1, .slice D2 0 d2, .slice D3 0 d3] 26) = Y at *
  refine (HI1.out _ _ _ _).mono ?_
  rintro e w3 ⟨rfl, hb3⟩
  replace hb0 := on hb0 hb3
  replace kq := kq.on hb3
  clear hb3 q0 q1 q2 q3 q4 lq
  obtain ⟨q0, q1, q2, q3, q4, _⟩ := kq.five
  have lq := kq.1
  go_wp2_with fail
  refine (HI2.out _ _ _ _).mono ?_
  rintro e w4 ⟨rfl, hb4⟩
  go_wp2
  go_ret
  exact ⟨rfl, on hb0 hb4⟩
set_option maxRecDepth 100000 in
set_option maxHeartbeats 2000000 in
theorem small_c (r c : Int) (A1 : Option Addr) (n1 c1 : Nat) (A2 : Option Addr) (n2 c2 : Nat) (A3 : Option Addr) (n3 c3 : Nat) (b : Bool) (hb : (decide (n1 ≤ 50) && decide (n2 ≤ 30) && decide (n3 ≤ 50)) = b) (w : World) :
    Calls Tryz.prog 6 #[.agg #[.int .i64 r, .int .i64 c, .slice A1 n1 c1, .slice A2 n2 c2, .slice A3 n3 c3]] w fun e w' => e = .returned (.bool b) ∧ Below w.heap.size w w' := by
  have hb0 := below1 w (.cells #[.int .i64 r, .int .i64 c, .slice A1 n1 c1, .slice A2 n2 c2, .slice A3 n3 c3] 26)
  obtain ⟨b1, e1⟩ : ∃ b, decide ((n1 : Int) ≤ 50) = b := ⟨_, rfl⟩
  obtain ⟨b2, e2⟩ : ∃ b, decide ((n2 : Int) ≤ 30) = b := ⟨_, rfl⟩
  obtain ⟨b3, e3⟩ : ∃ b, decide ((n3 : Int) ≤ 50) = b := ⟨_, rfl⟩
  have f1 : decide (n1 ≤ 50) = b1 := by rw [← e1, decide_eq_decide]; omega
  have f2 : decide (n2 ≤ 30) = b2 := by rw [← e2, decide_eq_decide]; omega
  have f3 : decide (n3 ≤ 50) = b3 := by rw [← e3, decide_eq_decide]; omega
  rw [f1, f2, f3] at hb
  subst hb
  cases b1 <;> cases b2 <;> cases b3
  all_goals
    go_enter Tryz.func6, Tryz.ntmps6
    go_wp2
    go_ret
    exact ⟨rfl, hb0⟩
end Go.Proofs.YtmlmanlcomfhbaaGreatDoor.Pol
