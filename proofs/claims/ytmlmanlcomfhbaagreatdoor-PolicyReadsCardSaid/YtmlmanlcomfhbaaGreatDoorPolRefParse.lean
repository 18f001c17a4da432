/- What the reference's Parse of a policy answers: for any text of at most 5000 bytes. -/
import Derived.Test.YtmlmanlcomfhbaaGreatDoorPolLineC
import Derived.Test.YtmlmanlcomfhbaaGreatDoorGm
import Derived.Test.YtmlmanlcomfhbaaGreatDoorGl
namespace Go.Proofs.YtmlmanlcomfhbaaGreatDoor.Pol
open Go.RowKit Kit Reg
open Go.Proofs.YtmlmanlcomfhbaaGreatDoor.Zone (Zn ZonesR)
open Go.Proofs.YtmlmanlcomfhbaaGreatDoor.Right (Us Gr UsersR GrantsR OwnS strs StrsR)
open Go.Proofs.YtmlmanlcomfhbaaGreatDoor.Cats (U U_zero)

/-- a policy's block is no row's -/
theorem Own.no_row {B : Nat} {p : Pl} {vz vu vg : Value} {w : World} (h : Own B p vz vu vg w) {b : Nat} {cs : Array Value} {f : Nat × Nat} (hb : w.heap[b]? = some (.cells cs 26 f)) : vz.ownBlock ≠ some b ∧ vu.ownBlock ≠ some b ∧ vg.ownBlock ≠ some b := by
  refine ⟨fun e => ?_, fun e => ?_, fun e => ?_⟩
  · rcases h.z.2 with ⟨rfl, _⟩ | ⟨g, cap, cur, rfl, _, hg, _⟩
    · simp [Value.ownBlock] at e
    · simp only [Value.ownBlock, Option.some.injEq] at e
      subst e
      rw [hg] at hb
      simp at hb
  · rcases h.u.2 with ⟨rfl, _⟩ | ⟨g, cap, cur, rfl, _, hg, _⟩
    · simp [Value.ownBlock] at e
    · simp only [Value.ownBlock, Option.some.injEq] at e
      subst e
      rw [hg] at hb
      simp at hb
  · rcases h.g.2 with ⟨rfl, _⟩ | ⟨g, cap, cur, rfl, _, hg, _⟩
    · simp [Value.ownBlock] at e
    · simp only [Value.ownBlock, Option.some.injEq] at e
      subst e
      rw [hg] at hb
      simp at hb
/-- a reader's answer -/
def RPEnd (T : List UInt8) (w : World) (e : Ending) (w' : World) : Prop :=
  ∃ (p : Pl) (m er : Int) (A1 : Option Addr) (n1 c1 : Nat) (A2 : Option Addr) (n2 c2 : Nat) (A3 : Option Addr) (n3 c3 : Nat),
    e = .returned (.agg #[.int .i64 p.rows, .int .i64 p.cols, .slice A1 n1 c1, .slice A2 n2 c2, .slice A3 n3 c3, .int .i64 m, .int .i64 er]) ∧ PolIs T (p, m, er) ∧ PU p ∧ n2 ≤ c2 ∧ ZonesR w' A1 n1 p.zs ∧ UsersR w' A2 n2 p.us ∧ GrantsR w' A3 n3 p.gs ∧ Below w.heap.size w w'
theorem RPEnd.bad {T : List UInt8} {w w' : World} {m er : Int} (h : PolIs T (.zero, m, er)) (hb : Below w.heap.size w w') : RPEnd T w (.returned (.agg #[.int .i64 0, .int .i64 0, .slice none 0 0, .slice none 0 0, .slice none 0 0, .int .i64 m, .int .i64 er])) w' :=
  ⟨.zero, m, er, none, 0, 0, none, 0, 0, none, 0, 0, rfl, h, PU.zero, Nat.le_refl _, ⟨rfl, by omega, fun z h => (nomatch h), fun h => absurd rfl h⟩, ⟨rfl, by omega, fun z h => (nomatch h), fun h => absurd rfl h⟩, ⟨rfl, by omega, fun z h => (nomatch h), fun h => absurd rfl h⟩, hb⟩
theorem CellsAt.seven {w : World} {b : Nat} {x y z u v s t : Value} (h : CellsAt w b [x, y, z, u, v, s, t]) : w.cell? ⟨b, 0, none⟩ = some x ∧ w.cell? ⟨b, 1, none⟩ = some y ∧ w.cell? ⟨b, 2, none⟩ = some z ∧ w.cell? ⟨b, 3, none⟩ = some u ∧ w.cell? ⟨b, 4, none⟩ = some v ∧ w.cell? ⟨b, 5, none⟩ = some s ∧ w.cell? ⟨b, 6, none⟩ = some t ∧
    w.frozen? ⟨b, 0, none⟩ = false ∧ w.frozen? ⟨b, 1, none⟩ = false ∧ w.frozen? ⟨b, 2, none⟩ = false ∧ w.frozen? ⟨b, 3, none⟩ = false ∧ w.frozen? ⟨b, 4, none⟩ = false ∧ w.frozen? ⟨b, 5, none⟩ = false ∧ w.frozen? ⟨b, 6, none⟩ = false :=
  ⟨(h.2 0 x rfl).1, (h.2 1 y rfl).1, (h.2 2 z rfl).1, (h.2 3 u rfl).1, (h.2 4 v rfl).1, (h.2 5 s rfl).1, (h.2 6 t rfl).1, (h.2 0 x rfl).2, (h.2 1 y rfl).2, (h.2 2 z rfl).2, (h.2 3 u rfl).2, (h.2 4 v rfl).2, (h.2 5 s rfl).2, (h.2 6 t rfl).2⟩
abbrev put7 (w : World) (b : Nat) (x y z u v s t : Value) : World := ((put5 w b x y z u v).setCell ⟨b, 5, none⟩ s).setCell ⟨b, 6, none⟩ t
theorem CellsAt.put7 {w : World} {b : Nat} {a c d e f g h' : Value} (h : CellsAt w b [a, c, d, e, f, g, h']) (x y z u v s t : Value) : CellsAt (Pol.put7 w b x y z u v s t) b [x, y, z, u, v, s, t] :=
  ((((((h.set (i := 0) (by simp) x).set (i := 1) (by simp) y).set (i := 2) (by simp) z).set (i := 3) (by simp) u).set (i := 4) (by simp) v).set (i := 5) (by simp) s).set (i := 6) (by simp) t
theorem put7_grown (w : World) (b : Nat) (x y z u v s t : Value) : w.grownBy (Pol.put7 w b x y z u v s t) (some b) :=
  set_grown_on (set_grown_on (put5_grown w b x y z u v) ⟨b, 5, none⟩ rfl s) ⟨b, 6, none⟩ rfl t
theorem put7_below {w w' : World} (hb : Below w.heap.size w w') {b : Nat} (hB : w.heap.size ≤ b) (x y z u v s t : Value) : Below w.heap.size w (Pol.put7 w' b x y z u v s t) :=
  ((put5_below hb hB x y z u v).setCell (p := ⟨b, 5, none⟩) hB s).setCell (p := ⟨b, 6, none⟩) hB t

set_option maxRecDepth 100000 in
set_option maxHeartbeats 2000000 in
theorem rparseP_long (s : ByteArray) (hl : 4000 < s.size) (w : World) : Calls Tryz.prog 16 #[.string s] w (RPEnd s.data.toList w) := by
  have hd : decide (4000 < (s.size : Int)) = true := decide_eq_true (by omega)
  have hd2 : decide (4000 < s.size) = true := decide_eq_true hl
  have HP := Lib.hid (PolIs.long (s := s.data.toList) (by rw [list_size]; exact hl))
  have hbx := below1 w (.cells #[.int .i64 0, .int .i64 0, .slice none 0 0, .slice none 0 0, .slice none 0 0, .int .i64 0, .int .i64 3] 43)
  obtain ⟨e0, e1, e2, e3, e4, e5, e6, _⟩ := CellsAt.seven (CellsAt.new w [.int .i64 0, .int .i64 0, .slice none 0 0, .slice none 0 0, .slice none 0 0, .int .i64 0, .int .i64 3] 43)
  generalize s.data.toList = T at *
  clear hl
  go_enter Tryz.func16, Tryz.ntmps16
  go_wp2
  exact bodyPost_ret (v := .agg #[.int .i64 0, .int .i64 0, .slice none 0 0, .slice none 0 0, .slice none 0 0, .int .i64 0, .int .i64 3]) (by simp [results, Tryz.results16, go_sem, e0, e1, e2, e3, e4, e5, e6]) rfl (RPEnd.bad HP.out hbx)
/-- what stands between two lines -/
def LoopAt (B : Nat) (os : List (Option Ln)) (R : Pl × Int × Int) (k last : Nat) (p : Pl) (A1 : Option Addr) (c1 : Nat) (A2 : Option Addr) (c2 : Nat) (A3 : Option Addr) (c3 : Nat) (w : World) : Prop :=
  goF (k + 1) last p (os.drop k) = R ∧ Own B p (.slice A1 p.zs.length c1) (.slice A2 p.us.length c2) (.slice A3 p.gs.length c3) w ∧ PU p ∧ p.zs.length ≤ k ∧ p.us.length ≤ k ∧ p.gs.length ≤ k
/-- the lines, as they lie in memory -/
def LinesAt (ls : List (List UInt8)) (g : Nat) (w : World) : Prop := ∀ (k : Nat) (l : List UInt8), ls[k]? = some l → w.cell? ⟨g, k, none⟩ = some (.string ⟨l.toArray⟩)
theorem LinesAt.grown {ls : List (List UInt8)} {g : Nat} {w w' : World} {row : Option Nat} (h : LinesAt ls g w) (hg : w.grownBy w' row) (hne : some g ≠ row) : LinesAt ls g w' := fun k l hk => hg.cell (h k l hk) hne
theorem row_far {B : Nat} {p : Pl} {vz vu vg : Value} {w : World} {row : Option Nat} (h : Own B p vz vu vg w) (hr : row = none ∨ row = vz.ownBlock ∨ row = vu.ownBlock ∨ row = vg.ownBlock) : ∀ b, b < B → some b ≠ row := by
  rintro b hb e
  rcases hr with rfl | rfl | rfl | rfl
  · cases e
  · have := (h.z.lt b e.symm).1; omega
  · have := (h.u.lt b e.symm).1; omega
  · have := (h.g.lt b e.symm).1; omega
theorem row_old {B : Nat} {p : Pl} {vz vu vg : Value} {w : World} {row : Option Nat} (h : Own B p vz vu vg w) (hr : row = none ∨ row = vz.ownBlock ∨ row = vu.ownBlock ∨ row = vg.ownBlock) : ∀ b, w.heap.size ≤ b → some b ≠ row := by
  rintro b hb e
  rcases hr with rfl | rfl | rfl | rfl
  · cases e
  · have := (h.z.lt b e.symm).2; omega
  · have := (h.u.lt b e.symm).2; omega
  · have := (h.g.lt b e.symm).2; omega
theorem drop_os {os : List (Option Ln)} {k : Nat} {o : Option Ln} (h : os[k]? = some o) : os.drop k = o :: os.drop (k + 1) := by
  obtain ⟨hk, rfl⟩ := List.getElem?_eq_some_iff.1 h
  exact List.drop_eq_getElem_cons hk
theorem own_len {B k : Nat} {e : TypeId} {A : Option Addr} {n c m : Nat} {xs : List Value} {w : World} (h : w.ownsRow B e k (.slice A n c) m xs) : n = m := by
  rcases h.2 with ⟨e1, e2⟩ | ⟨g, cap, cur, e1, _⟩
  · simp only [Value.slice.injEq] at e1; omega
  · simp only [Value.slice.injEq] at e1; exact e1.2.1
set_option maxRecDepth 100000 in
set_option maxHeartbeats 4000000 in
theorem rparseP_in (s : ByteArray) (hl : s.size ≤ 4000) (w : World) : Calls Tryz.prog 16 #[.string s] w (RPEnd s.data.toList w) := by
  have hd : decide (4000 < (s.size : Int)) = false := decide_eq_false (by omega)
  have hd2 : decide (4000 < s.size) = false := decide_eq_false (by omega)
  obtain ⟨os, hos⟩ := AllIs.some_one (linesF s.data.toList)
  have HP : Hid (PolIs s.data.toList (goF 1 0 .zero os)) := Lib.hid (by rw [PolIs, if_neg (by rw [list_size]; omega)]; exact ⟨os, hos, rfl⟩)
  have HLs := Lib.hid (fun w1 => rlines_c s (by omega) w1)
  have hfl : ∀ l ∈ linesF s.data.toList, l.length ≤ 4000 := by
    intro l hm
    have h1 := congrArg List.length (linesF_flat s.data.toList)
    rw [list_size] at h1
    have h2 : ∀ (ls : List (List UInt8)), l ∈ ls → l.length ≤ ls.flatten.length := by
      intro ls
      induction ls with
      | nil => intro h; cases h
      | cons y r ih =>
        intro h
        rw [List.flatten_cons, List.length_append]
        rcases List.mem_cons.1 h with rfl | h
        · omega
        · have := ih h; omega
    have := h2 _ hm
    omega
  have hLn : (linesF s.data.toList).length ≤ 4001 := by
    unfold linesF
    split
    · simp
    · have h2 : ∀ (t : List UInt8), (linesG t).length ≤ t.length := by
        intro t
        induction t with
        | nil => simp [linesG]
        | cons c r ih =>
          rw [linesG]
          split
          · simp; omega
          · split
            · simp
            · rename_i l ls e
              rw [e] at ih
              simp at ih ⊢
              omega
      have := h2 s.data.toList
      rw [list_size] at this
      omega
  have HFL := Lib.hid hfl
  have HOS := Lib.hid hos
  clear hfl hos
  generalize hT : s.data.toList = T at *
  clear hT
  generalize linesF T = ls at *
  obtain ⟨R, hR⟩ : ∃ R, goF 1 0 .zero os = R := ⟨_, rfl⟩
  rw [hR] at HP
  have HR := Lib.hid hR
  clear hR
  have hb0 := below2 w (.cells #[.int .i64 0, .int .i64 0, .slice none 0 0, .slice none 0 0, .slice none 0 0, .int .i64 0, .int .i64 0] 43) (.cells #[.int .i64 0, .int .i64 0, .slice none 0 0, .slice none 0 0, .slice none 0 0] 26)
  have kr := (CellsAt.new w [.int .i64 0, .int .i64 0, .slice none 0 0, .slice none 0 0, .slice none 0 0, .int .i64 0, .int .i64 0] 43).on_alloc (.cells #[.int .i64 0, .int .i64 0, .slice none 0 0, .slice none 0 0, .slice none 0 0] 26)
  have kp := CellsAt.new (w.alloc (.cells #[.int .i64 0, .int .i64 0, .slice none 0 0, .slice none 0 0, .slice none 0 0, .int .i64 0, .int .i64 0] 43)) [.int .i64 0, .int .i64 0, .slice none 0 0, .slice none 0 0, .slice none 0 0] 26
  rw [show (w.alloc (.cells #[.int .i64 0, .int .i64 0, .slice none 0 0, .slice none 0 0, .slice none 0 0, .int .i64 0, .int .i64 0] 43)).heap.size = w.heap.size + 1 by simp] at kp
  go_enter Tryz.func16, Tryz.ntmps16
  go_wp2_with fail
  generalize (w.alloc (.cells #[.int .i64 0, .int .i64 0, .slice none 0 0, .slice none 0 0, .slice none 0 0, .int .i64 0, .int .i64 0] 43)).alloc (.cells #[.int .i64 0, .int .i64 0, .slice none 0 0, .slice none 0 0, .slice none 0 0] 26) = W at *
  refine (HLs.out _).mono ?_
  rintro e w1 ⟨v, rfl, hown, hb1⟩
  obtain ⟨V, vc, rfl, hV⟩ := hown.strs
  rw [bs_length]
  have hW2 := kp.1
  have hW3 : W.heap.size ≤ w1.heap.size := hb1.size
  obtain ⟨g, hg1, hgne, hgc⟩ : ∃ g, g < w1.heap.size ∧ g ≠ w.heap.size + 1 ∧ ∀ k l, ls[k]? = some l → V = some ⟨g, 0, none⟩ ∧ w1.cell? ⟨g, k, none⟩ = some (.string ⟨l.toArray⟩) := by
    rcases hV with h | ⟨g, hA, hlt, hc⟩
    · refine ⟨w.heap.size, by have := hb1.size; omega, by omega, fun k l hk => ?_⟩
      have : ls = [] := by
        have := congrArg List.length h
        rw [bs_length] at this
        exact List.eq_nil_of_length_eq_zero this
      rw [this] at hk
      simp at hk
    · refine ⟨g, hlt, by subst hA; have := (World.ownsRow.lt hown g rfl).1; omega, fun k l hk => ⟨hA, hc k _ ?_⟩⟩
      simp [bs, hk]
  replace hb0 := on hb0 hb1
  replace kp := kp.on hb1
  replace kr := kr.on hb1
  have HGC := Lib.hid hgc
  obtain ⟨B, hB⟩ : ∃ B, w1.heap.size = B := ⟨_, rfl⟩
  have hBw : w.heap.size + 1 < B := by rw [← hB]; exact kp.1
  have hgB : g < B := by rw [← hB]; exact hg1
  have HWB : Hid (LinesAt ls g w1) := Lib.hid fun k l hk => (hgc k l hk).2
  clear hV hown hb1 hgc HLs hg1
  go_wp2
  go_loopw [4, 6] (fun la i wr => ∃ (k last : Nat) (p : Pl) (A1 : Option Addr) (c1 : Nat) (A2 : Option Addr) (c2 : Nat) (A3 : Option Addr) (c3 : Nat), k ≤ ls.length ∧ i = .int .i64 k ∧ la = .int .i64 last ∧ last ≤ 4 ∧ Hid (LoopAt B os R k last p A1 c1 A2 c2 A3 c3 wr) ∧ Below w.heap.size w wr ∧ Hid (LinesAt ls g wr) ∧ B ≤ wr.heap.size ∧
    CellsAt wr (w.heap.size + 1) [.int .i64 p.rows, .int .i64 p.cols, .slice A1 p.zs.length c1, .slice A2 p.us.length c2, .slice A3 p.gs.length c3] ∧ CellsAt wr w.heap.size [.int .i64 0, .int .i64 0, .slice none 0 0, .slice none 0 0, .slice none 0 0, .int .i64 0, .int .i64 0]) (fun _ i _ => ls.length - (intOf i).toNat)
  case atStart => exact ⟨0, 0, .zero, none, 0, none, 0, none, 0, Nat.zero_le _, rfl, rfl, by omega, Lib.hid ⟨HR.out, Own.nil _ _, PU.zero, Nat.le_refl _, Nat.le_refl _, Nat.le_refl _⟩, hb0, HWB, by omega, kp, kr⟩
  case round =>
    clear hb0 kp kr
    obtain ⟨k, last, p, A1, c1, A2, c2, A3, c3, hk, rfl, rfl, hlast, HL, hb0, HLA, hBr, kp, kr⟩ := hrel
    by_cases hlt : k < ls.length
    · obtain ⟨l, hlk⟩ : ∃ l, ls[k]? = some l := ⟨_, List.getElem?_eq_getElem hlt⟩
      obtain ⟨o, hok, hoi⟩ := AllIs.at_ HOS.out hlk
      obtain ⟨hgo, hown, hpu, m1, m2, m3⟩ := HL.out
      obtain ⟨rfl, _⟩ := HGC.out k l hlk
      have gl := HLA.out k l hlk
      have hll := HFL.out l (List.mem_of_getElem? hlk)
      have HLine := Lib.hid (fun w' h1 h2 => rline_c B p ⟨l.toArray⟩ (by rw [← list_size]; simpa using (by omega : l.length ≤ 100000)) A1 p.zs.length c1 A2 p.us.length c2 A3 p.gs.length c3 rfl rfl rfl (by omega) (by omega) (by omega) w' h1 h2)
      have HO := Lib.hid hown
      have HGO := Lib.hid (drop_os hok ▸ hgo)
      have HOI := Lib.hid hoi
      have HPU := Lib.hid hpu
      clear hlk hok hoi hgo hown hpu HL
      obtain ⟨p0, p1, p2, p3, p4, _⟩ := kp.five
      have HO1 := HO.out.on (drew_below (n := 1) rfl)
      have HO2 := HO.out.on (on (below1 wr (.cells #[.int .i64 0, .int .i64 0, .slice none 0 0, .slice none 0 0, .slice none 0 0] 26)) (drew_below (n := 1) rfl))
      have HO3 := HO.out.on (below1 wr (.cells #[.int .i64 0, .int .i64 0, .slice none 0 0, .slice none 0 0, .slice none 0 0] 26))
      have hB1 : w.heap.size + 1 < B := hBw
      have n1 : wr.heap.size ≠ w.heap.size + 1 := by omega
      have n2 : wr.heap.size ≠ g := by omega
      go_upto_region 9 with fail
      go_cut [7, 8] from 22 to 31 (fun q kd wx => ∃ (bq : Nat) (r c : Int) (B1 : Option Addr) (e1 k1 : Nat) (B2 : Option Addr) (e2 k2 : Nat) (B3 : Option Addr) (e3 k3 : Nat) (kn : Nat) (o' : Option Ln) (row : Option Nat), q = .pointer (some ⟨bq, 0, none⟩) ∧ kd = .int .i64 kn ∧ wr.heap.size ≤ bq ∧
        CellsAt wx bq [.int .i64 r, .int .i64 c, .slice B1 e1 k1, .slice B2 e2 k2, .slice B3 e3 k3] ∧ LnIs l o' ∧ wr.grownBy wx row ∧ (∀ b, b < B → some b ≠ row) ∧ (∀ x, o' = some x → kn = x.kind ∧ r = (x.put p).rows ∧ c = (x.put p).cols ∧ Own B (x.put p) (.slice B1 e1 k1) (.slice B2 e2 k2) (.slice B3 e3 k3) wx) ∧ (o' = none → kn = 0))
      case first =>
        have lp1 := kp.1
        have lg1 := World.block_lt_of_cell? _ _ gl
        have pz := fun j x hj => kept_alloc (.cells #[.int .i64 0, .int .i64 0, .slice none 0 0, .slice none 0 0, .slice none 0 0] 26) (kp.2 j x hj).1
        have z0 := pz 0 _ rfl
        have z1 := pz 1 _ rfl
        have z2 := pz 2 _ rfl
        have z3 := pz 3 _ rfl
        have z4 := pz 4 _ rfl
        have gz := kept_alloc (.cells #[.int .i64 0, .int .i64 0, .slice none 0 0, .slice none 0 0, .slice none 0 0] 26) gl
        clear pz
        have KQ := (CellsAt.new wr [.int .i64 0, .int .i64 0, .slice none 0 0, .slice none 0 0, .slice none 0 0] 26).on (drew_below (n := 1) rfl)
        go_region_with (go_at_call 36; refine (HLine.out _ (by first | assumption | (simp; omega)) (by first | exact HO.out | exact HO1 | exact HO2 | exact HO3)).mono ?_; rintro e w2 ⟨r, c, B1, e1, k1, B2, e2, k2, B3, e3, k3, kn, o', row, rfl, hLn, hgr, hrow, hsome, hnone⟩; have hfar : ∀ b, b < B → some b ≠ row := row_far HO.out hrow; have hs2 : wr.heap.size ≤ w2.heap.size := (by have := hgr.size; simp at this; omega); have n3 : w2.heap.size ≠ w.heap.size + 1 := (by omega); have n4 : w2.heap.size ≠ g := (by omega); try (have kq := cells_grown KQ hgr (row_old HO.out hrow _ (Nat.le_refl _)); obtain ⟨q0, q1, q2, q3, q4, y0, y1, y2, y3, y4⟩ := kq.five; have lq := kq.1))
        all_goals go_wp2_with fail
        all_goals go_meet
        all_goals first
          | (refine ⟨w2.heap.size, r, c, B1, e1, k1, B2, e2, k2, B3, e3, k3, kn, o', row, rfl, rfl, hs2, ?_⟩; exact ⟨CellsAt.new w2 [.int .i64 r, .int .i64 c, .slice B1 e1 k1, .slice B2 e2 k2, .slice B3 e3 k3] _, (by simpa using hLn), grown_on (below_grown (by first | exact Below.refl _ _ | exact drew_below (n := 1) rfl | exact on (below1 _ _) (drew_below (n := 1) rfl) | exact below1 _ _) hgr) (below1 _ _), hfar, (fun x e => ⟨(hsome x e).1, (hsome x e).2.1, (hsome x e).2.2.1, (hsome x e).2.2.2.on (below1 _ _)⟩), hnone⟩)
          | (refine ⟨wr.heap.size, r, c, B1, e1, k1, B2, e2, k2, B3, e3, k3, kn, o', row, rfl, rfl, Nat.le_refl _, ?_⟩; exact ⟨kq.put5 (.int .i64 r) (.int .i64 c) (.slice B1 e1 k1) (.slice B2 e2 k2) (.slice B3 e3 k3), (by simpa using hLn), grown_put5 (below_grown (by first | exact Below.refl _ _ | exact drew_below (n := 1) rfl | exact on (below1 _ _) (drew_below (n := 1) rfl) | exact below1 _ _) hgr) (Nat.le_refl _) (.int .i64 r) (.int .i64 c) (.slice B1 e1 k1) (.slice B2 e2 k2) (.slice B3 e3 k3), hfar, (fun x e => by
              obtain ⟨h1, h2, h3, h4⟩ := hsome x e
              obtain ⟨g1, g2, g3⟩ := h4.no_row ((hgr.block wr.heap.size (by simp) (row_old HO.out hrow _ (Nat.le_refl _))).trans (heap_alloc_new wr _))
              exact ⟨h1, h2, h3, h4.far (put5_grown w2 wr.heap.size (.int .i64 r) (.int .i64 c) (.slice B1 e1 k1) (.slice B2 e2 k2) (.slice B3 e3 k3)) g1 g2 g3⟩), hnone⟩)
      case rest =>
      clear HO1 HO2 HO3 p0 p1 p2 p3 p4 gl n1 n2
      obtain ⟨bq, r, c, B1, e1, k1, B2, e2, k2, B3, e3, k3, kn, o', row, rfl, rfl, hbq, kq, hLn, hgr, hfar, hsome, hnone⟩ := hcut
      obtain rfl := HOI.out.unique hLn
      replace hb0 := hb0.trans (grown_below hgr (N := w.heap.size) (fun b e => by rcases Nat.lt_or_ge b B with h | h; exact absurd e.symm (hfar b h); omega) hb0.size)
      replace HLA := Lib.hid (HLA.out.grown hgr (hfar _ hgB))
      have hBr2 : B ≤ wc.heap.size := Nat.le_trans hBr hgr.size
      replace kp := cells_grown kp hgr (hfar _ hB1)
      replace kr := cells_grown kr hgr (hfar _ (by omega))
      clear hgr hfar hLn
      cases o with
      | none =>
        obtain rfl := hnone rfl
        have HR2 : Hid (PolIs T (.zero, ((k : Int) + 1), 1)) := Lib.hid (by
          have h := HGO.out
          rw [goF] at h
          have h2 := HP.out
          rw [← h] at h2
          simpa using h2)
        clear HGO HOI hsome hnone kq
        obtain ⟨e0, e1, e2, e3, e4, e5, e6, _⟩ := CellsAt.seven (CellsAt.put7 kr (.int .i64 0) (.int .i64 0) (.slice none 0 0) (.slice none 0 0) (.slice none 0 0) (.int .i64 ((k : Int) + 1)) (.int .i64 1))
        have hbx := put7_below hb0 (b := w.heap.size) (Nat.le_refl _) (.int .i64 0) (.int .i64 0) (.slice none 0 0) (.slice none 0 0) (.slice none 0 0) (.int .i64 ((k : Int) + 1)) (.int .i64 1)
        obtain ⟨r0, r1, r2, r3, r4, r5, r6, f0, f1, f2, f3, f4, f5, f6⟩ := CellsAt.seven kr
        have lr := kr.1
        dsimp only [Pol.put7, put5, put4] at e0 e1 e2 e3 e4 e5 e6 hbx
        clear kr kp HO HLine HFL HOS HR HGC HWB
        go_wp2
        exact bodyPost_ret (v := .agg #[.int .i64 0, .int .i64 0, .slice none 0 0, .slice none 0 0, .slice none 0 0, .int .i64 ((k : Int) + 1), .int .i64 1]) (by simp [results, Tryz.results16, go_sem, e0, e1, e2, e3, e4, e5, e6]) rfl (RPEnd.bad HR2.out hbx)
      | some x =>
        obtain ⟨hkn, hr, hc, hox⟩ := hsome x rfl
        have hx := HOI.out.1
        have hkr : 1 ≤ kn ∧ kn ≤ 4 := by rw [hkn]; cases x <;> simp [Ln.kind]
        have hz0 : ((kn : Int) == 0) = false := by rw [beq_eq_false_iff_ne]; omega
        have hgo := HGO.out
        rw [goF] at hgo
        by_cases hcond : ¬ (k + 1 = 1 ↔ x.kind = 1) ∨ x.kind < last
        · rw [if_pos hcond] at hgo
          have HR2 : Hid (PolIs T (.zero, ((k : Int) + 1), 1)) := Lib.hid (by
            have h2 := HP.out
            rw [← hgo] at h2
            simpa using h2)
          obtain ⟨bk, hbk⟩ : ∃ b, ((k : Int) == 0) = b := ⟨_, rfl⟩
          obtain ⟨bl, hbl⟩ : ∃ b, ((kn : Int) == 1) = b := ⟨_, rfl⟩
          obtain ⟨bm, hbm⟩ : ∃ b, decide ((kn : Int) < (last : Int)) = b := ⟨_, rfl⟩
          have hbm2 : decide (kn < last) = bm := by rw [← hbm]; simp
          have hways : bk ≠ bl ∨ bm = true := by
            rw [← hkn] at hcond
            rcases hcond with h | h
            · left
              rintro rfl
              apply h
              have e1 : ((k : Int) == 0) = true ↔ k + 1 = 1 := by rw [beq_iff_eq]; omega
              have e2 : ((kn : Int) == 1) = true ↔ kn = 1 := by rw [beq_iff_eq]; omega
              rw [← e1, ← e2, hbk, hbl]
            · right
              rw [← hbm]
              exact decide_eq_true (by omega)
          clear HGO HOI hkn hr hc hox hx hgo hcond kq hsome hnone
          cases bk <;> cases bl <;> cases bm
          all_goals first
            | (exfalso; revert hways; decide)
            | skip
          all_goals
            clear hways
            obtain ⟨e0, e1, e2, e3, e4, e5, e6, _⟩ := CellsAt.seven (CellsAt.put7 kr (.int .i64 0) (.int .i64 0) (.slice none 0 0) (.slice none 0 0) (.slice none 0 0) (.int .i64 ((k : Int) + 1)) (.int .i64 1))
            have hbx := put7_below hb0 (b := w.heap.size) (Nat.le_refl _) (.int .i64 0) (.int .i64 0) (.slice none 0 0) (.slice none 0 0) (.slice none 0 0) (.int .i64 ((k : Int) + 1)) (.int .i64 1)
            obtain ⟨r0, r1, r2, r3, r4, r5, r6, f0, f1, f2, f3, f4, f5, f6⟩ := CellsAt.seven kr
            have lr := kr.1
            dsimp only [Pol.put7, put5, put4] at e0 e1 e2 e3 e4 e5 e6 hbx
            clear kr kp HO HLine HFL HOS HR HGC HWB
            go_wp2
            exact bodyPost_ret (v := .agg #[.int .i64 0, .int .i64 0, .slice none 0 0, .slice none 0 0, .slice none 0 0, .int .i64 ((k : Int) + 1), .int .i64 1]) (by simp [results, Tryz.results16, go_sem, e0, e1, e2, e3, e4, e5, e6]) rfl (RPEnd.bad HR2.out hbx)
        · rw [if_neg hcond] at hgo
          simp only [not_or, Decidable.not_not, Nat.not_lt] at hcond
          obtain ⟨hc1, hc2⟩ := hcond
          rw [← hkn] at hc1 hc2 hgo
          have hbm : decide ((kn : Int) < (last : Int)) = false := decide_eq_false (by omega)
          have hbm2 : decide (kn < last) = false := decide_eq_false (by omega)
          obtain rfl := own_len hox.z
          obtain rfl := own_len hox.u
          obtain rfl := own_len hox.g
          subst hr hc
          have hpl := put_lens p x
          have hOx := hox.far (put5_grown wc (w.heap.size + 1) (.int .i64 (x.put p).rows) (.int .i64 (x.put p).cols) (.slice B1 (x.put p).zs.length k1) (.slice B2 (x.put p).us.length k2) (.slice B3 (x.put p).gs.length k3)) (fun e => by have := (hox.z.lt _ e).1; omega) (fun e => by have := (hox.u.lt _ e).1; omega) (fun e => by have := (hox.g.lt _ e).1; omega)
          have HLx := Lib.hid (show LoopAt B os R (k + 1) kn (x.put p) B1 k1 B2 k2 B3 k3 _ from ⟨hgo, hOx, HPU.out.put hx, by omega, by omega, by omega⟩)
          have hbx := put5_below hb0 (b := w.heap.size + 1) (by omega) (.int .i64 (x.put p).rows) (.int .i64 (x.put p).cols) (.slice B1 (x.put p).zs.length k1) (.slice B2 (x.put p).us.length k2) (.slice B3 (x.put p).gs.length k3)
          have hkpx := kp.put5 (.int .i64 (x.put p).rows) (.int .i64 (x.put p).cols) (.slice B1 (x.put p).zs.length k1) (.slice B2 (x.put p).us.length k2) (.slice B3 (x.put p).gs.length k3)
          have hkrx := CellsAt.put5_far kr (c := w.heap.size + 1) (by omega) (.int .i64 (x.put p).rows) (.int .i64 (x.put p).cols) (.slice B1 (x.put p).zs.length k1) (.slice B2 (x.put p).us.length k2) (.slice B3 (x.put p).gs.length k3)
          obtain ⟨q0, q1, q2, q3, q4, _⟩ := kq.five
          obtain ⟨p0, p1, p2, p3, p4, o0, o1, o2, o3, o4⟩ := kp.five
          have lp := kp.1
          have lq := kq.1
          have HLAx := Lib.hid (HLA.out.grown (put5_grown wc (w.heap.size + 1) (.int .i64 (x.put p).rows) (.int .i64 (x.put p).cols) (.slice B1 (x.put p).zs.length k1) (.slice B2 (x.put p).us.length k2) (.slice B3 (x.put p).gs.length k3)) (by simpa using hgne))
          clear hx hox hgo HGO HOI HO HPU HLine hsome hnone kq kp kr
          dsimp only [put5, put4] at HLx hbx hkpx hkrx HLAx
          obtain ⟨bk, hbk⟩ : ∃ b, ((k : Int) == 0) = b := ⟨_, rfl⟩
          have hbl : ((kn : Int) == 1) = bk := by
            rw [← hbk, Bool.eq_iff_iff, beq_iff_eq, beq_iff_eq]
            omega
          clear hc1 hkn
          cases bk
          all_goals
            go_wp2
            go_roundw
            case rel => exact ⟨k + 1, kn, _, B1, k1, B2, k2, B3, k3, by omega, by go_num, rfl, by omega, HLx, hbx, HLAx, by simp; omega, hkpx, hkrx⟩
            case measure => first | (simp [intOf]; done) | (simp [intOf]; omega)
    · have hkl : ls.length = k := by omega
      obtain ⟨hgo, hown, hpu, m1, m2, m3⟩ := HL.out
      have hol := AllIs.length HOS.out
      rw [List.drop_eq_nil_of_le (by omega), goF] at hgo
      obtain ⟨A1', c1', A2', c2', A3', c3', e1, e2, e3, hnc, hz, hu, hg⟩ := hown.reads hpu (by omega) (by omega) (by omega)
      simp only [Value.slice.injEq, true_and] at e1 e2 e3
      obtain ⟨rfl, rfl⟩ := e1
      obtain ⟨rfl, rfl⟩ := e2
      obtain ⟨rfl, rfl⟩ := e3
      have HZ := Lib.hid hz
      have HU := Lib.hid hu
      have HG := Lib.hid hg
      have HO := Lib.hid hown
      have HPU := Lib.hid hpu
      obtain ⟨wa, we, hwp⟩ : ∃ a b, wrongP p = (a, b) := ⟨_, _, rfl⟩
      have HW := Lib.hid (fun w1 h1 h2 h3 => rwrongP_c p A1 p.zs.length c1 A2 p.us.length c2 A3 p.gs.length c3 w1 h1 h2 h3)
      simp only [hwp] at HW
      have HE := Lib.hid hgo
      obtain ⟨p0, p1, p2, p3, p4, _⟩ := kp.five
      have lp := kp.1
      clear hgo hown hpu hz hu hg HL HLA HWB HFL HR HGC
      subst hkl
      go_wp2_with fail
      refine (HW.out _ HZ.out HU.out HG.out).mono ?_
      rintro e w2 ⟨rfl, hb2⟩
      replace hb0 := on hb0 hb2
      replace kp := kp.on hb2
      replace kr := kr.on hb2
      replace HO := Lib.hid (HO.out.on hb2)
      clear p0 p1 p2 p3 p4 lp hb2 HW HZ HU HG
      obtain ⟨r0, r1, r2, r3, r4, r5, r6, f0, f1, f2, f3, f4, f5, f6⟩ := CellsAt.seven kr
      have lr := kr.1
      have hsw := hb0.size
      by_cases hwe : we = 0
      · have hn : (we == 0) = true := by rw [hwe]; rfl
        subst hwe
        have HR2 : Hid (PolIs T (p, 0, 0)) := Lib.hid (by
          have h := HE.out
          rw [endP, hwp, if_pos rfl] at h
          have h2 := HP.out
          rw [← h] at h2
          exact h2)
        clear HE hwp
        have ke := (CellsAt.put7 kr (.int .i64 p.rows) (.int .i64 p.cols) (.slice A1 p.zs.length c1) (.slice A2 p.us.length c2) (.slice A3 p.gs.length c3) (.int .i64 0) (.int .i64 0)).on_alloc (.cells #[.int .i64 wa, .int .i64 0] 35)
        obtain ⟨e0, e1, e2, e3, e4, e5, e6, _⟩ := CellsAt.seven ke
        have hbx := on_alloc (put7_below hb0 (b := w.heap.size) (Nat.le_refl _) (.int .i64 p.rows) (.int .i64 p.cols) (.slice A1 p.zs.length c1) (.slice A2 p.us.length c2) (.slice A3 p.gs.length c3) (.int .i64 0) (.int .i64 0)) (.cells #[.int .i64 wa, .int .i64 0] 35)
        obtain ⟨A1', c1', A2', c2', A3', c3', e1', e2', e3', _, hz, hu, hg⟩ := ((HO.out.far (put7_grown w2 w.heap.size (.int .i64 p.rows) (.int .i64 p.cols) (.slice A1 p.zs.length c1) (.slice A2 p.us.length c2) (.slice A3 p.gs.length c3) (.int .i64 0) (.int .i64 0)) (fun e => by have := (HO.out.z.lt _ e).1; omega) (fun e => by have := (HO.out.u.lt _ e).1; omega) (fun e => by have := (HO.out.g.lt _ e).1; omega)).on (below1 _ (.cells #[.int .i64 wa, .int .i64 0] 35))).reads HPU.out (by omega) (by omega) (by omega)
        simp only [Value.slice.injEq, true_and] at e1' e2' e3'
        obtain ⟨rfl, rfl⟩ := e1'
        obtain ⟨rfl, rfl⟩ := e2'
        obtain ⟨rfl, rfl⟩ := e3'
        have HZ := Lib.hid hz
        have HU := Lib.hid hu
        have HG := Lib.hid hg
        obtain ⟨p0, p1, p2, p3, p4, _⟩ := kp.five
        have lp := kp.1
        dsimp only [Pol.put7, put5, put4] at e0 e1 e2 e3 e4 e5 e6 hbx HZ HU HG
        clear kr kp ke HO hz hu hg
        go_wp2
        exact bodyPost_ret (v := .agg #[.int .i64 p.rows, .int .i64 p.cols, .slice A1 p.zs.length c1, .slice A2 p.us.length c2, .slice A3 p.gs.length c3, .int .i64 0, .int .i64 0]) (by simp [results, Tryz.results16, go_sem, e0, e1, e2, e3, e4, e5, e6]) rfl
          ⟨p, 0, 0, A1, p.zs.length, c1, A2, p.us.length, c2, A3, p.gs.length, c3, rfl, HR2.out, HPU.out, hnc, HZ.out, HU.out, HG.out, hbx⟩
      · have hn : (we == 0) = false := by rw [beq_eq_false_iff_ne]; exact hwe
        have HR2 : Hid (PolIs T (.zero, wa, we)) := Lib.hid (by
          have h := HE.out
          rw [endP, hwp, if_neg hwe] at h
          have h2 := HP.out
          rw [← h] at h2
          exact h2)
        clear HE hwp hwe HO HPU
        have ke := (CellsAt.put7 kr (.int .i64 0) (.int .i64 0) (.slice none 0 0) (.slice none 0 0) (.slice none 0 0) (.int .i64 wa) (.int .i64 we)).on_alloc (.cells #[.int .i64 wa, .int .i64 we] 35)
        obtain ⟨e0, e1, e2, e3, e4, e5, e6, _⟩ := CellsAt.seven ke
        have hbx := on_alloc (put7_below hb0 (b := w.heap.size) (Nat.le_refl _) (.int .i64 0) (.int .i64 0) (.slice none 0 0) (.slice none 0 0) (.slice none 0 0) (.int .i64 wa) (.int .i64 we)) (.cells #[.int .i64 wa, .int .i64 we] 35)
        dsimp only [Pol.put7, put5, put4] at e0 e1 e2 e3 e4 e5 e6 hbx
        have HE7 := Lib.hid (show _ ∧ _ ∧ _ ∧ _ ∧ _ ∧ _ ∧ _ from ⟨e0, e1, e2, e3, e4, e5, e6⟩)
        have HBX := Lib.hid hbx
        clear kr kp ke e0 e1 e2 e3 e4 e5 e6 hbx
        go_wp2
        obtain ⟨e0, e1, e2, e3, e4, e5, e6⟩ := HE7.out
        have hbx := HBX.out
        exact bodyPost_ret (v := .agg #[.int .i64 0, .int .i64 0, .slice none 0 0, .slice none 0 0, .slice none 0 0, .int .i64 wa, .int .i64 we]) (by simp [results, Tryz.results16, go_sem, e0, e1, e2, e3, e4, e5, e6]) rfl (RPEnd.bad HR2.out hbx)
theorem rparseP_c (s : ByteArray) (w : World) : Calls Tryz.prog 16 #[.string s] w (RPEnd s.data.toList w) := by
  by_cases h : 4000 < s.size
  · exact rparseP_long s h w
  · exact rparseP_in s (by omega) w
end Go.Proofs.YtmlmanlcomfhbaaGreatDoor.Pol
