/- What the program's addGrid and addUser answer: a policy in memory with a line more.
   What the program's addZone and addGrant answer: a policy in memory with a line more.
   What strings.Split answers at a blank: a text's words, in new memory; and what the library's variables hold that stage 7 reads.
   What the program's add answers: a policy in memory with what a line tells, and the line's kind. -/
import Derived.Lib.CountLaws
import Derived.Lib.SplitLaws
import Derived.StillTailTactics
import Derived.Test.YtmlmanlcomfhbaaGreatDoorGp
import Derived.Test.YtmlmanlcomfhbaaGreatDoorGo
import Derived.Test.YtmlmanlcomfhbaaGreatDoorAddrGo
import Derived.Test.YtmlmanlcomfhbaaGreatDoorLabParse
import Derived.Test.YtmlmanlcomfhbaaGreatDoorSpanTextGo
import Derived.Test.YtmlmanlcomfhbaaGreatDoorGe
import Derived.Test.YtmlmanlcomfhbaaGreatDoorShelfB
namespace Go.Proofs.YtmlmanlcomfhbaaGreatDoor.Pol
open Go.RowKit Kit Reg
open Go.Proofs.YtmlmanlcomfhbaaGreatDoor.Zone (Zn ZonesR)
open Go.Proofs.YtmlmanlcomfhbaaGreatDoor.Right (Us Gr UsersR GrantsR OwnS strs StrsR)
open Go.Proofs.YtmlmanlcomfhbaaGreatDoor.Cats (U U_zero LabIs)
open Go.Proofs.YtmlmanlcomfhbaaGreatDoor.Span (SpanIs mayS textI)
open Go.Proofs.YtmlmanlcomfhbaaGreatDoor.Addr (NumIs Libs)

theorem number_x (t : ByteArray) (ht : t.size ≤ 100000) {n : Int} {b : Bool} (h : NumIs t.data.toList n b) (w : World) (hL : Libs w) : Calls Tryz.prog 102 #[.string t] w fun e w' => e = .returned (.tuple #[.int .i64 n, .bool b]) ∧ Below w.heap.size w w' :=
  (Addr.number_c t (by omega) w hL).mono fun e w' ⟨m, c, he, hN, hb⟩ => by
    obtain ⟨rfl, rfl⟩ := h.unique hN
    exact ⟨he, hb⟩
theorem lab_x (t : ByteArray) (ht : t.size ≤ 100000) {l : Int} {s : Nat} {b : Bool} (h : LabIs t.data.toList l s b) (w : World) (hL : Libs w) : Calls Tryz.prog 104 #[.string t] w fun e w' => e = .returned (.tuple #[.agg #[.int .i64 l, .int .u64 s], .bool b]) ∧ Below w.heap.size w w' :=
  (Cats.lparse_c t (by omega) w hL.1).mono fun e w' ⟨m, r, c, he, hN, hb⟩ => by
    obtain ⟨rfl, rfl, rfl⟩ := h.unique hN
    exact ⟨he, hb⟩
theorem span_x (t : ByteArray) (ht : t.size ≤ 100000) {x y z u : Int} {b : Bool} (h : SpanIs t.data.toList x y z u b) (w : World) (hL : Libs w) : Calls Tryz.prog 103 #[.string t] w fun e w' => e = .returned (.tuple #[.agg #[.int .i64 x, .int .i64 y, .int .i64 z, .int .i64 u], .bool b]) ∧ Below w.heap.size w w' :=
  (Span.parse_c t (by omega) w hL).mono fun e w' ⟨x', y', z', u', c, he, hN, hb⟩ => by
    obtain ⟨rfl, rfl, rfl, rfl, rfl⟩ := h.unique hN
    exact ⟨he, hb⟩
/-- a policy in a block of its own, at or above B, with its rows -/
def PolAt (B b : Nat) (p : Pl) (A1 : Option Addr) (c1 : Nat) (A2 : Option Addr) (c2 : Nat) (A3 : Option Addr) (c3 : Nat) (w : World) : Prop :=
  B ≤ b ∧ CellsAt w b [.int .i64 p.rows, .int .i64 p.cols, .slice A1 p.zs.length c1, .slice A2 p.us.length c2, .slice A3 p.gs.length c3] ∧ Own B p (.slice A1 p.zs.length c1) (.slice A2 p.us.length c2) (.slice A3 p.gs.length c3) w ∧
  (Value.slice A1 p.zs.length c1).ownBlock ≠ some b ∧ (Value.slice A2 p.us.length c2).ownBlock ≠ some b ∧ (Value.slice A3 p.gs.length c3).ownBlock ≠ some b
theorem PolAt.on {B b : Nat} {p : Pl} {A1 : Option Addr} {c1 : Nat} {A2 : Option Addr} {c2 : Nat} {A3 : Option Addr} {c3 : Nat} {w w' : World} (h : PolAt B b p A1 c1 A2 c2 A3 c3 w) (hb : Below w.heap.size w w') : PolAt B b p A1 c1 A2 c2 A3 c3 w' :=
  ⟨h.1, h.2.1.on hb, h.2.2.1.on hb, h.2.2.2⟩
/-- what adding to a policy comes to -/
def AddEnd (B b : Nat) (p : Pl) (w : World) (v : Value) (e : Ending) (w' : World) : Prop :=
  ∃ (A1 : Option Addr) (c1 : Nat) (A2 : Option Addr) (c2 : Nat) (A3 : Option Addr) (c3 : Nat), e = .returned v ∧ PolAt B b p A1 c1 A2 c2 A3 c3 w' ∧ Below B w w'
section
variable {B b : Nat} {p : Pl} {A1 : Option Addr} {c1 : Nat} {A2 : Option Addr} {c2 : Nat} {A3 : Option Addr} {c3 : Nat} {w Y w5 : World} {g' cap' : Nat}
theorem AddEnd.grid (n m : Int) (hp : PolAt B b p A1 c1 A2 c2 A3 c3 w) (hwY : Below w.heap.size w Y) (v : Value) :
    AddEnd B b (Ln.put p (.grid n m)) w v (.returned v) ((Y.setCell ⟨b, 0, none⟩ (.int .i64 n)).setCell ⟨b, 1, none⟩ (.int .i64 m)) := by
  obtain ⟨hBb, kp, ho, n1, n2, n3⟩ := hp
  have hlt := kp.1
  have kpY := kp.on hwY
  have hoY := ho.on hwY
  refine ⟨A1, c1, A2, c2, A3, c3, rfl, ⟨hBb, ?_, ?_, n1, n2, n3⟩, ?_⟩
  · exact (kpY.set (i := 0) (by simp) (.int .i64 n)).set (i := 1) (by simp) (.int .i64 m)
  · exact ((hoY.far (set_grown Y ⟨b, 0, none⟩ (.int .i64 n)) n1 n2 n3).far (set_grown _ ⟨b, 1, none⟩ (.int .i64 m)) n1 n2 n3).size n m
  · exact ((hwY.mono (by omega)).setCell (p := ⟨b, 0, none⟩) hBb _).setCell (p := ⟨b, 1, none⟩) hBb _
theorem AddEnd.zone (x : Zn) (hp : PolAt B b p A1 c1 A2 c2 A3 c3 w) (hwY : Below w.heap.size w Y) (hown' : w5.ownsRow B 72 6 (.slice (some ⟨g', 0, none⟩) (p.zs.length + 1) cap') (p.zs.length + 1) (flat Zn.cells p.zs ++ x.cells))
    (hgrow : Y.grownBy w5 (Value.slice A1 p.zs.length c1).ownBlock) (hloc : (Value.slice A1 p.zs.length c1).ownBlock = some g' ∨ g' = Y.heap.size) (v : Value) :
    AddEnd B b (Ln.put p (.zone x)) w v (.returned v) (w5.setCell ⟨b, 2, none⟩ (.slice (some ⟨g', 0, none⟩) (p.zs.length + 1) cap')) := by
  obtain ⟨hBb, kp, ho, n1, n2, n3⟩ := hp
  have hlt := kp.1
  have kpY := kp.on hwY
  have hoY := ho.on hwY
  have hOw := Own.zone hoY x hown' hgrow (by rcases hloc with e | e; exact .inl e.symm; exact .inr (by rw [e]; simp [Value.ownBlock]))
  have hg' : g' ≠ b := by
    rcases hloc with e | e
    · exact fun e2 => n1 (by rw [e, e2])
    · have := kpY.1; omega
  have kp5 := cells_grown kpY hgrow n1.symm
  have hsY := hwY.size
  refine ⟨some ⟨g', 0, none⟩, cap', A2, c2, A3, c3, rfl, ⟨hBb, ?_, ?_, by simpa [Value.ownBlock] using hg', n2, n3⟩, ?_⟩
  · have := kp5.set (i := 2) (by simp) (.slice (some ⟨g', 0, none⟩) (p.zs.length + 1) cap')
    simpa [Ln.put] using this
  · have := hOw.far (set_grown w5 ⟨b, 2, none⟩ (.slice (some ⟨g', 0, none⟩) (p.zs.length + 1) cap')) (by simpa [Value.ownBlock] using hg') n2 n3
    simpa [Ln.put] using this
  · exact ((hwY.mono (by omega)).grown hgrow (by omega) (fun k e => (ho.z.lt k e).1)).setCell (p := ⟨b, 2, none⟩) hBb _
theorem AddEnd.user (x : Us) (hp : PolAt B b p A1 c1 A2 c2 A3 c3 w) (hwY : Below w.heap.size w Y) (hown' : w5.ownsRow B 76 3 (.slice (some ⟨g', 0, none⟩) (p.us.length + 1) cap') (p.us.length + 1) (flat Us.cells p.us ++ x.cells))
    (hgrow : Y.grownBy w5 (Value.slice A2 p.us.length c2).ownBlock) (hloc : (Value.slice A2 p.us.length c2).ownBlock = some g' ∨ g' = Y.heap.size) (v : Value) :
    AddEnd B b (Ln.put p (.user x)) w v (.returned v) (w5.setCell ⟨b, 3, none⟩ (.slice (some ⟨g', 0, none⟩) (p.us.length + 1) cap')) := by
  obtain ⟨hBb, kp, ho, n1, n2, n3⟩ := hp
  have hlt := kp.1
  have kpY := kp.on hwY
  have hoY := ho.on hwY
  have hOw := Own.user hoY x hown' hgrow (by rcases hloc with e | e; exact .inl e.symm; exact .inr (by rw [e]; simp [Value.ownBlock]))
  have hg' : g' ≠ b := by
    rcases hloc with e | e
    · exact fun e2 => n2 (by rw [e, e2])
    · have := kpY.1; omega
  have kp5 := cells_grown kpY hgrow n2.symm
  have hsY := hwY.size
  refine ⟨A1, c1, some ⟨g', 0, none⟩, cap', A3, c3, rfl, ⟨hBb, ?_, ?_, n1, by simpa [Value.ownBlock] using hg', n3⟩, ?_⟩
  · have := kp5.set (i := 3) (by simp) (.slice (some ⟨g', 0, none⟩) (p.us.length + 1) cap')
    simpa [Ln.put] using this
  · have := hOw.far (set_grown w5 ⟨b, 3, none⟩ (.slice (some ⟨g', 0, none⟩) (p.us.length + 1) cap')) n1 (by simpa [Value.ownBlock] using hg') n3
    simpa [Ln.put] using this
  · exact ((hwY.mono (by omega)).grown hgrow (by omega) (fun k e => (ho.u.lt k e).1)).setCell (p := ⟨b, 3, none⟩) hBb _
theorem AddEnd.grant (x : Gr) (hp : PolAt B b p A1 c1 A2 c2 A3 c3 w) (hwY : Below w.heap.size w Y) (hown' : w5.ownsRow B 78 5 (.slice (some ⟨g', 0, none⟩) (p.gs.length + 1) cap') (p.gs.length + 1) (flat Gr.cells p.gs ++ x.cells))
    (hgrow : Y.grownBy w5 (Value.slice A3 p.gs.length c3).ownBlock) (hloc : (Value.slice A3 p.gs.length c3).ownBlock = some g' ∨ g' = Y.heap.size) (v : Value) :
    AddEnd B b (Ln.put p (.grant x)) w v (.returned v) (w5.setCell ⟨b, 4, none⟩ (.slice (some ⟨g', 0, none⟩) (p.gs.length + 1) cap')) := by
  obtain ⟨hBb, kp, ho, n1, n2, n3⟩ := hp
  have hlt := kp.1
  have kpY := kp.on hwY
  have hoY := ho.on hwY
  have hOw := Own.grant hoY x hown' hgrow (by rcases hloc with e | e; exact .inl e.symm; exact .inr (by rw [e]; simp [Value.ownBlock]))
  have hg' : g' ≠ b := by
    rcases hloc with e | e
    · exact fun e2 => n3 (by rw [e, e2])
    · have := kpY.1; omega
  have kp5 := cells_grown kpY hgrow n3.symm
  have hsY := hwY.size
  refine ⟨A1, c1, A2, c2, some ⟨g', 0, none⟩, cap', rfl, ⟨hBb, ?_, ?_, n1, n2, by simpa [Value.ownBlock] using hg'⟩, ?_⟩
  · have := kp5.set (i := 4) (by simp) (.slice (some ⟨g', 0, none⟩) (p.gs.length + 1) cap')
    simpa [Ln.put] using this
  · have := hOw.far (set_grown w5 ⟨b, 4, none⟩ (.slice (some ⟨g', 0, none⟩) (p.gs.length + 1) cap')) n1 n2 (by simpa [Value.ownBlock] using hg')
    simpa [Ln.put] using this
  · exact ((hwY.mono (by omega)).grown hgrow (by omega) (fun k e => (ho.g.lt k e).1)).setCell (p := ⟨b, 4, none⟩) hBb _
end
set_option maxRecDepth 100000 in
set_option maxHeartbeats 1000000 in
theorem addGrid_c (B b : Nat) (p : Pl) (A1 : Option Addr) (c1 : Nat) (A2 : Option Addr) (c2 : Nat) (A3 : Option Addr) (c3 : Nat) (u v : ByteArray) (hu : u.size ≤ 100000) (hv : v.size ≤ 100000) (n m : Int) (d k : Bool) (h1 : NumIs u.data.toList n d) (h2 : NumIs v.data.toList m k) (w : World) (hL : Libs w) (hp : PolAt B b p A1 c1 A2 c2 A3 c3 w) :
    Calls Tryz.prog 79 #[.pointer (some ⟨b, 0, none⟩), .string u, .string v] w (AddEnd B b (Ln.put p (.grid (n + 1) (m + 1))) w (.bool (d && k))) := by
  have HP := Lib.hid hp
  have HL := Lib.hid hL
  have bn := NumIs.range h1
  have bm := NumIs.range h2
  have HN := Lib.hid (fun w1 h => number_x u hu h1 w1 h)
  have HM := Lib.hid (fun w1 h => number_x v hv h2 w1 h)
  have kp := hp.2.1
  obtain ⟨bn0, bn1⟩ := bn
  obtain ⟨bm0, bm1⟩ := bm
  clear hp hL h1 h2
  go_enter Tryz.func79, Tryz.ntmps79
  go_wp2_with fail
  refine (HN.out _ HL.out).mono ?_
  rintro e w1 ⟨rfl, hb1⟩
  go_wp2_with fail
  refine (HM.out _ (HL.out.grown hb1)).mono ?_
  rintro e w2 ⟨rfl, hb2⟩
  replace kp := (kp.on hb1).on hb2
  obtain ⟨p0, p1, _, _, _, o0, o1, _⟩ := kp.five
  have lp := kp.1
  clear kp
  cases d <;> cases k
  all_goals
    go_wp2
    go_ret
    exact AddEnd.grid (n + 1) (m + 1) HP.out (on hb1 hb2) _
set_option maxRecDepth 100000 in
set_option maxHeartbeats 2000000 in
theorem addUser_c (B b : Nat) (p : Pl) (A1 : Option Addr) (c1 : Nat) (A2 : Option Addr) (c2 : Nat) (A3 : Option Addr) (c3 : Nat) (u v : ByteArray) (hv : v.size ≤ 100000) (l : Int) (s : Nat) (d : Bool) (h1 : LabIs v.data.toList l s d) (hn : p.us.length ≤ 100000) (w : World) (hL : Libs w) (hp : PolAt B b p A1 c1 A2 c2 A3 c3 w) :
    Calls Tryz.prog 81 #[.pointer (some ⟨b, 0, none⟩), .string u, .string v] w (AddEnd B b (Ln.put p (.user ⟨u, l, s⟩)) w (.bool d)) := by
  have HP := Lib.hid hp
  have HL := Lib.hid hL
  have HN := Lib.hid (fun w1 h => lab_x v hv h1 w1 h)
  have kp := hp.2.1
  have hBb := hp.1
  have hne := hp.2.2.2.2.1
  clear hp hL h1
  go_enter Tryz.func81, Tryz.ntmps81
  go_wp2_with fail
  refine (HN.out _ HL.out).mono ?_
  rintro e w2 ⟨rfl, hb2⟩
  have k7 := CellsAt.new w2 [.int .i64 l, .int .u64 s] 70
  change CellsAt (w2.alloc (.cells #[.int .i64 l, .int .u64 s] 70)) w2.heap.size [.int .i64 l, .int .u64 s] at k7
  have hbx := below1 w2 (.cells #[.int .i64 l, .int .u64 s] 70)
  replace hb2 := on hb2 hbx
  replace kp := kp.on hb2
  go_upto_region 2 with fail
  generalize hX : w2.alloc (.cells #[.int .i64 l, .int .u64 s] 70) = X at *
  have hX2 : X.heap.size = w2.heap.size + 1 := by rw [← hX]; simp
  clear hX hbx
  generalize w2.heap.size = b7 at *
  have hrow := (HP.out.2.2.1.on hb2).u
  have hone := us_one ⟨u, l, s⟩
  dsimp only [Us.cells] at hone
  obtain ⟨u0, u1, _⟩ := k7.two
  obtain ⟨p0, p1, p2, p3, p4, o0, o1, o2, o3, o4⟩ := kp.five
  have l7 := k7.1
  have lp := kp.1
  have q53c := ((kp.on_alloc (.cells #[.string u, .int .i64 l, .int .u64 s] 76)).2 3 _ rfl).1
  obtain ⟨i0, hin, hz0, hz1, hz2⟩ := info_parts infoPU
  have hXB : Below X.heap.size X (X.alloc (.cells #[.string u, .int .i64 l, .int .u64 s] 76)).drew := on (below1 X _) (drew_below (n := 1) rfl)
  go_region_law (refine step_append_lies _ (by rfl) _ _ _ (by rfl) B 76 i0 _ 3 32 Tryz.underlying23 hin hz0 hz1 hz2 rfl (by omega) _ p.us.length (flat Us.cells p.us) (by rfl) ((hrow.alloc _).drew) ⟨_, 0, none⟩ 1 1 [.string u, .int .i64 l, .int .u64 s] (by simp [Act.eval]) (by rfl) (World.news_of_block (cs := #[.string u, .int .i64 l, .int .u64 s]) (t := 76) (fr := (0, 0)) (heap_alloc_new X _)) hone (by omega) (by unfold maxLen; omega) (by omega) (by first | (simp; done) | (simp; omega)) (X.heap.size + 1) (by simp) ?_; intro g' cap' w5 hown' hgrow0 hloc0 hlt'; have q53 := (kp.on_alloc (.cells #[.string u, .int .i64 l, .int .u64 s] 76)).2 3 _ rfl; have h53 : b < (X.alloc (.cells #[.string u, .int .i64 l, .int .u64 s] 76)).drew.heap.size := by { simp; omega }; have o53 : w5.frozen? ⟨b, 3, none⟩ = false := (hgrow0.frozen_far ⟨b, 3, none⟩ h53 hne.symm).trans (by simpa using q53.2); have p53 : w5.cell? ⟨b, 3, none⟩ = some (.slice A2 p.us.length c2) := (hgrow0.cell_far ⟨b, 3, none⟩ h53 hne.symm).trans (by simpa using q53.1))
  all_goals go_wp2
  all_goals go_ret
  all_goals exact AddEnd.user ⟨u, l, s⟩ HP.out (on hb2 hXB) hown' hgrow0 (by simpa using hloc0) _
end Go.Proofs.YtmlmanlcomfhbaaGreatDoor.Pol
namespace Go.Proofs.YtmlmanlcomfhbaaGreatDoor.Pol
open Go.RowKit Kit Reg
open Go.Proofs.YtmlmanlcomfhbaaGreatDoor.Zone (Zn ZonesR)
open Go.Proofs.YtmlmanlcomfhbaaGreatDoor.Right (Us Gr UsersR GrantsR OwnS strs StrsR)
open Go.Proofs.YtmlmanlcomfhbaaGreatDoor.Cats (U U_zero LabIs)
open Go.Proofs.YtmlmanlcomfhbaaGreatDoor.Span (SpanIs mayS textI)
open Go.Proofs.YtmlmanlcomfhbaaGreatDoor.Addr (NumIs Libs)

set_option maxRecDepth 100000 in
set_option maxHeartbeats 2000000 in
theorem addZone_c (B b : Nat) (p : Pl) (A1 : Option Addr) (c1 : Nat) (A2 : Option Addr) (c2 : Nat) (A3 : Option Addr) (c3 : Nat) (u v : ByteArray) (hu : u.size ≤ 100000) (hv : v.size ≤ 100000) (i j m n : Int) (l : Int) (s : Nat) (k d : Bool) (h0 : SpanIs u.data.toList i j m n k) (h1 : LabIs v.data.toList l s d) (hn : p.zs.length ≤ 100000) (w : World) (hL : Libs w) (hp : PolAt B b p A1 c1 A2 c2 A3 c3 w) :
    Calls Tryz.prog 80 #[.pointer (some ⟨b, 0, none⟩), .string u, .string v] w (AddEnd B b (Ln.put p (.zone ⟨i, j, m, n, l, s⟩)) w (.bool (k && d))) := by
  have HP := Lib.hid hp
  have HL := Lib.hid hL
  have HM := Lib.hid (fun w1 h => span_x u hu h0 w1 h)
  have HN := Lib.hid (fun w1 h => lab_x v hv h1 w1 h)
  have kp := hp.2.1
  have hBb := hp.1
  have hne := hp.2.2.2.1
  clear hp hL h1 h0
  go_enter Tryz.func80, Tryz.ntmps80
  go_wp2_with fail
  refine (HM.out _ HL.out).mono ?_
  rintro e w1 ⟨rfl, hb1⟩
  have k6 := CellsAt.new w1 [.int .i64 i, .int .i64 j, .int .i64 m, .int .i64 n] 67
  change CellsAt (w1.alloc (.cells #[.int .i64 i, .int .i64 j, .int .i64 m, .int .i64 n] 67)) w1.heap.size [.int .i64 i, .int .i64 j, .int .i64 m, .int .i64 n] at k6
  replace hb1 := on hb1 (below1 w1 (.cells #[.int .i64 i, .int .i64 j, .int .i64 m, .int .i64 n] 67))
  have hs1 := hb1.size
  go_wp2_with fail
  generalize hX1 : w1.alloc (.cells #[.int .i64 i, .int .i64 j, .int .i64 m, .int .i64 n] 67) = X1 at *
  clear hX1
  generalize w1.heap.size = b6 at *
  refine (HN.out _ (HL.out.grown hb1)).mono ?_
  rintro e w2 ⟨rfl, hb2⟩
  have k7 := CellsAt.new w2 [.int .i64 l, .int .u64 s] 70
  change CellsAt (w2.alloc (.cells #[.int .i64 l, .int .u64 s] 70)) w2.heap.size [.int .i64 l, .int .u64 s] at k7
  replace hb2 := on hb2 (below1 w2 (.cells #[.int .i64 l, .int .u64 s] 70))
  replace k6 := k6.on hb2
  replace hb2 := on hb1 hb2
  replace kp := kp.on hb2
  clear hb1
  go_upto_region 3 with fail
  generalize hX : w2.alloc (.cells #[.int .i64 l, .int .u64 s] 70) = X at *
  have hX2 : X.heap.size = w2.heap.size + 1 := by rw [← hX]; simp
  clear hX
  generalize w2.heap.size = b7 at *
  have hrow := (HP.out.2.2.1.on hb2).z
  have hone := zn_one ⟨i, j, m, n, l, s⟩
  dsimp only [Zn.cells] at hone
  obtain ⟨v0, v1, v2, v3, _⟩ := k6.four
  obtain ⟨u0, u1, _⟩ := k7.two
  obtain ⟨p0, p1, p2, p3, p4, o0, o1, o2, o3, o4⟩ := kp.five
  have l6 := k6.1
  have l7 := k7.1
  have lp := kp.1
  have q53c := ((kp.on_alloc (.cells #[.int .i64 i, .int .i64 j, .int .i64 m, .int .i64 n, .int .i64 l, .int .u64 s] 72)).2 2 _ rfl).1
  obtain ⟨i0, hin, hz0, hz1, hz2⟩ := info_parts infoPZ
  have hXB : Below X.heap.size X (X.alloc (.cells #[.int .i64 i, .int .i64 j, .int .i64 m, .int .i64 n, .int .i64 l, .int .u64 s] 72)).drew := on (below1 X _) (drew_below (n := 1) rfl)
  go_region_law (refine step_append_lies _ (by rfl) _ _ _ (by rfl) B 72 i0 _ 6 48 Tryz.underlying22 hin hz0 hz1 hz2 rfl (by omega) _ p.zs.length (flat Zn.cells p.zs) (by rfl) ((hrow.alloc _).drew) ⟨_, 0, none⟩ 1 1 [.int .i64 i, .int .i64 j, .int .i64 m, .int .i64 n, .int .i64 l, .int .u64 s] (by simp [Act.eval]) (by rfl) (World.news_of_block (cs := #[.int .i64 i, .int .i64 j, .int .i64 m, .int .i64 n, .int .i64 l, .int .u64 s]) (t := 72) (fr := (0, 0)) (heap_alloc_new X _)) hone (by omega) (by unfold maxLen; omega) (by omega) (by first | (simp; done) | (simp; omega)) (X.heap.size + 1) (by simp) ?_; intro g' cap' w5 hown' hgrow0 hloc0 hlt'; have q53 := (kp.on_alloc (.cells #[.int .i64 i, .int .i64 j, .int .i64 m, .int .i64 n, .int .i64 l, .int .u64 s] 72)).2 2 _ rfl; have h53 : b < (X.alloc (.cells #[.int .i64 i, .int .i64 j, .int .i64 m, .int .i64 n, .int .i64 l, .int .u64 s] 72)).drew.heap.size := by { simp; omega }; have o53 : w5.frozen? ⟨b, 2, none⟩ = false := (hgrow0.frozen_far ⟨b, 2, none⟩ h53 hne.symm).trans (by simpa using q53.2); have p53 : w5.cell? ⟨b, 2, none⟩ = some (.slice A1 p.zs.length c1) := (hgrow0.cell_far ⟨b, 2, none⟩ h53 hne.symm).trans (by simpa using q53.1))
  all_goals cases k <;> cases d
  all_goals go_wp2
  all_goals go_ret
  all_goals exact AddEnd.zone ⟨i, j, m, n, l, s⟩ HP.out (on hb2 hXB) hown' hgrow0 (by simpa using hloc0) _
set_option maxRecDepth 100000 in
set_option maxHeartbeats 2000000 in
theorem addGrant_c (B b : Nat) (p : Pl) (A1 : Option Addr) (c1 : Nat) (A2 : Option Addr) (c2 : Nat) (A3 : Option Addr) (c3 : Nat) (x u v : ByteArray) (hu : u.size ≤ 100000) (hv : v.size ≤ 100000) (l : Int) (s : Nat) (j : Int) (r : Nat) (k d : Bool) (h0 : LabIs u.data.toList l s k) (h1 : LabIs v.data.toList j r d) (hn : p.gs.length ≤ 100000) (w : World) (hL : Libs w) (hp : PolAt B b p A1 c1 A2 c2 A3 c3 w) :
    Calls Tryz.prog 82 #[.pointer (some ⟨b, 0, none⟩), .string x, .string u, .string v] w (AddEnd B b (Ln.put p (.grant ⟨x, l, s, j, r⟩)) w (.bool (k && d))) := by
  have HP := Lib.hid hp
  have HL := Lib.hid hL
  have HM := Lib.hid (fun w1 h => lab_x u hu h0 w1 h)
  have HN := Lib.hid (fun w1 h => lab_x v hv h1 w1 h)
  have kp := hp.2.1
  have hBb := hp.1
  have hne := hp.2.2.2.2.2
  clear hp hL h1 h0
  go_enter Tryz.func82, Tryz.ntmps82
  go_wp2_with fail
  refine (HM.out _ HL.out).mono ?_
  rintro e w1 ⟨rfl, hb1⟩
  have k6 := CellsAt.new w1 [.int .i64 l, .int .u64 s] 70
  change CellsAt (w1.alloc (.cells #[.int .i64 l, .int .u64 s] 70)) w1.heap.size [.int .i64 l, .int .u64 s] at k6
  replace hb1 := on hb1 (below1 w1 (.cells #[.int .i64 l, .int .u64 s] 70))
  have hs1 := hb1.size
  go_wp2_with fail
  generalize hX1 : w1.alloc (.cells #[.int .i64 l, .int .u64 s] 70) = X1 at *
  clear hX1
  generalize w1.heap.size = b6 at *
  refine (HN.out _ (HL.out.grown hb1)).mono ?_
  rintro e w2 ⟨rfl, hb2⟩
  have k7 := CellsAt.new w2 [.int .i64 j, .int .u64 r] 70
  change CellsAt (w2.alloc (.cells #[.int .i64 j, .int .u64 r] 70)) w2.heap.size [.int .i64 j, .int .u64 r] at k7
  replace hb2 := on hb2 (below1 w2 (.cells #[.int .i64 j, .int .u64 r] 70))
  replace k6 := k6.on hb2
  replace hb2 := on hb1 hb2
  replace kp := kp.on hb2
  clear hb1
  go_upto_region 3 with fail
  generalize hX : w2.alloc (.cells #[.int .i64 j, .int .u64 r] 70) = X at *
  have hX2 : X.heap.size = w2.heap.size + 1 := by rw [← hX]; simp
  clear hX
  generalize w2.heap.size = b7 at *
  have hrow := (HP.out.2.2.1.on hb2).g
  have hone := gr_one ⟨x, l, s, j, r⟩
  dsimp only [Gr.cells] at hone
  obtain ⟨v0, v1, _⟩ := k6.two
  obtain ⟨u0, u1, _⟩ := k7.two
  obtain ⟨p0, p1, p2, p3, p4, o0, o1, o2, o3, o4⟩ := kp.five
  have l6 := k6.1
  have l7 := k7.1
  have lp := kp.1
  have q53c := ((kp.on_alloc (.cells #[.string x, .int .i64 l, .int .u64 s, .int .i64 j, .int .u64 r] 78)).2 4 _ rfl).1
  obtain ⟨i0, hin, hz0, hz1, hz2⟩ := info_parts infoPG
  have hXB : Below X.heap.size X (X.alloc (.cells #[.string x, .int .i64 l, .int .u64 s, .int .i64 j, .int .u64 r] 78)).drew := on (below1 X _) (drew_below (n := 1) rfl)
  go_region_law (refine step_append_lies _ (by rfl) _ _ _ (by rfl) B 78 i0 _ 5 48 Tryz.underlying24 hin hz0 hz1 hz2 rfl (by omega) _ p.gs.length (flat Gr.cells p.gs) (by rfl) ((hrow.alloc _).drew) ⟨_, 0, none⟩ 1 1 [.string x, .int .i64 l, .int .u64 s, .int .i64 j, .int .u64 r] (by simp [Act.eval]) (by rfl) (World.news_of_block (cs := #[.string x, .int .i64 l, .int .u64 s, .int .i64 j, .int .u64 r]) (t := 78) (fr := (0, 0)) (heap_alloc_new X _)) hone (by omega) (by unfold maxLen; omega) (by omega) (by first | (simp; done) | (simp; omega)) (X.heap.size + 1) (by simp) ?_; intro g' cap' w5 hown' hgrow0 hloc0 hlt'; have q53 := (kp.on_alloc (.cells #[.string x, .int .i64 l, .int .u64 s, .int .i64 j, .int .u64 r] 78)).2 4 _ rfl; have h53 : b < (X.alloc (.cells #[.string x, .int .i64 l, .int .u64 s, .int .i64 j, .int .u64 r] 78)).drew.heap.size := by { simp; omega }; have o53 : w5.frozen? ⟨b, 4, none⟩ = false := (hgrow0.frozen_far ⟨b, 4, none⟩ h53 hne.symm).trans (by simpa using q53.2); have p53 : w5.cell? ⟨b, 4, none⟩ = some (.slice A3 p.gs.length c3) := (hgrow0.cell_far ⟨b, 4, none⟩ h53 hne.symm).trans (by simpa using q53.1))
  all_goals cases k <;> cases d
  all_goals go_wp2
  all_goals go_ret
  all_goals exact AddEnd.grant ⟨x, l, s, j, r⟩ HP.out (on hb2 hXB) hown' hgrow0 (by simpa using hloc0) _
end Go.Proofs.YtmlmanlcomfhbaaGreatDoor.Pol
namespace Go.Proofs.YtmlmanlcomfhbaaGreatDoor.Pol
open Go.RowKit Kit Reg
open Go.Proofs.YtmlmanlcomfhbaaGreatDoor.Addr (Libs)

/-- what the library's variables hold that are read -/
def PLibs (w : World) : Prop := Libs w ∧ ∃ m, w.cell? ⟨1, 0, none⟩ = some (.int .i64 m)
theorem PLibs.grown {w w' : World} (h : PLibs w) (hb : Below w.heap.size w w') : PLibs w' := ⟨h.1.grown hb, h.2.elim fun m hm => ⟨m, kept hb hm⟩⟩
theorem index_blank (s : ByteArray) : Lib.indexB s ⟨#[32]⟩ = Lib.indexByte s.data.toList 32 := by
  rw [Lib.one s _ rfl]
  rfl
theorem split_words : ∀ (k : Nat) (s : ByteArray), Lib.countB s ⟨#[32]⟩ = k → Lib.splitB ⟨#[32]⟩ 0 k s = bs (wordsF s.data.toList) := by
  intro k
  induction k with
  | zero =>
    intro s hk
    rcases cutAt_index 32 s.data.toList with ⟨hi, hc⟩ | ⟨i, hi, hl, hc⟩
    · rw [Lib.splitB_zero, words_one (Span.cutAt_no hc)]
      simp [bs]
    · rw [← index_blank] at hi
      have := Lib.countB_hit s ⟨#[32]⟩ i (by decide) hi
      omega
  | succ k ih =>
    intro s hk
    rcases cutAt_index 32 s.data.toList with ⟨hi, hc⟩ | ⟨i, hi, hl, hc⟩
    · rw [← index_blank] at hi
      have := Lib.countB_miss s ⟨#[32]⟩ hi
      omega
    · rw [← index_blank] at hi
      have hcb := Lib.countB_hit s ⟨#[32]⟩ i (by decide) hi
      obtain ⟨e1, e2⟩ := of_cutAt hc
      have hw : wordsF s.data.toList = s.data.toList.take i :: wordsF (s.data.toList.drop (i + 1)) := by
        conv => lhs; rw [e1]
        exact words_cons _ e2
      have hd : (s.extract (i + 1) s.size).data.toList = s.data.toList.drop (i + 1) := by
        rw [extract_mk]
        show (((s.data.toList.drop (i + 1)).take (s.size - (i + 1))).toArray).toList = _
        rw [List.toList_toArray]
        exact List.take_of_length_le (by rw [List.length_drop, list_size]; omega)
      have h2 := ih (s.extract (i + 1) s.size) (by
        have : (⟨#[32]⟩ : ByteArray).size = 1 := rfl
        rw [this] at hcb
        omega)
      rw [Lib.splitB_hit _ _ _ _ i hi, hw, Nat.add_zero]
      show s.extract 0 i :: Lib.splitB ⟨#[32]⟩ 0 k (s.extract (i + 1) s.size) = _
      rw [h2, hd, extract_mk]
      simp [bs]
/-- a text's words in memory -/
theorem words_c (s : ByteArray) (hs : s.size ≤ 100000) (w : World) (hm : ∃ m, w.cell? ⟨1, 0, none⟩ = some (.int .i64 m)) :
    Calls Tryz.prog 77 #[.string s, .string ⟨#[32]⟩] w fun e w' => ∃ g, e = .returned (.slice (some ⟨g, 0, none⟩) (wordsF s.data.toList).length (wordsF s.data.toList).length) ∧ w.heap.size ≤ g ∧ g < w'.heap.size ∧
      (∀ k x, (bs (wordsF s.data.toList))[k]? = some x → w'.cell? ⟨g, k, none⟩ = some (.string x)) ∧ Below w.heap.size w w' := by
  obtain ⟨m, hm⟩ := hm
  refine (Tryz.strings_Split s ⟨#[32]⟩ m w (by omega) hm (by decide)).mono ?_
  rintro e w' ⟨rfl, rfl⟩
  have hl := Lib.splitB_all ⟨#[32]⟩ (by decide) 0 _ s rfl
  have hw := split_words _ s rfl
  rw [hw, bs_length] at hl
  rw [hw, ← hl]
  refine ⟨w.heap.size, rfl, Nat.le_refl _, by simp, fun k x hk => ?_, below1 _ _⟩
  have := ((CellsAt.new w ((bs (wordsF s.data.toList)).map Value.string) 9).2 k (.string x) (by simp [hk])).1
  exact this
end Go.Proofs.YtmlmanlcomfhbaaGreatDoor.Pol
namespace Go.Proofs.YtmlmanlcomfhbaaGreatDoor.Pol
open Go.RowKit Kit Reg
open Go.Proofs.YtmlmanlcomfhbaaGreatDoor.Zone (Zn ZonesR)
open Go.Proofs.YtmlmanlcomfhbaaGreatDoor.Right (Us Gr UsersR GrantsR OwnS strs StrsR)
open Go.Proofs.YtmlmanlcomfhbaaGreatDoor.Cats (U U_zero LabIs)
open Go.Proofs.YtmlmanlcomfhbaaGreatDoor.Span (SpanIs mayS textI)
open Go.Proofs.YtmlmanlcomfhbaaGreatDoor.Addr (NumIs Libs)

/-- what adding a line comes to -/
def LnEnd (B b : Nat) (T : List UInt8) (p : Pl) (w : World) (e : Ending) (w' : World) : Prop :=
  ∃ (k : Nat) (o : Option Ln) (q : Pl) (A1 : Option Addr) (c1 : Nat) (A2 : Option Addr) (c2 : Nat) (A3 : Option Addr) (c3 : Nat),
    e = .returned (.int .i64 k) ∧ LnIs (T ++ [10]) o ∧ PolAt B b q A1 c1 A2 c2 A3 c3 w' ∧ Below B w w' ∧ (∀ x, o = some x → k = x.kind ∧ q = x.put p) ∧ (o = none → k = 0)
theorem LnEnd.some_ {B b : Nat} {T : List UInt8} {p : Pl} {w w' : World} {x : Ln} {k : Int} {A1 : Option Addr} {c1 : Nat} {A2 : Option Addr} {c2 : Nat} {A3 : Option Addr} {c3 : Nat} (h : LnIs (T ++ [10]) (some x)) (hk : k = x.kind) (hp : PolAt B b (x.put p) A1 c1 A2 c2 A3 c3 w') (hb : Below B w w') :
    LnEnd B b T p w (.returned (.int .i64 k)) w' :=
  ⟨x.kind, some x, x.put p, A1, c1, A2, c2, A3, c3, by rw [hk], h, hp, hb, (fun y e => by cases e; exact ⟨rfl, rfl⟩), fun e => (nomatch e)⟩
theorem LnEnd.none_ {B b : Nat} {T : List UInt8} {p q : Pl} {w w' : World} {A1 : Option Addr} {c1 : Nat} {A2 : Option Addr} {c2 : Nat} {A3 : Option Addr} {c3 : Nat} (h : LnIs (T ++ [10]) none) (hp : PolAt B b q A1 c1 A2 c2 A3 c3 w') (hb : Below B w w') :
    LnEnd B b T p w (.returned (.int .i64 0)) w' :=
  ⟨0, none, q, A1, c1, A2, c2, A3, c3, rfl, h, hp, hb, (fun _ e => (nomatch e)), fun _ => rfl⟩
theorem words_x (s : ByteArray) (hs : s.size ≤ 100000) (xs : List ByteArray) (hx : bs (wordsF s.data.toList) = xs) (n : Nat) (hn : xs.length = n) (w : World) (hm : PLibs w) :
    Calls Tryz.prog 77 #[.string s, .string ⟨#[32]⟩] w fun e w' => ∃ g, e = .returned (.slice (some ⟨g, 0, none⟩) n n) ∧ w.heap.size ≤ g ∧ g < w'.heap.size ∧
      (∀ k x, xs[k]? = some x → w'.cell? ⟨g, k, none⟩ = some (.string x)) ∧ Below w.heap.size w w' := by
  have h := words_c s hs w hm.2
  rw [hx] at h
  rw [← bs_length, hx, hn] at h
  exact h
theorem kind_x (x : ByteArray) (n : Nat) (m K : Int) (hm : m = n) (hK : K = kindF x.data.toList n) (w : World) : Calls Tryz.prog 78 #[.string x, .int .i64 m] w fun e w' => e = .returned (.int .i64 K) ∧ w = w' := by
  subst hm hK
  exact kind_c x n w

theorem two_of {α : Type} : ∀ {xs : List α}, xs.length = 2 → ∃ a b, xs = [a, b]
  | [a, b], _ => ⟨a, b, rfl⟩
theorem three_of {α : Type} : ∀ {xs : List α}, xs.length = 3 → ∃ a b c, xs = [a, b, c]
  | [a, b, c], _ => ⟨a, b, c, rfl⟩
theorem words_count : ∀ T : List UInt8, (wordsF T).length ≤ T.length + 1
  | [] => by simp [wordsF]
  | c :: r => by
    have ih := words_count r
    unfold wordsF
    split
    · simp; omega
    · split
      · simp
      · rename_i w ws e
        rw [e] at ih
        simp at ih ⊢
        omega

set_option maxRecDepth 100000 in
set_option maxHeartbeats 2000000 in
theorem add_grid (B b : Nat) (p : Pl) (A1 : Option Addr) (c1 : Nat) (A2 : Option Addr) (c2 : Nat) (A3 : Option Addr) (c3 : Nat) (t : ByteArray) (ht : t.size ≤ 100000) (x0 x1 x2 : ByteArray) (hx : bs (wordsF t.data.toList) = [x0, x1, x2]) (h0 : x0.data.toList = gridW) (w : World) (hL : PLibs w) (hp : PolAt B b p A1 c1 A2 c2 A3 c3 w) :
    Calls Tryz.prog 55 #[.pointer (some ⟨b, 0, none⟩), .string t] w (LnEnd B b t.data.toList p w) := by
  obtain ⟨n, d, hN⟩ := NumIs.some_one x1.data.toList
  obtain ⟨m, k, hM⟩ := NumIs.some_one x2.data.toList
  have s1 := word_size t x1 (by rw [hx]; simp)
  have s2 := word_size t x2 (by rw [hx]; simp)
  have HLn : Hid (LnIs (t.data.toList ++ [10]) (if (d && k) = true then some (.grid (n + 1) (m + 1)) else none)) := by
    refine Lib.hid (LnIs.of_words ?_)
    rw [bs_at hx]
    simp only [List.map_cons, List.map_nil, h0]
    exact WIs.grid hN hM
  have HW := Lib.hid (fun w1 h => words_x t ht _ hx 3 rfl w1 h)
  have HK := Lib.hid (fun w1 => kind_x x0 2 2 1 rfl (by rw [h0]; rfl) w1)
  have HA := Lib.hid (fun w1 h1 h2 => addGrid_c B b p A1 c1 A2 c2 A3 c3 x1 x2 (by omega) (by omega) n m d k hN hM w1 h1 h2)
  have HL := Lib.hid hL
  have HP := Lib.hid hp
  have hBb : B ≤ b := hp.1
  have hbl : b < w.heap.size := hp.2.1.1
  clear hN hM hL hp hx h0 s1 s2
  generalize t.data.toList = T at *
  go_enter Tryz.func55, Tryz.ntmps55
  go_wp2_with fail
  refine (HW.out _ HL.out).mono ?_
  rintro e w1 ⟨g, rfl, hg, hgl, hc, hb1⟩
  have g0 := hc 0 x0 rfl
  have g1 := hc 1 x1 rfl
  have g2 := hc 2 x2 rfl
  clear hc
  go_wp2_with (go_at_call 78; refine (HK.out _).mono ?_; rintro e w' ⟨rfl, rfl⟩)
  go_still_tail 7, (by kernel_rfl)
  change wpList _ _ _ _ _ w1.drew
  have hb2 : Below w.heap.size w w1.drew := on hb1 (drew_below (n := 1) rfl)
  generalize w1.drew = w2 at *
  go_wp2_with fail
  refine (HA.out _ (HL.out.1.grown hb2) (HP.out.on hb2)).mono ?_
  rintro e w3 ⟨D1, d1, D2, d2, D3, d3, rfl, hP3, hb3⟩
  have hb4 := (hb2.mono (show B ≤ w.heap.size by omega)).trans hb3
  clear hb3 hb2 hb1 HA HK HW HL HP g0 g1 g2
  cases d <;> cases k
  case true.true =>
    have HL2 : Hid (LnIs (T ++ [10]) (some (.grid (n + 1) (m + 1)))) := HLn
    go_wp2
    go_ret
    exact LnEnd.some_ HL2.out rfl hP3 hb4
  all_goals
    have HL2 : Hid (LnIs (T ++ [10]) none) := HLn
    go_wp2
    go_ret
    exact LnEnd.none_ HL2.out hP3 hb4
set_option maxRecDepth 100000 in
set_option maxHeartbeats 2000000 in
theorem add_zone (B b : Nat) (p : Pl) (A1 : Option Addr) (c1 : Nat) (A2 : Option Addr) (c2 : Nat) (A3 : Option Addr) (c3 : Nat) (t : ByteArray) (ht : t.size ≤ 100000) (x0 x1 x2 : ByteArray) (hx : bs (wordsF t.data.toList) = [x0, x1, x2]) (h0 : x0.data.toList = zoneW) (hl : p.zs.length ≤ 100000) (w : World) (hL : PLibs w) (hp : PolAt B b p A1 c1 A2 c2 A3 c3 w) :
    Calls Tryz.prog 55 #[.pointer (some ⟨b, 0, none⟩), .string t] w (LnEnd B b t.data.toList p w) := by
  obtain ⟨i, j, m, n, d, hN⟩ := SpanIs.some_one x1.data.toList
  obtain ⟨l, s, k, hM⟩ := LabIs.some_one x2.data.toList
  have s1 := word_size t x1 (by rw [hx]; simp)
  have s2 := word_size t x2 (by rw [hx]; simp)
  have HLn : Hid (LnIs (t.data.toList ++ [10]) (if (d && k) = true then some (.zone ⟨i, j, m, n, l, s⟩) else none)) := by
    refine Lib.hid (LnIs.of_words ?_)
    rw [bs_at hx]
    simp only [List.map_cons, List.map_nil, h0]
    exact WIs.zone hN hM
  have HW := Lib.hid (fun w1 h => words_x t ht _ hx 3 rfl w1 h)
  have HK := Lib.hid (fun w1 => kind_x x0 2 2 2 rfl (by rw [h0]; rfl) w1)
  have HA := Lib.hid (fun w1 h1 h2 => addZone_c B b p A1 c1 A2 c2 A3 c3 x1 x2 (by omega) (by omega) i j m n l s d k hN hM hl w1 h1 h2)
  have HL := Lib.hid hL
  have HP := Lib.hid hp
  have hBb : B ≤ b := hp.1
  have hbl : b < w.heap.size := hp.2.1.1
  clear hN hM hL hp hx h0 s1 s2
  generalize t.data.toList = T at *
  go_enter Tryz.func55, Tryz.ntmps55
  go_wp2_with fail
  refine (HW.out _ HL.out).mono ?_
  rintro e w1 ⟨g, rfl, hg, hgl, hc, hb1⟩
  have g0 := hc 0 x0 rfl
  have g1 := hc 1 x1 rfl
  have g2 := hc 2 x2 rfl
  clear hc
  go_wp2_with (go_at_call 78; refine (HK.out _).mono ?_; rintro e w' ⟨rfl, rfl⟩)
  go_still_tail 7, (by kernel_rfl)
  change wpList _ _ _ _ _ w1.drew
  have hb2 : Below w.heap.size w w1.drew := on hb1 (drew_below (n := 1) rfl)
  generalize w1.drew = w2 at *
  go_wp2_with fail
  refine (HA.out _ (HL.out.1.grown hb2) (HP.out.on hb2)).mono ?_
  rintro e w3 ⟨D1, d1, D2, d2, D3, d3, rfl, hP3, hb3⟩
  have hb4 := (hb2.mono (show B ≤ w.heap.size by omega)).trans hb3
  clear hb3 hb2 hb1 HA HK HW HL HP g0 g1 g2
  cases d <;> cases k
  case true.true =>
    have HL2 : Hid (LnIs (T ++ [10]) (some (.zone ⟨i, j, m, n, l, s⟩))) := HLn
    go_wp2
    go_ret
    exact LnEnd.some_ HL2.out rfl hP3 hb4
  all_goals
    have HL2 : Hid (LnIs (T ++ [10]) none) := HLn
    go_wp2
    go_ret
    exact LnEnd.none_ HL2.out hP3 hb4
set_option maxRecDepth 100000 in
set_option maxHeartbeats 2000000 in
theorem add_user (B b : Nat) (p : Pl) (A1 : Option Addr) (c1 : Nat) (A2 : Option Addr) (c2 : Nat) (A3 : Option Addr) (c3 : Nat) (t : ByteArray) (ht : t.size ≤ 100000) (x0 x1 x2 : ByteArray) (hx : bs (wordsF t.data.toList) = [x0, x1, x2]) (h0 : x0.data.toList = userW) (hl : p.us.length ≤ 100000) (w : World) (hL : PLibs w) (hp : PolAt B b p A1 c1 A2 c2 A3 c3 w) :
    Calls Tryz.prog 55 #[.pointer (some ⟨b, 0, none⟩), .string t] w (LnEnd B b t.data.toList p w) := by
  obtain ⟨l, s, k, hM⟩ := LabIs.some_one x2.data.toList
  have hbk := words_blank t.data.toList x1.data.toList (by rw [bs_at hx]; simp)
  have s2 := word_size t x2 (by rw [hx]; simp)
  have HLn : Hid (LnIs (t.data.toList ++ [10]) (if k = true then some (.user ⟨x1, l, s⟩) else none)) := by
    refine Lib.hid (LnIs.of_words ?_)
    rw [bs_at hx]
    simp only [List.map_cons, List.map_nil, h0]
    exact WIs.user hbk hM
  have HW := Lib.hid (fun w1 h => words_x t ht _ hx 3 rfl w1 h)
  have HK := Lib.hid (fun w1 => kind_x x0 2 2 3 rfl (by rw [h0]; rfl) w1)
  have HA := Lib.hid (fun w1 h1 h2 => addUser_c B b p A1 c1 A2 c2 A3 c3 x1 x2 (by omega) l s k hM hl w1 h1 h2)
  have HL := Lib.hid hL
  have HP := Lib.hid hp
  have hBb : B ≤ b := hp.1
  have hbl : b < w.heap.size := hp.2.1.1
  clear hM hL hp hx h0 s2 hbk
  generalize t.data.toList = T at *
  go_enter Tryz.func55, Tryz.ntmps55
  go_wp2_with fail
  refine (HW.out _ HL.out).mono ?_
  rintro e w1 ⟨g, rfl, hg, hgl, hc, hb1⟩
  have g0 := hc 0 x0 rfl
  have g1 := hc 1 x1 rfl
  have g2 := hc 2 x2 rfl
  clear hc
  go_wp2_with (go_at_call 78; refine (HK.out _).mono ?_; rintro e w' ⟨rfl, rfl⟩)
  go_still_tail 7, (by kernel_rfl)
  change wpList _ _ _ _ _ w1.drew
  have hb2 : Below w.heap.size w w1.drew := on hb1 (drew_below (n := 1) rfl)
  generalize w1.drew = w2 at *
  go_wp2_with fail
  refine (HA.out _ (HL.out.1.grown hb2) (HP.out.on hb2)).mono ?_
  rintro e w3 ⟨D1, d1, D2, d2, D3, d3, rfl, hP3, hb3⟩
  have hb4 := (hb2.mono (show B ≤ w.heap.size by omega)).trans hb3
  clear hb3 hb2 hb1 HA HK HW HL HP g0 g1 g2
  cases k
  case true =>
    have HL2 : Hid (LnIs (T ++ [10]) (some (.user ⟨x1, l, s⟩))) := HLn
    go_wp2
    go_ret
    exact LnEnd.some_ HL2.out rfl hP3 hb4
  all_goals
    have HL2 : Hid (LnIs (T ++ [10]) none) := HLn
    go_wp2
    go_ret
    exact LnEnd.none_ HL2.out hP3 hb4
set_option maxRecDepth 100000 in
set_option maxHeartbeats 2000000 in
theorem add_grant (B b : Nat) (p : Pl) (A1 : Option Addr) (c1 : Nat) (A2 : Option Addr) (c2 : Nat) (A3 : Option Addr) (c3 : Nat) (t : ByteArray) (ht : t.size ≤ 100000) (x0 x1 x2 x3 : ByteArray) (hx : bs (wordsF t.data.toList) = [x0, x1, x2, x3]) (h0 : x0.data.toList = grantW) (hl : p.gs.length ≤ 100000) (w : World) (hL : PLibs w) (hp : PolAt B b p A1 c1 A2 c2 A3 c3 w) :
    Calls Tryz.prog 55 #[.pointer (some ⟨b, 0, none⟩), .string t] w (LnEnd B b t.data.toList p w) := by
  obtain ⟨l, s, d, hN⟩ := LabIs.some_one x2.data.toList
  obtain ⟨j, m, k, hM⟩ := LabIs.some_one x3.data.toList
  have s1 := word_size t x2 (by rw [hx]; simp)
  have s2 := word_size t x3 (by rw [hx]; simp)
  have hbk := words_blank t.data.toList x1.data.toList (by rw [bs_at hx]; simp)
  have HLn : Hid (LnIs (t.data.toList ++ [10]) (if (d && k) = true then some (.grant ⟨x1, l, s, j, m⟩) else none)) := by
    refine Lib.hid (LnIs.of_words ?_)
    rw [bs_at hx]
    simp only [List.map_cons, List.map_nil, h0]
    exact WIs.grant hbk hN hM
  have HW := Lib.hid (fun w1 h => words_x t ht _ hx 4 rfl w1 h)
  have HK := Lib.hid (fun w1 => kind_x x0 3 3 4 rfl (by rw [h0]; rfl) w1)
  have HA := Lib.hid (fun w1 h1 h2 => addGrant_c B b p A1 c1 A2 c2 A3 c3 x1 x2 x3 (by omega) (by omega) l s j m d k hN hM hl w1 h1 h2)
  have HL := Lib.hid hL
  have HP := Lib.hid hp
  have hBb : B ≤ b := hp.1
  have hbl : b < w.heap.size := hp.2.1.1
  clear hN hM hL hp hx h0 s1 s2 hbk
  generalize t.data.toList = T at *
  go_enter Tryz.func55, Tryz.ntmps55
  go_wp2_with fail
  refine (HW.out _ HL.out).mono ?_
  rintro e w1 ⟨g, rfl, hg, hgl, hc, hb1⟩
  have g0 := hc 0 x0 rfl
  have g1 := hc 1 x1 rfl
  have g2 := hc 2 x2 rfl
  have g3 := hc 3 x3 rfl
  clear hc
  go_wp2_with (go_at_call 78; refine (HK.out _).mono ?_; rintro e w' ⟨rfl, rfl⟩)
  go_still_tail 10, (by kernel_rfl)
  change wpList _ _ _ _ _ w1.drew
  have hb2 : Below w.heap.size w w1.drew := on hb1 (drew_below (n := 1) rfl)
  generalize w1.drew = w2 at *
  go_wp2_with fail
  refine (HA.out _ (HL.out.1.grown hb2) (HP.out.on hb2)).mono ?_
  rintro e w3 ⟨D1, d1, D2, d2, D3, d3, rfl, hP3, hb3⟩
  have hb4 := (hb2.mono (show B ≤ w.heap.size by omega)).trans hb3
  clear hb3 hb2 hb1 HA HK HW HL HP g0 g1 g2 g3
  cases d <;> cases k
  case true.true =>
    have HL2 : Hid (LnIs (T ++ [10]) (some (.grant ⟨x1, l, s, j, m⟩))) := HLn
    go_wp2
    go_ret
    exact LnEnd.some_ HL2.out rfl hP3 hb4
  all_goals
    have HL2 : Hid (LnIs (T ++ [10]) none) := HLn
    go_wp2
    go_ret
    exact LnEnd.none_ HL2.out hP3 hb4
/-- a line of no kind -/
theorem kind_none {ws : List (List UInt8)} {x : List UInt8} {r : List (List UInt8)} (h : ws = x :: r) (hk : kindF x r.length = 0) : WIs ws none := by
  subst h
  have h1 : ¬ (x = kindW 1 ∧ r.length = kindN 1) := fun e => by have := (kindF_at x r.length 1 (by omega) (by omega)).2 e; omega
  have h2 : ¬ (x = kindW 2 ∧ r.length = kindN 2) := fun e => by have := (kindF_at x r.length 2 (by omega) (by omega)).2 e; omega
  have h3 : ¬ (x = kindW 3 ∧ r.length = kindN 3) := fun e => by have := (kindF_at x r.length 3 (by omega) (by omega)).2 e; omega
  have h4 : ¬ (x = kindW 4 ∧ r.length = kindN 4) := fun e => by have := (kindF_at x r.length 4 (by omega) (by omega)).2 e; omega
  refine WIs.odd (fun hl => ?_) (fun hl => ?_)
  · have hr : r.length = 2 := by simpa using hl
    refine ⟨fun e => h1 ⟨by simpa [kindW] using e, hr⟩, fun e => h2 ⟨by simpa [kindW] using e, hr⟩, fun e => h3 ⟨by simpa [kindW] using e, hr⟩⟩
  · have hr : r.length = 3 := by simpa using hl
    exact fun e => h4 ⟨by simpa [kindW] using e, hr⟩
set_option maxRecDepth 100000 in
set_option maxHeartbeats 2000000 in
theorem add_none (B b : Nat) (p : Pl) (A1 : Option Addr) (c1 : Nat) (A2 : Option Addr) (c2 : Nat) (A3 : Option Addr) (c3 : Nat) (t : ByteArray) (ht : t.size ≤ 100000) (x0 : ByteArray) (xs : List ByteArray) (hx : bs (wordsF t.data.toList) = x0 :: xs) (h0 : kindF x0.data.toList xs.length = 0) (w : World) (hL : PLibs w) (hp : PolAt B b p A1 c1 A2 c2 A3 c3 w) :
    Calls Tryz.prog 55 #[.pointer (some ⟨b, 0, none⟩), .string t] w (LnEnd B b t.data.toList p w) := by
  have HLn : Hid (LnIs (t.data.toList ++ [10]) none) := by
    refine Lib.hid (LnIs.of_words ?_)
    rw [bs_at hx]
    exact kind_none (List.map_cons ..) (by rw [List.length_map]; exact h0)
  have hlen : xs.length ≤ 100000 := by
    have h1 := congrArg List.length hx
    rw [bs_length, List.length_cons] at h1
    have h2 := words_count t.data.toList
    rw [list_size] at h2
    omega
  have HW := Lib.hid (fun w1 h => words_x t ht _ hx (xs.length + 1) rfl w1 h)
  have HK := Lib.hid (fun w1 => kind_x x0 xs.length xs.length 0 rfl (by rw [h0]; rfl) w1)
  have HL := Lib.hid hL
  have HP := Lib.hid hp
  have hBb : B ≤ b := hp.1
  have hbl : b < w.heap.size := hp.2.1.1
  clear hL hp hx h0
  generalize t.data.toList = T at *
  generalize xs.length = n at *
  go_enter Tryz.func55, Tryz.ntmps55
  go_wp2_with fail
  refine (HW.out _ HL.out).mono ?_
  rintro e w1 ⟨g, rfl, hg, hgl, hc, hb1⟩
  have g0 := hc 0 x0 rfl
  clear hc
  go_wp2_with (go_at_call 78; refine (HK.out _).mono ?_; rintro e w' ⟨rfl, rfl⟩)
  all_goals go_ret
  all_goals exact LnEnd.none_ HLn.out (HP.out.on hb1) (hb1.mono (by omega))
/-- what add answers: for any line -/
theorem add_c (B b : Nat) (p : Pl) (A1 : Option Addr) (c1 : Nat) (A2 : Option Addr) (c2 : Nat) (A3 : Option Addr) (c3 : Nat) (t : ByteArray) (ht : t.size ≤ 100000) (l1 : p.zs.length ≤ 100000) (l2 : p.us.length ≤ 100000) (l3 : p.gs.length ≤ 100000) (w : World) (hL : PLibs w) (hp : PolAt B b p A1 c1 A2 c2 A3 c3 w) :
    Calls Tryz.prog 55 #[.pointer (some ⟨b, 0, none⟩), .string t] w (LnEnd B b t.data.toList p w) := by
  obtain ⟨x0, xs, hx⟩ : ∃ x0 xs, bs (wordsF t.data.toList) = x0 :: xs := by
    cases h : bs (wordsF t.data.toList) with
    | nil => exact absurd (List.map_eq_nil_iff.1 h) (wordsF_ne _)
    | cons y r => exact ⟨y, r, rfl⟩
  have h4 := kindF_le x0.data.toList xs.length
  have hat := kindF_at x0.data.toList xs.length
  have hK : kindF x0.data.toList xs.length = 0 ∨ kindF x0.data.toList xs.length = 1 ∨ kindF x0.data.toList xs.length = 2 ∨ kindF x0.data.toList xs.length = 3 ∨ kindF x0.data.toList xs.length = 4 := by omega
  rcases hK with h | h | h | h | h
  · exact add_none B b p A1 c1 A2 c2 A3 c3 t ht x0 xs hx h w hL hp
  · obtain ⟨e1, e2⟩ := (hat 1 (by omega) (by omega)).1 h
    obtain ⟨x1, x2, rfl⟩ : ∃ x1 x2, xs = [x1, x2] := two_of e2
    exact add_grid B b p A1 c1 A2 c2 A3 c3 t ht x0 x1 x2 hx e1 w hL hp
  · obtain ⟨e1, e2⟩ := (hat 2 (by omega) (by omega)).1 h
    obtain ⟨x1, x2, rfl⟩ : ∃ x1 x2, xs = [x1, x2] := two_of e2
    exact add_zone B b p A1 c1 A2 c2 A3 c3 t ht x0 x1 x2 hx e1 l1 w hL hp
  · obtain ⟨e1, e2⟩ := (hat 3 (by omega) (by omega)).1 h
    obtain ⟨x1, x2, rfl⟩ : ∃ x1 x2, xs = [x1, x2] := two_of e2
    exact add_user B b p A1 c1 A2 c2 A3 c3 t ht x0 x1 x2 hx e1 l2 w hL hp
  · obtain ⟨e1, e2⟩ := (hat 4 (by omega) (by omega)).1 h
    obtain ⟨x1, x2, x3, rfl⟩ : ∃ x1 x2 x3, xs = [x1, x2, x3] := three_of e2
    exact add_grant B b p A1 c1 A2 c2 A3 c3 t ht x0 x1 x2 x3 hx e1 l3 w hL hp
end Go.Proofs.YtmlmanlcomfhbaaGreatDoor.Pol
