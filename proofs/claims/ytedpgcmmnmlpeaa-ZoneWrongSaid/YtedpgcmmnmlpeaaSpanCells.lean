/- What Cells of a span answers: a slice of its own that holds the span's cells row by row, if these are at most 1000; else none. -/
import Derived.Laws.MakeOwn
import Derived.Test.YtedpgcmmnmlpeaaSpanIter
namespace Go.Proofs.Ytedpgcmmnmlpeaa.Span
open Go.RowKit Go.Shelf Kit Reg Go.Proofs.Ytedpgcmmnmlpeaa.Addr
attribute [local go_sem] Oper.semAt_some

/-- cells of these cells, one behind the other -/
def flat (cs : List (Int × Int)) : List Value := cs.flatMap fun c => [.int .i64 c.1, .int .i64 c.2]
theorem flat_length (cs : List (Int × Int)) : (flat cs).length = cs.length * 2 := by
  induction cs with
  | nil => rfl
  | cons c r ih => simp only [flat, List.flatMap_cons, List.length_append, List.length_cons, List.length_nil] at *; omega
theorem flat_snoc (cs : List (Int × Int)) (c : Int × Int) : flat (cs ++ [c]) = flat cs ++ [.int .i64 c.1, .int .i64 c.2] := by simp [flat]
theorem infoC : (Try.prog.info? 24).map (fun i => (i.zero, i.size, i.bytes)) = some (some (.agg #[.int .i64 0, .int .i64 0]), 2, 16) := by kernel_rfl
/-- a slice of its own that holds these cells -/
def OwnRow (B : Nat) (v : Value) (cs : List (Int × Int)) (w : World) : Prop := w.ownsRow B 24 2 v cs.length (flat cs)
theorem two_new (w : World) (u : Int × Int) : ∀ j v, [Value.int .i64 u.1, Value.int .i64 u.2][j]? = some v → (w.alloc (.cells #[.int .i64 u.1, .int .i64 u.2] 24)).cell? ((⟨w.heap.size, 0, none⟩ : Addr).add j) = some v := by
  intro j v hj
  rw [show ((⟨w.heap.size, 0, none⟩ : Addr).add j) = ⟨w.heap.size, j, none⟩ by unfold Addr.add; split <;> simp_all]
  exact ((CellsAt.new w [.int .i64 u.1, .int .i64 u.2] 24).2 j v hj).1
theorem Vars.far {W : World} {x y z : Nat} {R C p q : Int} (h : Vars W x y z R C p q) {b : Nat} (hx : b ≠ x) (hy : b ≠ y) (hz : b ≠ z) (v : Value) : Vars (W.setCell ⟨b, 0, none⟩ v) x y z R C p q :=
  ⟨h.1.far (p := ⟨b, 0, none⟩) hx v, h.2.1.far (p := ⟨b, 0, none⟩) hy v, h.2.2.far (p := ⟨b, 0, none⟩) hz v⟩
def CellsEnd (cs : List (Int × Int)) (w : World) (e : Ending) (w' : World) : Prop := ∃ v, e = .returned v ∧ OwnRow w.heap.size v cs w' ∧ Below w.heap.size w w'
set_option maxRecDepth 100000 in
set_option maxHeartbeats 1000000 in
theorem cells_big (a b c d : Int) (m : Bool) (n : Int) (hm : mayS a b c d = m) (hn : ext m a c * ext m b d = n) (h : 1000 < n) (w : World) :
    Calls Try.prog 17 #[.agg #[.int .i64 a, .int .i64 b, .int .i64 c, .int .i64 d]] w (CellsEnd [] w) := by
  have H1 := Lib.hid (fun w1 => size_c a b c d m n hm hn w1)
  clear hm hn
  go_enter Try.func17, Try.ntmps17
  go_wp2_with fail
  refine (H1.out _).mono ?_
  rintro e w1 ⟨rfl, hb1⟩
  have hb0 := on (below1 w _) hb1
  clear hb1
  go_wp2
  go_ret
  exact ⟨_, rfl, World.ownsRow_nil _ _ _ _, hb0⟩
set_option maxRecDepth 100000 in
set_option maxHeartbeats 4000000 in
theorem cells_few (a b c d : Int) (m : Bool) (R C S : Nat) (p q : Int) (hm : mayS a b c d = m) (hR : ext m a c = R) (hC : ext m b d = C) (hp : lo m a c = p) (hq : lo m b d = q) (hRC : R * C = S) (h : S ≤ 1000) (w : World) :
    Calls Try.prog 17 #[.agg #[.int .i64 a, .int .i64 b, .int .i64 c, .int .i64 d]] w (CellsEnd (upto (cellAt p q C) S) w) := by
  have hR9 : R ≤ 999 := by have := (ext_rows hm).2; omega
  have hC7 : C ≤ 702 := by have := (ext_cols hm).2; omega
  have hp9 : 0 ≤ p ∧ p ≤ 998 := by
    subst hp; cases m
    · rw [lo_false]; decide
    · exact (lo_range hm).1
  have hq7 : 0 ≤ q ∧ q ≤ 701 := by
    subst hq; cases m
    · rw [lo_false]; decide
    · exact (lo_range hm).2.1
  have hS : ext m a c * ext m b d = (S : Int) := by rw [hR, hC, ← hRC]; simp
  have H1 := Lib.hid (fun w1 => size_c a b c d m _ hm hS w1)
  have H2 := Lib.hid (fun w1 => all_c a b c d m hm R C p q hR hC hp hq w1)
  obtain ⟨i0, hi, hz0, hz1, hz2⟩ := info_parts infoC
  have hmk := fun w1 => run_make (P := Try.prog) w1 32 24 i0 _ Try.underlying32 hi hz0 .i64 .i64 0 (S : Int) (Int.le_refl _) (by omega) (by rw [hz2]; omega) (by omega)
  simp only [Int.toNat_zero, Int.toNat_natCast, hz1] at hmk
  have hZ : (madeCells (Value.agg #[.int .i64 0, .int .i64 0]).cells (S * 2)).size = S * 2 := size_madeCells _ _
  generalize madeCells (Value.agg #[.int .i64 0, .int .i64 0]).cells (S * 2) = Z at *
  have hd : decide (1000 < (S : Int)) = false := by simp; omega
  have HSt := Lib.hid (fun (x y z : Nat) (w1 : World) (hv : Vars w1 x y z R C p q) => iter_stops Fence.wide (3 - 1) trivial rfl (by decide) x y z R C p q hR9 hC7 hp9 hq7 w1 hv)
  rw [hRC] at HSt
  clear hm hR hC hp hq hS hRC hR9 hC7 hp9 hq7
  refine (callsIn_wide (n := 3)).1 ?_
  refine callsIn_of_wp_marks Try.func17 rfl trivial ?_ rfl
  simp only [Try.ntmps17, List.size_toArray, List.length_cons, List.length_nil, Nat.reduceAdd, Nat.reduceSub, Array.replicate_succ, Array.replicate_zero, List.push_toArray, List.append_toArray, List.nil_append, List.cons_append]
  gi_wp2_with fail
  have hb0 := below1 w (.cells #[.int .i64 a, .int .i64 b, .int .i64 c, .int .i64 d] 26)
  have ha := CellsAt.new w [.int .i64 a, .int .i64 b, .int .i64 c, .int .i64 d] 26
  refine ⟨trivial, (callsIn_wide.2 (H1.out _)).mono ?_⟩
  rintro e w1 ⟨rfl, hb1⟩
  replace hb0 := on hb0 hb1
  replace ha := ha.on hb1
  clear hb1
  have hlt := ha.1
  obtain ⟨c0, c1, c2, c3, _⟩ := ha.four
  have hrow := World.ownsRow_made (base := w.heap.size) (e := 24) (size := 2) w1 Z S (by omega) (by simp [maxLen]; omega) hZ
  have hbox := Boxed.new (w1.alloc (.cells Z 24)) 32 (.slice (some ⟨w1.heap.size, 0, none⟩) 0 S)
  rw [World.size_alloc] at hbox
  replace hrow := hrow.alloc (.cells #[.slice (some ⟨w1.heap.size, 0, none⟩) 0 S] 32)
  have hb2 := on_alloc (on_alloc hb0 (.cells Z 24)) (.cells #[.slice (some ⟨w1.heap.size, 0, none⟩) 0 S] 32)
  gi_wp2_with fail
  generalize (w1.alloc (.cells Z 24)).alloc (.cells #[.slice (some ⟨w1.heap.size, 0, none⟩) 0 S] 32) = W0 at *
  have hlB := hbox.lt
  refine ⟨trivial, (callsIn_wide.2 (H2.out _)).mono ?_⟩
  rintro e w2 ⟨x, y, z, rfl, hv, hb3, hx, hy, hz⟩
  have hgr : W0.grownBy w2 none := ⟨hb3.os, hb3.tape, hb3.output, hb3.size, fun k hk _ => hb3.block k hk⟩
  replace hrow := hrow.kept hgr (.inr (by simp [Value.ownBlock]))
  replace hbox := hbox.kept hgr (by simp)
  replace hb2 := on hb2 hb3
  have hs2 := hb2.size
  have hSt := HSt.out x y z w2 hv
  clear hb3 hgr HSt H1 H2 c0 c1 c2 c3 ha hmk hZ
  gi_wp2_with fail
  refine wpIn_rangeFunc_ownH rfl (by decide) (gf := 37) (lb := #[.pointer (some ⟨x, 0, none⟩), .pointer (some ⟨y, 0, none⟩), .pointer (some ⟨z, 0, none⟩)]) rfl trivial (enters_of Try.func37 (by kernel_rfl) rfl)
    hSt (fun h k => keepV_t h k) (keepV_b ⟨hv.1.1, hv.2.1.1, hv.2.2.1⟩) (Below.refl _ _) (fun _ => rfl)
    (fun pre W => (∃ v, Boxed W (w1.heap.size + 1) 32 v ∧ W.ownsRow w.heap.size 24 2 v pre.length (flat pre) ∧ v = .slice (some ⟨w1.heap.size, 0, none⟩) pre.length S) ∧ Below w.heap.size w W)
    (fun _ _ _ => False)
    (OwnFrom.and (Own.from (holdsRow_own w.heap.size (w1.heap.size + 1) 32 24 2 (fun pre => pre.length) flat (fun pre v => v = .slice (some ⟨w1.heap.size, 0, none⟩) pre.length S)) _) (ownFrom_below (Nat.le_refl _) (by omega)))
    (fun _ _ _ _ _ hs _ _ => hs)
    ⟨⟨_, hbox, hrow, rfl⟩, hb2⟩
    (fun u a' W => ∃ Bx, w1.heap.size + 1 < Bx ∧ CellsAt W Bx [.int .i64 u.1, .int .i64 u.2] ∧ a' = { tmps := #[.agg #[.int .i64 a, .int .i64 b, .int .i64 c, .int .i64 d], .pointer (some ⟨w.heap.size, 0, none⟩), .slice none 0 0, .int .i64 S, .pointer (some ⟨w1.heap.size + 1, 0, none⟩), .pointer (some ⟨Bx, 0, none⟩),
      .agg #[.int .i64 a, .int .i64 b, .int .i64 c, .int .i64 d], .int .i64 S, .int .i64 S, .bool false, .int .i64 S, .slice (some ⟨w1.heap.size, 0, none⟩) 0 S, .agg #[.int .i64 a, .int .i64 b, .int .i64 c, .int .i64 d],
      .func (.func 37) #[] #[.pointer (some ⟨x, 0, none⟩), .pointer (some ⟨y, 0, none⟩), .pointer (some ⟨z, 0, none⟩)], .agg #[.int .i64 u.1, .int .i64 u.2], undef, undef, undef, undef, undef], defers := [] })
    (fun u a' _ X Y row hs hg hr => by obtain ⟨Bx, h1, h2, h3⟩ := hs; exact ⟨Bx, h1, CellsAt.own (by simp) h2 hg (fun r e => (hr r e).2), h3⟩)
    ?assign ?body ?done ?stop
  case assign =>
    rintro l pre u W K ⟨⟨v, hv1, hr1, rfl⟩, hB1⟩ hK
    simp only [encs]
    gi_wp2
    exact hK _ _ ((KeepsOthers.alloc _ _).from _) (fun hh => hh.on (below1 W _)) ⟨⟨_, hv1.alloc _, hr1.alloc _, rfl⟩, on_alloc hB1 _⟩ ⟨W.heap.size, hv1.lt, CellsAt.new W [.int .i64 u.1, .int .i64 u.2] 24, rfl⟩
  case body =>
    rintro l pre u a' W hl ⟨r, hr⟩ ⟨⟨v, hv1, hr1, rfl⟩, hB1⟩ ⟨Bx, hBx, hX, rfl⟩ hlt
    have cB := hv1.cell
    obtain ⟨x0, x1, _⟩ := hX.two
    have hsB := hB1.size
    have hnew := two_new W u
    gi_wp2_with (gi_at_builtin; refine wpListIn_append_fits _ rfl _ _ 32 rfl w.heap.size 24 i0 2 Try.underlying32 hi hz1 w1.heap.size pre.length S (flat pre) rfl (hr1.alloc _) ⟨W.heap.size, 0, none⟩ 1 1 [.int .i64 u.1, .int .i64 u.2] rfl rfl hnew (by simp [Value.oneCell']) (by omega) ?_; intro w3 hown' hgrow; obtain ⟨hv2, hv3, hr2, hk2, hb2'⟩ := hv1.appended (by decide) hr1 hsB (by omega) hown' hgrow; have hc1 := hv2.cell; have hf1 := hv2.frozen)
    refine ⟨hk2.from _, fun hh => ((hh.on (below1 W _)).grownBy hgrow (by simp; omega) (by simp; omega) (by simp; omega)).far (by omega) (by omega) (by omega) _, ⟨⟨_, hv3, ?_, ?_⟩, hB1.trans hb2'⟩⟩
    · rw [flat_snoc, List.length_append]; exact hr2
    · rw [List.length_append]; rfl
  case done =>
    rintro D ys W hD rfl ⟨⟨v, hv1, hr1, rfl⟩, hB1⟩ hK
    have cB := hv1.cell
    gi_wp2
    refine ⟨by simp, .inl ⟨_, _, rfl, run_takeDeferred hK, ?_⟩⟩
    refine ⟨_, results_tmp rfl _ _ _, .slice (some ⟨w1.heap.size, 0, none⟩) (upto (cellAt p q C) S).length S, rfl, ?_, hB1.trans (belowK_b (w := w) (Nat.le_refl _) W D _ _ (by omega) hK rfl rfl)⟩
    exact ownsRow_putObj hr1 _ hK rfl
  case stop =>
    rintro D u pre W _ _ hh _
    exact hh.elim
end Go.Proofs.Ytedpgcmmnmlpeaa.Span
