/- What All of a span answers: a function over three variables of its own. -/
import Derived.Test.YtedpgcmmnmlpeaaSpanSize
namespace Go.Proofs.Ytedpgcmmnmlpeaa.Span
open Go.RowKit Kit Reg Go.Proofs.Ytedpgcmmnmlpeaa.Addr

/-- the three variables that the function holds -/
def Vars (W : World) (x y z : Nat) (R C p q : Int) : Prop := CellsAt W x [.int .i64 R] ∧ CellsAt W y [.int .i64 C] ∧ CellsAt W z [.int .i64 p, .int .i64 q]
theorem Vars.on {W W' : World} {x y z : Nat} {R C p q : Int} (h : Vars W x y z R C p q) (hb : Below W.heap.size W W') : Vars W' x y z R C p q := ⟨h.1.on hb, h.2.1.on hb, h.2.2.on hb⟩
theorem field_from (x y z u : Int) (w : World) : (Instr.field 26 (.agg #[.int .i64 x, .int .i64 y, .int .i64 z, .int .i64 u]) 0).run Try.prog w = .ok (.agg #[.int .i64 x, .int .i64 y]) w := by kernel_rfl
def AllEnd (R C p q : Int) (w : World) (e : Ending) (w' : World) : Prop :=
  ∃ x y z, e = .returned (.func (.func 37) #[] #[.pointer (some ⟨x, 0, none⟩), .pointer (some ⟨y, 0, none⟩), .pointer (some ⟨z, 0, none⟩)]) ∧ Vars w' x y z R C p q ∧ Below w.heap.size w w' ∧ w.heap.size ≤ x ∧ w.heap.size ≤ y ∧ w.heap.size ≤ z
theorem one_set {w : World} {b : Nat} {x : Value} (h : CellsAt w b [x]) (u : Value) : CellsAt (w.setCell ⟨b, 0, none⟩ u) b [u] := h.set (i := 0) (by simp) u
set_option maxRecDepth 100000 in
set_option maxHeartbeats 2000000 in
theorem all_c (a b c d : Int) (m : Bool) (hm : mayS a b c d = m) (R C p q : Int) (hR : ext m a c = R) (hC : ext m b d = C) (hp : lo m a c = p) (hq : lo m b d = q) (w : World) :
    Calls Try.prog 28 #[.agg #[.int .i64 a, .int .i64 b, .int .i64 c, .int .i64 d]] w (AllEnd R C p q w) := by
  have H1 := Lib.hid (fun w1 => rows_c a b c d m R hm hR w1)
  have H2 := Lib.hid (fun w1 => cols_c a b c d m C hm hC w1)
  have H3 := Lib.hid (fun w1 => straight_c a b c d m p q _ _ hm hp hq rfl rfl w1)
  have hmf : ∀ (fn : Fn) (first cap : Array Value) (w : World), (Instr.makeFunc fn first cap).run Try.prog w = .ok (.func fn first cap) w := fun _ _ _ _ => rfl
  have hfld := field_from
  clear hm hR hC hp hq
  generalize hi m a c = r at *
  generalize hi m b d = s at *
  go_enter Try.func28, Try.ntmps28
  go_wp2_with fail
  have hb0 := below1 w (.cells #[.int .i64 a, .int .i64 b, .int .i64 c, .int .i64 d] 26)
  have ha := CellsAt.new w [.int .i64 a, .int .i64 b, .int .i64 c, .int .i64 d] 26
  generalize (w.alloc (.cells [.int .i64 a, .int .i64 b, .int .i64 c, .int .i64 d].toArray 26)) = W at *
  obtain ⟨c0, c1, c2, c3, _⟩ := ha.four
  have C0 := fun d os => cell_regrown c0 d os
  have C1 := fun d os => cell_regrown c1 d os
  have C2 := fun d os => cell_regrown c2 d os
  have C3 := fun d os => cell_regrown c3 d os
  clear c0 c1 c2 c3
  refine wp_region_new 6 (fun d => match d with
    | 7 => some (Is (.int .i64 R))
    | 9 => some (Is (.int .i64 C))
    | 3 => some (NewCells W.heap.size [.int .i64 0])
    | 4 => some (NewCells W.heap.size [.int .i64 0])
    | _ => none) (fun d => d == 3 || d == 4) (by kernel_rfl) (by kernel_rfl) ?_
  simp only [List.take_succ_cons, List.take_zero, List.drop_succ_cons, List.drop_zero]
  repeat (first | (refine wpM_calm rfl rfl rfl ?_; intro K hK; go_big_quiet_op; go_big_quiet_on) | (refine wpM_skip rfl ?_; simp only [Act.put, List.setIfInBounds_toArray, List.set_cons_succ, List.set_cons_zero]))
  refine wpM_exact rfl rfl rfl Try.func35 (by kernel_rfl) (by kernel_rfl) (fun w1 _ _ => H1.out w1) rfl (by simp only [Act.put, List.setIfInBounds_toArray, List.set_cons_succ, List.set_cons_zero]; rfl) ?_
  repeat (first | (refine wpM_calm rfl rfl rfl ?_; intro K hK; go_big_quiet_op; go_big_quiet_on) | (refine wpM_skip rfl ?_; simp only [Act.put, List.setIfInBounds_toArray, List.set_cons_succ, List.set_cons_zero]))
  refine wpM_exact rfl rfl rfl Try.func36 (by kernel_rfl) (by kernel_rfl) (fun w1 _ _ => H2.out w1) rfl (by simp only [Act.put, List.setIfInBounds_toArray, List.set_cons_succ, List.set_cons_zero]; rfl) ?_
  refine wpM_alloc _ (.cells #[.int .i64 0] 3) rfl rfl rfl (fun w1 => by simp [go_sem]) (fun w1 h1 => (NewCells.mk w1 _ _ h1.size).2) ?_ (by rintro v ⟨_, b, rfl, _⟩; exact ⟨b, rfl⟩)
  intro b6 a' ha'
  simp only [Act.put, List.setIfInBounds_toArray, List.set_cons_succ, List.set_cons_zero] at ha'
  subst ha'
  refine wpM_alloc _ (.cells #[.int .i64 0] 3) rfl rfl rfl (fun w1 => by simp [go_sem]) (fun w1 h1 => (NewCells.mk w1 _ _ h1.size).2) ?_ (by rintro v ⟨_, b, rfl, _⟩; exact ⟨b, rfl⟩)
  intro b7 a' ha'
  simp only [Act.put, List.setIfInBounds_toArray, List.set_cons_succ, List.set_cons_zero] at ha'
  subst ha'
  refine wpM_nil ?_
  intro w4 hb4 hG
  have hne : b6 ≠ b7 := hG.2.1 4 b6 5 b7 (.inl (.inr ⟨rfl, rfl⟩)) (.inr ⟨rfl, rfl⟩) (by decide)
  obtain ⟨hB7, k7⟩ := NewCells.at (Fct.put_at (hG.2.2.1 5))
  obtain ⟨hB6, k6⟩ := NewCells.at (Fct.put_at (Fct.put_old (hG.2.2.1 4)))
  clear hG C0 C1 C2 C3
  have hs := hb0.size
  have hs2 := ha.1
  replace hb0 := on hb0 hb4
  replace ha := ha.on hb4
  obtain ⟨x0, x1⟩ := k6.one
  obtain ⟨y0, y1⟩ := (k7.far (p := ⟨b6, 0, none⟩) hne (.int .i64 R)).one
  replace ha := (ha.far (p := ⟨b6, 0, none⟩) (by show b6 ≠ _; omega) (.int .i64 R)).far (p := ⟨b7, 0, none⟩) (by show b7 ≠ _; omega) (.int .i64 C)
  have v6 := (one_set k6 (.int .i64 R)).far (p := ⟨b7, 0, none⟩) hne.symm (.int .i64 C)
  have v7 := one_set (k7.far (p := ⟨b6, 0, none⟩) hne (.int .i64 R)) (.int .i64 C)
  replace hb0 : Below w.heap.size w ((w4.setCell ⟨b6, 0, none⟩ (.int .i64 R)).setCell ⟨b7, 0, none⟩ (.int .i64 C)) := set1 (set1 hb0 (by omega) _) (by omega) _
  obtain ⟨c0, c1, c2, c3, _⟩ := ha.four
  clear k6 k7
  go_wp2_with fail
  refine (H3.out _).mono ?_
  rintro e' w5 ⟨rfl, hb5⟩
  replace hb0 := on_alloc (on hb0 hb5) (.cells #[.int .i64 p, .int .i64 q] 24)
  have v8 := CellsAt.new w5 [.int .i64 p, .int .i64 q] 24
  have l8 := v6.1
  have l9 := hb5.size
  replace v6 := (v6.on hb5).on_alloc (.cells #[.int .i64 p, .int .i64 q] 24)
  replace v7 := (v7.on hb5).on_alloc (.cells #[.int .i64 p, .int .i64 q] 24)
  clear hb5 c0 c1 c2 c3 ha x0 x1 y0 y1
  go_wp2
  go_ret
  exact ⟨_, _, _, rfl, ⟨v6, v7, v8⟩, hb0, by omega, by omega, by omega⟩
end Go.Proofs.Ytedpgcmmnmlpeaa.Span
