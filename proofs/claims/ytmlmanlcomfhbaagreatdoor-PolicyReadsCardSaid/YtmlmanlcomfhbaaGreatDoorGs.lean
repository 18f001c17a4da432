/- What strings.Builder's WriteString does, at a program whose copyCheck ends in a branch that is refused: a builder of one's own holds the bytes behind those that it held.
   What the program's Text of a policy answers: its lines, one behind the other.
   What the program's Text of a policy answers: its lines, one behind the other (the walk). -/
import Derived.Lib.Builder
import Derived.Lib.AppendStr
import Derived.Lib.UnsafeStr
import Derived.Laws.Externs
import Derived.Laws.IdiomCopy
import Derived.Test.YtmlmanlcomfhbaaGreatDoorGa
import Derived.Test.YtmlmanlcomfhbaaGreatDoorShelf
import Derived.Test.YtmlmanlcomfhbaaGreatDoorGp
import Derived.Test.YtmlmanlcomfhbaaGreatDoorGn
import Derived.Test.YtmlmanlcomfhbaaGreatDoorSpanTextGo
import Derived.Test.YtmlmanlcomfhbaaGreatDoorGde
import Derived.Test.YtmlmanlcomfhbaaGreatDoorAddrGo
namespace Go.Proofs.YtmlmanlcomfhbaaGreatDoor.Kit
open Go.RowKit

theorem sizeBuilder : (Tryz.prog.info? 56).map (·.size) = some 2 := by kernel_rfl
theorem liesBuilder : liesAt Tryz.prog Tryz.prog.depth 56 (2 / Tryz.prog.cellsOf 56) 0 56 1 = true := by kernel_rfl
theorem infoByte : (Tryz.prog.info? 5).map (fun i => (i.zero, i.size, i.bytes)) = some (some (.int .u8 0), 1, 1) := by kernel_rfl
set_option maxHeartbeats 1000000 in
set_option maxRecDepth 100000 in
theorem check_used (b : Nat) (w : World) (h0 : w.cell? ⟨b, 0, none⟩ = some (.pointer (some ⟨b, 0, none⟩))) :
    Calls Tryz.prog 44 #[.pointer (some ⟨b, 0, none⟩)] w fun e w' => e = .returned (.tuple #[]) ∧ w' = w := by
  obtain ⟨j, hj, _⟩ := Option.map_eq_some_iff.1 sizeBuilder
  go_enter Tryz.func44, Tryz.ntmps44
  go_wp2
  rw [Lib.run_neq_ptr_same w _ Tryz.underlying53 hj]
  go_wp2
  go_end0
  exact ⟨rfl, rfl⟩
set_option maxHeartbeats 1000000 in
set_option maxRecDepth 100000 in
theorem check_fresh (b : Nat) (w : World) (h0 : w.cell? ⟨b, 0, none⟩ = some (.pointer none)) (hsh : w.shape? b = some (56, 2)) (hfz : w.frozen? ⟨b, 0, none⟩ = false) :
    Calls Tryz.prog 44 #[.pointer (some ⟨b, 0, none⟩)] w fun e w' => e = .returned (.tuple #[]) ∧ w' = w.setCell ⟨b, 0, none⟩ (.pointer (some ⟨b, 0, none⟩)) := by
  obtain ⟨j, hj, hjs⟩ := Option.map_eq_some_iff.1 sizeBuilder
  go_enter Tryz.func44, Tryz.ntmps44
  go_wp2
  rw [Lib.run_to_unsafe w ⟨b, 0, none⟩ Tryz.underlying53 Tryz.underlying113 hj (by rw [hjs]; decide) hsh (Nat.zero_lt_succ 1)]
  simp only [Result.andThen]
  rw [Oper.upon_value]
  go_wp2
  rw [run_callFunc_extern Tryz.func66 (by kernel_rfl) (by kernel_rfl) (by kernel_rfl) (e := Extern.AbiNoEscape.same) (by kernel_rfl)]
  rw [Lib.run_noEscape]
  simp only [Result.andThen]
  rw [Oper.upon_value]
  go_wp2
  rw [Lib.run_from_unsafe w ⟨b, 0, none⟩ Tryz.underlying113 Tryz.underlying53 hj hsh liesBuilder]
  simp only [Result.andThen]
  rw [Oper.upon_value]
  go_wp2
  go_end0
  exact ⟨rfl, rfl⟩
/-- all blocks stay but one, and rows of bytes -/
def Stays (b : Nat) (w w' : World) : Prop := ∀ (g : Nat) (cs : Array Value) (T : TypeId) (fr : Nat × Nat), w.heap[g]? = some (.cells cs T fr) → T ≠ 5 → g ≠ b → w'.heap[g]? = some (.cells cs T fr)
theorem Stays.refl (b : Nat) (w : World) : Stays b w w := fun _ _ _ _ h _ _ => h
theorem Stays.trans {b : Nat} {w w' w2 : World} (h : Stays b w w') (k : Stays b w' w2) : Stays b w w2 := fun g cs T fr h0 h1 h2 => k g cs T fr (h g cs T fr h0 h1 h2) h1 h2
theorem Stays.set (b : Nat) (w : World) (i : Nat) (v : Value) : Stays b w (w.setCell ⟨b, i, none⟩ v) := fun _ _ _ _ h0 _ h2 => (Below.heap_setCell _ _ _ _ (fun e => h2 e)).trans h0
theorem lt_of_heap {w : World} {g : Nat} {o : Obj} (h : w.heap[g]? = some o) : g < w.heap.size := by
  rcases Nat.lt_or_ge g w.heap.size with h' | h'
  · exact h'
  · simp [Array.getElem?_eq_none h'] at h
theorem Stays.grown {w w' : World} {B n : Nat} {v : Value} {xs : List Value} (hown : w.ownsRow B 5 1 v n xs) (h : w.grownBy w' v.ownBlock) (b : Nat) : Stays b w w' := by
  intro g cs T fr h0 h1 _
  refine (h.block g (lt_of_heap h0) ?_).trans h0
  intro e
  rcases hown.2 with ⟨rfl, _⟩ | ⟨k, cap, cur, rfl, _, hk, _⟩
  · simp [Value.ownBlock] at e
  · simp only [Value.ownBlock, Option.some.injEq] at e
    subst e
    rw [hk] at h0
    simp only [Option.some.injEq, Obj.cells.injEq] at h0
    exact h1 h0.2.1.symm
theorem check_c (B b : Nat) (bs : List Value) (w : World) (h : Lib.IsBuilder 56 5 B b bs w) :
    Calls Tryz.prog 44 #[.pointer (some ⟨b, 0, none⟩)] w fun e w' => e = .returned (.tuple #[]) ∧ (Lib.BuilderAt 56 5 B b (.pointer (some ⟨b, 0, none⟩)) bs w' ∧ Below B w w') ∧ Stays b w w' := by
  rcases h with h | h
  · refine (check_fresh b w h.cell0 h.shape h.frozen0).mono ?_
    rintro e w' ⟨rfl, rfl⟩
    exact ⟨rfl, ⟨h.used _, (Below.refl B w).setCell (p := ⟨b, 0, none⟩) h.1 _⟩, Stays.set b w 0 _⟩
  · refine (check_used b w h.cell0).mono ?_
    rintro e w' ⟨rfl, rfl⟩
    exact ⟨rfl, ⟨h, Below.refl B _⟩, Stays.refl b _⟩
set_option maxHeartbeats 2000000 in
set_option maxRecDepth 100000 in
/-- bytes written behind those that a builder holds -/
theorem write_c (B b : Nat) (bs : List Value) (s : ByteArray) (w : World) (h : Lib.IsBuilder 56 5 B b bs w) (hlen : bs.length + s.size ≤ 140737488355328) (hBw : B ≤ w.heap.size) :
    Calls Tryz.prog 25 #[.pointer (some ⟨b, 0, none⟩), .string s] w fun e w' => e = .returned (.tuple #[.int .i64 s.size, .nilIface]) ∧ (Lib.BuilderAt 56 5 B b (.pointer (some ⟨b, 0, none⟩)) (bs ++ Lib.strCells s) w' ∧ Below B w w') ∧ Stays b w w' := by
  obtain ⟨i0, hi, hz0, hz1, hz2⟩ := info_parts infoByte
  go_enter Tryz.func25, Tryz.ntmps25
  go_wp2_with (go_at_call 44; refine (check_c B b bs _ h).mono ?_)
  rintro e w1 ⟨rfl, ⟨h1, hb1⟩, hst⟩
  obtain ⟨hB, v, hbk, hown, hne⟩ := h1
  have c0 : w1.cell? ⟨b, 0, none⟩ = some (.pointer (some ⟨b, 0, none⟩)) := by rw [Lib.cell_of_heap hbk]; rfl
  have c1 : w1.cell? ⟨b, 1, none⟩ = some v := by rw [Lib.cell_of_heap hbk]; rfl
  go_wp2_with (at_builtin; refine Lib.wpList_append_own_string _ rfl _ _ 54 9 rfl B 5 i0 Tryz.underlying54 Tryz.underlying9 hi hz0 hz1 hz2 _ _ _ rfl hown s rfl ?c3 ?c4 ?c5 ?_)
  case c3 => unfold maxLen; omega
  case c4 => omega
  case c5 => have := hb1.size; omega
  intro v' w2 hown' hgrow _
  have hlt : b < w1.heap.size := by
    rcases Nat.lt_or_ge b w1.heap.size with h' | h'
    · exact h'
    · simp [Array.getElem?_eq_none h'] at hbk
  have hb2 : w2.heap[b]? = some (.cells #[.pointer (some ⟨b, 0, none⟩), v] 56 (0, 0)) := by
    rw [hgrow.block b hlt (fun e => hne e.symm)]
    exact hbk
  have d0 : w2.cell? ⟨b, 0, none⟩ = some (.pointer (some ⟨b, 0, none⟩)) := by rw [Lib.cell_of_heap hb2]; rfl
  have d1 : w2.cell? ⟨b, 1, none⟩ = some v := by rw [Lib.cell_of_heap hb2]; rfl
  have f1 : w2.frozen? ⟨b, 1, none⟩ = false := Lib.frozen_of_heap hb2 1
  obtain ⟨ao, n', cap, rfl⟩ : ∃ ao n' cap, v' = .slice ao n' cap := by
    rcases hown'.2 with ⟨hv, _⟩ | ⟨g, cap, cur, hv, _⟩
    · exact ⟨_, _, _, hv⟩
    · exact ⟨_, _, _, hv⟩
  go_wp2
  go_ret2
  refine ⟨rfl, ⟨?_, ?_⟩, (hst.trans (Stays.grown hown hgrow b)).trans (Stays.set b w2 1 _)⟩
  · exact Lib.BuilderAt.put (T := 56) (e := 5) hB hb2 (bs' := bs ++ Lib.strCells s) (by simpa [Lib.strCells_length] using hown') (by decide)
  · exact (hb1.grown hgrow (by have := hb1.size; omega) (fun k hk => (hown.lt k hk).1)).setCell (p := ⟨b, 1, none⟩) hB _
/-- a builder of one's own, and what it holds -/
def HoldsB (B b : Nat) (l : List UInt8) (w : World) : Prop := Lib.IsBuilder 56 5 B b (Lib.byteCells l) w
theorem HoldsB.on {B b : Nat} {l : List UInt8} {w w' : World} (h : HoldsB B b l w) (hb : Below w.heap.size w w') : HoldsB B b l w' := by
  have go : ∀ p, Lib.BuilderAt 56 5 B b p (Lib.byteCells l) w → Lib.BuilderAt 56 5 B b p (Lib.byteCells l) w' := by
    rintro p ⟨hB, v, hbk, hown, hne⟩
    refine ⟨hB, v, (hb.block b (lt_of_heap hbk)).trans hbk, ⟨?_, ?_⟩, hne⟩
    · exact hown.1
    · rcases hown.2 with h1 | ⟨g, cap, cur, hv, hg, hgb, r⟩
      · exact .inl h1
      · exact .inr ⟨g, cap, cur, hv, hg, (hb.block g (lt_of_heap hgb)).trans hgb, r⟩
  rcases h with h | h
  · exact .inl (go _ h)
  · exact .inr (go _ h)
theorem HoldsB.new (w : World) : HoldsB w.heap.size w.heap.size [] (w.alloc (.cells #[.pointer none, .slice none 0 0] 56)) := Lib.fresh_isBuilder _ _ w
theorem HoldsB.lt {B b : Nat} {l : List UInt8} {w : World} (h : HoldsB B b l w) : B ≤ b ∧ b < w.heap.size := by
  rcases h with h | h
  · exact ⟨h.1, h.lt⟩
  · exact ⟨h.1, h.lt⟩
/-- bytes written -/
theorem put_c (B b : Nat) (l : List UInt8) (s : ByteArray) (w : World) (h : HoldsB B b l w) (hlen : l.length + s.size ≤ 140737488355328) (hBw : B ≤ w.heap.size) :
    Calls Tryz.prog 25 #[.pointer (some ⟨b, 0, none⟩), .string s] w fun e w' => e = .returned (.tuple #[.int .i64 s.size, .nilIface]) ∧ HoldsB B b (l ++ s.data.toList) w' ∧ Below B w w' ∧ Stays b w w' := by
  refine (write_c B b (Lib.byteCells l) s w h (by rw [Lib.byteCells_length]; exact hlen) hBw).mono ?_
  rintro e w' ⟨rfl, ⟨h1, h2⟩, h3⟩
  refine ⟨rfl, .inr ?_, h2, h3⟩
  rw [Lib.byteCells_append, ← Lib.strCells_eq]
  exact h1
theorem told_all (B b : Nat) (l : List UInt8) (w : World) (h : HoldsB B b l w) (hBw : B ≤ w.heap.size) : Calls Tryz.prog 30 #[.pointer (some ⟨b, 0, none⟩)] w fun e w' => e = .returned (.string ⟨l.toArray⟩) ∧ Below B w w' :=
  Tryz.Builder_String_any B b l w h hBw
end Go.Proofs.YtmlmanlcomfhbaaGreatDoor.Kit
namespace Go.Proofs.YtmlmanlcomfhbaaGreatDoor.Pol
open Go.RowKit Kit Reg
open Go.Proofs.YtmlmanlcomfhbaaGreatDoor.Zone (Zn ZonesR)
open Go.Proofs.YtmlmanlcomfhbaaGreatDoor.Right (Us Gr UsersR GrantsR)
open Go.Proofs.YtmlmanlcomfhbaaGreatDoor.Cats (U U_zero)
open Go.Proofs.YtmlmanlcomfhbaaGreatDoor.Addr (Libs)

theorem cells_under {w w' : World} {B b : Nat} {cs : List Value} (h : CellsAt w b cs) (hb : Below B w w') (hlt : b < B) : CellsAt w' b cs :=
  ⟨Nat.lt_of_lt_of_le h.1 hb.size, fun i v hi => ⟨(hb.cell (p := ⟨b, i, none⟩) hlt).trans (h.2 i v hi).1, (World.frozen?_of_block (a := ⟨b, i, none⟩) (hb.block b hlt)).trans (h.2 i v hi).2⟩⟩
/-- words behind blanks -/
def tailB (ws : List ByteArray) : List UInt8 := (ws.map fun x => 32 :: x.data.toList).flatten
theorem tailB_snoc {ws : List ByteArray} {j : Nat} {x : ByteArray} (h : ws[j]? = some x) : tailB (ws.take (j + 1)) = tailB (ws.take j) ++ 32 :: x.data.toList := by
  rw [tailB, tailB, List.take_add_one, h]
  simp
theorem kindW_short (k : Nat) : (kindW k).length ≤ 5 := by
  unfold kindW
  split <;> decide
set_option maxRecDepth 100000 in
set_option maxHeartbeats 2000000 in
/-- what the closure writes -/
theorem put_line (B b g : Nat) (l : List UInt8) (k : Nat) (h1 : 1 ≤ k) (h4 : k ≤ 4) (ws : List ByteArray) (n : Nat) (hn : ws.length = n) (h3 : n ≤ 3) (hs : ∀ x ∈ ws, x.size ≤ 1000) (hl : l.length ≤ 70368744177664) (w : World)
    (h : HoldsB B b l w) (hw : w.heap[g]? = some (.cells (ws.map Value.string).toArray 9 (0, 0))) (hgb : g ≠ b) (hBw : B ≤ w.heap.size) :
    Calls Tryz.prog 24 #[.int .i64 k, .slice (some ⟨g, 0, none⟩) n n, .pointer (some ⟨b, 0, none⟩)] w fun e w' => e = .returned (.tuple #[]) ∧ HoldsB B b (l ++ (kindW k ++ tailB ws ++ [10])) w' ∧ Below B w w' := by
  have HW := Lib.hid (fun w1 => word_c k h1 h4 w1)
  have hk5 := kindW_short k
  have HP := Lib.hid (fun (l' : List UInt8) (s : ByteArray) (w1 : World) h1 h2 h3 => put_c B b l' s w1 h1 h2 h3)
  have H0 := Lib.hid h
  have HS := Lib.hid hs
  have hmk := mk_size (kindW k)
  clear h hs
  generalize kindW k = K at *
  go_enter Tryz.func24, Tryz.ntmps24
  go_wp2_with (go_at_call 26; refine (HW.out _).mono ?_; rintro e w' ⟨rfl, rfl⟩)
  refine (HP.out l ⟨K.toArray⟩ _ H0.out (by omega) hBw).mono ?_
  rintro e w1 ⟨rfl, hh, hb1, hst⟩
  have HH := Lib.hid hh
  have HG := Lib.hid (hst g _ _ _ hw (by decide) hgb)
  have hBw1 := Nat.le_trans hBw hb1.size
  clear hh hst hw H0 HW
  go_wp2_with fail
  go_loopw [12] (fun i wr => ∃ (j : Nat), j ≤ n ∧ i = .int .i64 j ∧ Hid (HoldsB B b (l ++ (K ++ tailB (ws.take j))) wr) ∧ Below B w wr ∧ Hid (wr.heap[g]? = some (.cells (ws.map Value.string).toArray 9 (0, 0))) ∧ (tailB (ws.take j)).length ≤ j * 1001 ∧ B ≤ wr.heap.size) (fun i _ => n - (intOf i).toNat)
  case atStart => exact ⟨0, Nat.zero_le _, rfl, Lib.hid (by simpa [tailB] using HH.out), hb1, HG, by simp [tailB], hBw1⟩
  case round =>
    clear hb1 HH HG hBw1
    obtain ⟨j, hj, rfl, HH, hb, HG, hlen, hBr⟩ := hrel
    by_cases hlt : j < n
    · obtain ⟨x, hx⟩ : ∃ x, ws[j]? = some x := ⟨_, List.getElem?_eq_getElem (by omega)⟩
      have hxs := HS.out x (List.mem_of_getElem? hx)
      have HN := Lib.hid (tailB_snoc hx)
      have hc : wr.cell? ⟨g, j, none⟩ = some (.string x) := by rw [Lib.cell_of_heap HG.out]; simp [hx]
      have hgl := lt_of_heap HG.out
      have hlx := list_size x
      clear hx
      go_wp2_with fail
      refine (HP.out _ _ _ HH.out (by rw [List.length_append, List.length_append]; simp [ByteArray.size]; omega) hBr).mono ?_
      rintro e w2 ⟨rfl, hh, hb2, hst⟩
      have HH2 := Lib.hid hh
      have HG2 := Lib.hid (hst g _ _ _ HG.out (by decide) hgb)
      replace hb := hb.trans hb2
      have hB2 := Nat.le_trans hBr hb2.size
      clear hh hst HH HG hb2 hc hgl
      go_wp2_with fail
      refine (HP.out _ _ _ HH2.out (by rw [List.length_append, List.length_append, List.length_append]; simp; omega) hB2).mono ?_
      rintro e w3 ⟨rfl, hh, hb3, hst⟩
      have HH := Lib.hid hh
      have HG := Lib.hid (hst g _ _ _ HG2.out (by decide) hgb)
      replace hb := hb.trans hb3
      have hB3 := Nat.le_trans hB2 hb3.size
      clear hh hst HH2 HG2 hb3
      go_wp2
      go_roundw
      case rel => exact ⟨j + 1, by omega, by go_num, Lib.hid (by rw [HN.out]; have := HH.out; simpa using this), hb, HG, by rw [HN.out, List.length_append, List.length_cons]; omega, hB3⟩
      case measure => first | (simp [intOf]; done) | (simp [intOf]; omega)
    · obtain rfl : n = j := by omega
      rw [List.take_of_length_le (by omega)] at HH hlen
      go_wp2_with fail
      refine (HP.out _ _ _ HH.out (by rw [List.length_append, List.length_append]; simp [ByteArray.size]; omega) hBr).mono ?_
      rintro e w2 ⟨rfl, hh, hb2, hst⟩
      have HH2 := Lib.hid hh
      replace hb := hb.trans hb2
      clear hh hst HH HG hb2
      go_wp2
      go_end0
      exact ⟨rfl, by have := HH2.out; simpa using this, hb⟩
end Go.Proofs.YtmlmanlcomfhbaaGreatDoor.Pol
namespace Go.Proofs.YtmlmanlcomfhbaaGreatDoor.Pol
open Go.RowKit Kit Reg
open Go.Proofs.YtmlmanlcomfhbaaGreatDoor.Zone (Zn ZonesR)
open Go.Proofs.YtmlmanlcomfhbaaGreatDoor.Right (Us Gr UsersR GrantsR)
open Go.Proofs.YtmlmanlcomfhbaaGreatDoor.Cats (U U_zero)
open Go.Proofs.YtmlmanlcomfhbaaGreatDoor.Addr (Libs)

/-- new memory with these words -/
def NewStrs (B : Nat) (ws : List ByteArray) (v : Value) (w : World) : Prop := ∃ g, v = .slice (some ⟨g, 0, none⟩) ws.length ws.length ∧ B ≤ g ∧ w.heap[g]? = some (.cells (ws.map Value.string).toArray 9 (0, 0))
theorem NewStrs.up {B : Nat} {ws : List ByteArray} {v : Value} {w : World} (h : Up (NewStrs B ws v) w) : NewStrs B ws v w := by
  obtain ⟨w1, ⟨g, hv, hB, hg⟩, hb⟩ := h
  exact ⟨g, hv, hB, (hb.block g (lt_of_heap hg)).trans hg⟩
theorem NewStrs.mk (w : World) {B : Nat} (ws : List ByteArray) (hB : B ≤ w.heap.size) : Below w.heap.size w (w.alloc (.cells (ws.map Value.string).toArray 9)) ∧ NewStrs B ws (.slice (some ⟨w.heap.size, 0, none⟩) ws.length ws.length) (w.alloc (.cells (ws.map Value.string).toArray 9)) :=
  ⟨below1 _ _, w.heap.size, rfl, hB, heap_alloc_new w _⟩
theorem grid_line (r c : Int) : (Ln.grid r c).text = kindW 1 ++ tailB [⟨(rowT r).toArray⟩, ⟨(rowT c).toArray⟩] ++ [10] := by simp [Ln.text, Ln.words, joinW, kindW, tailB]
theorem zone_line (z : Zn) : (Ln.zone z).text = kindW 2 ++ tailB [⟨(Span.textI z.a z.b z.c z.d).toArray⟩, ⟨(Cats.labT z.l z.s).toArray⟩] ++ [10] := by simp [Ln.text, Ln.words, joinW, kindW, tailB]
theorem user_line (z : Us) : (Ln.user z).text = kindW 3 ++ tailB [z.name, ⟨(Cats.labT z.l z.s).toArray⟩] ++ [10] := by simp [Ln.text, Ln.words, joinW, kindW, tailB]
theorem grant_line (z : Gr) : (Ln.grant z).text = kindW 4 ++ tailB [z.name, ⟨(Cats.labT z.l z.s).toArray⟩, ⟨(Cats.labT z.k z.r).toArray⟩] ++ [10] := by simp [Ln.text, Ln.words, joinW, kindW, tailB]
theorem line_short (k : Nat) (ws : List ByteArray) (h : ws.length ≤ 3) (hs : ∀ x ∈ ws, x.size ≤ 1000) : (kindW k ++ tailB ws ++ [10]).length ≤ 4000 := by
  have hk := kindW_short k
  have ht : ∀ ws : List ByteArray, (∀ x ∈ ws, x.size ≤ 1000) → (tailB ws).length ≤ ws.length * 1001 := by
    intro ws
    induction ws with
    | nil => intro _; simp [tailB]
    | cons y r ih =>
      intro h
      have h1 := ih (fun x hx => h x (List.mem_cons_of_mem _ hx))
      have h2 := h y (List.mem_cons_self ..)
      have h3 := list_size y
      simp only [tailB, List.map_cons, List.flatten_cons, List.length_append, List.length_cons] at h1 ⊢
      omega
  have := ht ws hs
  simp only [List.length_append, List.length_cons, List.length_nil]
  omega
set_option maxRecDepth 100000 in
set_option maxHeartbeats 8000000 in
theorem textP_g (p : Pl) (A1 : Option Addr) (n1 c1 : Nat) (A2 : Option Addr) (n2 c2 : Nat) (A3 : Option Addr) (n3 c3 : Nat) (hcap : n2 ≤ c2) (w : World) (hL : Libs w) (hz : ZonesR w A1 n1 p.zs) (hu : UsersR w A2 n2 p.us) (hg : GrantsR w A3 n3 p.gs) (s1 : n1 ≤ 1000000) (s2 : n2 ≤ 1000000) (s3 : n3 ≤ 1000000) :
    Calls Tryz.prog 12 #[.agg #[.int .i64 p.rows, .int .i64 p.cols, .slice A1 n1 c1, .slice A2 n2 c2, .slice A3 n3 c3]] w fun e w' => e = .returned (.string ⟨(textP p).toArray⟩) ∧ Below w.heap.size w w' := by
  have hb0 := below1 w (.cells #[.int .i64 p.rows, .int .i64 p.cols, .slice A1 n1 c1, .slice A2 n2 c2, .slice A3 n3 c3] 26)
  have kp := CellsAt.new w [.int .i64 p.rows, .int .i64 p.cols, .slice A1 n1 c1, .slice A2 n2 c2, .slice A3 n3 c3] 26
  change CellsAt (w.alloc (.cells #[.int .i64 p.rows, .int .i64 p.cols, .slice A1 n1 c1, .slice A2 n2 c2, .slice A3 n3 c3] 26)) w.heap.size [.int .i64 p.rows, .int .i64 p.cols, .slice A1 n1 c1, .slice A2 n2 c2, .slice A3 n3 c3] at kp
  have HZ := Lib.hid hz
  have HU := Lib.hid hu
  have HG := Lib.hid hg
  have HL := Lib.hid hL
  have HW := Lib.hid (fun w1 h1 h2 h3 => wrongP_c p A1 n1 c1 A2 n2 c2 A3 n3 c3 hcap w1 h1 h2 h3)
  have hmf : ∀ (fn : Fn) (first cap : Array Value) (w : World), (Instr.makeFunc fn first cap).run Tryz.prog w = .ok (.func fn first cap) w := fun _ _ _ _ => rfl
  have lz := hz.1
  have lu := hu.1
  have lg := hg.1
  clear hz hu hg hL
  obtain ⟨p0, p1, p2, p3, p4, _⟩ := kp.five
  have lp := kp.1
  by_cases hw : (wrongP p).2 = 0
  case neg =>
    rw [textP, if_neg hw]
    have hn : ((wrongP p).2 == 0) = false := by rw [beq_eq_false_iff_ne]; exact hw
    generalize wrongP p = P at *
    clear hw
    go_enter Tryz.func12, Tryz.ntmps12
    go_wp2_with fail
    generalize w.alloc (.cells #[.int .i64 p.rows, .int .i64 p.cols, .slice A1 n1 c1, .slice A2 n2 c2, .slice A3 n3 c3] 26) = W at *
    refine (HW.out _ (HZ.out.on hb0) (HU.out.on hb0) (HG.out.on hb0)).mono ?_
    rintro e w1 ⟨rfl, hb1⟩
    go_wp2
    go_ret
    exact ⟨rfl, on hb0 hb1⟩
  case pos =>
    obtain ⟨hs, _, _, _⟩ := wrongP_ok hw
    simp only [sizeB, Bool.and_eq_true, decide_eq_true_eq] at hs
    have HR := Lib.hid (fun w1 h => Addr.itoa_row (p.rows - 1).toNat (by omega) p.rows (by omega) w1 h)
    have HC := Lib.hid (fun w1 h => Addr.itoa_row (p.cols - 1).toNat (by omega) p.cols (by omega) w1 h)
    have hok := wrongP_ok hw
    have HNU : Hid (∀ u ∈ p.us, u.name.size ≤ 16) := Lib.hid fun u hu => by
      have := name_short (wrongU_ok hok.2.2.1 u hu).1
      rwa [list_size] at this
    have HNG : Hid (∀ g ∈ p.gs, g.name.size ≤ 16) := Lib.hid fun g hg => by
      have h0 := (wrongG_ok hok.2.2.2 g hg).1
      rcases Right.findI_or p.us g.name 0 with e | ⟨i, u, hi, e, _⟩
      · omega
      · rw [← e]
        exact HNU.out u (List.mem_of_getElem? hi)
    clear hok
    have HT : Hid (textP p = textAll p) := Lib.hid (by rw [textP, if_pos hw])
    have HTA := Lib.hid (text_all p)
    have hl1 : (rowT p.rows).length ≤ 3 := (Addr.num_length _).2
    have hl2 : (rowT p.cols).length ≤ 3 := (Addr.num_length _).2
    have HGr := Lib.hid (grid_line p.rows p.cols)
    have hw2 : (wrongP p).2 = 0 := hw
    have HR' : Hid (∀ w1, Libs w1 → Calls Tryz.prog 27 #[.int .i64 p.rows] w1 fun e w' => e = .returned (.string ⟨(rowT p.rows).toArray⟩) ∧ Below w1.heap.size w1 w') := HR
    have HC' : Hid (∀ w1, Libs w1 → Calls Tryz.prog 27 #[.int .i64 p.cols] w1 fun e w' => e = .returned (.string ⟨(rowT p.cols).toArray⟩) ∧ Below w1.heap.size w1 w') := HC
    clear HR HC
    generalize hP : wrongP p = P at *
    obtain ⟨pa, pe⟩ := P
    simp only at hw2
    subst hw2
    clear hw hP hs
    generalize (Ln.grid p.rows p.cols).text = TG at *
    generalize rowT p.rows = t1 at *
    generalize rowT p.cols = t2 at *
    generalize textP p = TP at *
    generalize textAll p = TA at *
    generalize p.rows = r at *
    generalize p.cols = q at *
    go_enter Tryz.func12, Tryz.ntmps12
    go_wp2_with fail
    generalize w.alloc (.cells #[.int .i64 r, .int .i64 q, .slice A1 n1 c1, .slice A2 n2 c2, .slice A3 n3 c3] 26) = W at *
    refine (HW.out _ (HZ.out.on hb0) (HU.out.on hb0) (HG.out.on hb0)).mono ?_
    rintro e w1 ⟨rfl, hb1⟩
    replace hb0 := on hb0 hb1
    replace kp := kp.on hb1
    have hsw := hb0.size
    clear hb1 p0 p1 p2 p3 p4 lp HW
    have hB0 := HoldsB.new w1
    have hbx := below1 w1 (.cells #[.pointer none, .slice none 0 0] 56)
    have hszx : (w1.alloc (.cells #[.pointer none, .slice none 0 0] 56)).heap.size = w1.heap.size + 1 := by simp
    have hlt1 := kp.1
    replace hb0 := on hb0 hbx
    replace kp := kp.on hbx
    obtain ⟨p0, p1, p2, p3, p4, _⟩ := kp.five
    have lp := kp.1
    clear hbx
    go_wp2_with fail
    generalize w1.alloc (.cells #[.pointer none, .slice none 0 0] 56) = X at *
    generalize w1.heap.size = b at *
    have P0 := fun d os => cell_regrown p0 d os
    have P1 := fun d os => cell_regrown p1 d os
    have HLX := Lib.hid (HL.out.grown hb0)
    have HB0 := Lib.hid hB0
    clear p0 p1 p2 p3 p4 lp hB0
    refine wp_region_mem 8 (fun d => match d with
      | 24 => some (Is (.string ⟨t1.toArray⟩))
      | 27 => some (Is (.string ⟨t2.toArray⟩))
      | 28 => some (NewStrs X.heap.size [⟨t1.toArray⟩, ⟨t2.toArray⟩])
      | _ => none) (by kernel_rfl) (by kernel_rfl) ?_
    simp only [List.take_succ_cons, List.take_zero, List.drop_succ_cons, List.drop_zero]
    repeat (first | ((with_reducible refine wpM_calm ?_ ?_ ?_ ?_); exact rfl; exact rfl; exact rfl; intro K hK; go_big_quiet_op; go_big_quiet_on) | ((with_reducible refine wpM_skip ?_ ?_); exact rfl; simp only [Act.put, List.setIfInBounds_toArray, List.set_cons_succ, List.set_cons_zero]))
    refine wpM_exact rfl rfl rfl Tryz.func27 (by kernel_rfl) (by kernel_rfl) (fun w1 hw1 _ => HR'.out w1 (HLX.out.grown hw1)) rfl (by simp only [Act.put, List.setIfInBounds_toArray, List.set_cons_succ, List.set_cons_zero]; rfl) ?_
    repeat (first | ((with_reducible refine wpM_calm ?_ ?_ ?_ ?_); exact rfl; exact rfl; exact rfl; intro K hK; go_big_quiet_op; go_big_quiet_on) | ((with_reducible refine wpM_skip ?_ ?_); exact rfl; simp only [Act.put, List.setIfInBounds_toArray, List.set_cons_succ, List.set_cons_zero]))
    refine wpM_exact rfl rfl rfl Tryz.func27 (by kernel_rfl) (by kernel_rfl) (fun w1 hw1 _ => HC'.out w1 (HLX.out.grown hw1)) rfl (by simp only [Act.put, List.setIfInBounds_toArray, List.set_cons_succ, List.set_cons_zero]; rfl) ?_
    refine wpM_makes _ rfl rfl (fun w1 hw1 _ => ?_) ?_
    · simp [go_sem, variesUpon]
      exact NewStrs.mk w1 [⟨t1.toArray⟩, ⟨t2.toArray⟩] hw1.size
    rintro v ⟨_, g, rfl, _⟩ a' ha'
    simp only [Act.put, List.setIfInBounds_toArray, List.set_cons_succ, List.set_cons_zero] at ha'
    subst ha'
    refine wpM_nil ?_
    intro w4 hb4 hF
    obtain ⟨g', e, hg', hgc⟩ := NewStrs.up (Fct.put_at (hF 7))
    obtain rfl : g = g' := by simpa using e
    clear hF e
    have hs1 := mk_size t1
    have hs2 := mk_size t2
    have hBl := HB0.out.lt
    have hs4 := hb4.size
    have HLn := Lib.hid (fun h1 h2 => put_line b b g [] 1 (by omega) (by omega) [⟨t1.toArray⟩, ⟨t2.toArray⟩] 2 rfl (by omega) (by intro x hx; simp only [List.mem_cons, List.not_mem_nil, or_false] at hx; rcases hx with rfl | rfl <;> omega) (by simp) w4 h1 hgc (by omega) h2)
    have HB4 := Lib.hid (HB0.out.on hb4)
    replace hb0 := on hb0 hb4
    replace kp := kp.on hb4
    clear hb4 P0 P1 HR' HC' HB0 HLX hgc
    go_wp2_with fail
    refine (HLn.out HB4.out (by omega)).mono ?_
    rintro e w5 ⟨rfl, hh, hb5⟩
    have hx0 : HoldsB b b (TG ++ ((p.zs.take 0).map fun z => (Ln.zone z).text).flatten) w5 := by rw [HGr.out]; simpa using hh
    have hlx : (TG ++ ((p.zs.take 0).map fun z => (Ln.zone z).text).flatten).length ≤ 4000 + 0 * 4000 := by
      have := line_short 1 [⟨t1.toArray⟩, ⟨t2.toArray⟩] (by simp) (by intro x hx; simp only [List.mem_cons, List.not_mem_nil, or_false] at hx; rcases hx with rfl | rfl <;> omega)
      rw [HGr.out]
      simpa using this
    have HX0 := Lib.hid hx0
    replace hb0 := hb0.trans (hb5.mono (by omega))
    replace kp := cells_under kp hb5 (by omega)
    clear hh hb5 HLn HB4 hx0 hs4
    have hB5 := HX0.out.lt
    obtain ⟨p0, p1, p2, p3, p4, _⟩ := kp.five
    have lp := kp.1
    go_wp2_with fail
    go_loopw [33] (fun i wr => ∃ (k : Nat), k ≤ n1 ∧ i = .int .i64 k ∧ Hid (HoldsB b b (TG ++ ((p.zs.take k).map fun z => (Ln.zone z).text).flatten) wr) ∧ (TG ++ ((p.zs.take k).map fun z => (Ln.zone z).text).flatten).length ≤ 4000 + k * 4000 ∧ Below w.heap.size w wr ∧ CellsAt wr w.heap.size [.int .i64 r, .int .i64 q, .slice A1 n1 c1, .slice A2 n2 c2, .slice A3 n3 c3]) (fun i _ => n1 - (intOf i).toNat)
    case atStart => exact ⟨0, Nat.zero_le _, rfl, HX0, hlx, hb0, kp⟩
    case round =>
      clear hb0 kp HX0 hlx hB5 p0 p1 p2 p3 p4 lp
      obtain ⟨k, hk, rfl, HX, hlx, hb0, kp⟩ := hrel
      have hBr := HX.out.lt
      have lp := kp.1
      obtain ⟨p0, p1, p2, p3, p4, _⟩ := kp.five
      by_cases hlt : k < n1
      · obtain ⟨z, hzk⟩ : ∃ z, p.zs[k]? = some z := ⟨_, List.getElem?_eq_getElem (by omega)⟩
        have HN := Lib.hid (text_snoc Ln.zone TG p.zs k z hzk)
        obtain ⟨_, _, hU, h4⟩ := HZ.out.on hb0
        obtain ⟨bz, o, rfl, hblt, hcell⟩ := h4 (by omega)
        obtain ⟨c0, c1, c2, c3, c4, c5⟩ := Zone.zone_six (hcell k z hzk)
        have hUz := hU z (List.mem_of_getElem? hzk)
        have HS := Lib.hid (fun w1 h => Span.text_c z.a z.b z.c z.d w1 h)
        have HLa := Lib.hid (fun w1 => Cats.ltext_c z.l z.s hUz w1)
        have hls := Span.textI_short z.a z.b z.c z.d
        have hll := labT_short z.l z.s
        have HLine := Lib.hid (zone_line z)
        generalize Span.textI z.a z.b z.c z.d = ts at *
        generalize Cats.labT z.l z.s = tl at *
        generalize (Ln.zone z).text = TZ at *
        have hq := CellsAt.new wr [.int .i64 z.a, .int .i64 z.b, .int .i64 z.c, .int .i64 z.d, .int .i64 z.l, .int .u64 z.s] 72
        change CellsAt (wr.alloc (.cells #[.int .i64 z.a, .int .i64 z.b, .int .i64 z.c, .int .i64 z.d, .int .i64 z.l, .int .u64 z.s] 72)) wr.heap.size [.int .i64 z.a, .int .i64 z.b, .int .i64 z.c, .int .i64 z.d, .int .i64 z.l, .int .u64 z.s] at hq
        have hby := below1 wr (.cells #[.int .i64 z.a, .int .i64 z.b, .int .i64 z.c, .int .i64 z.d, .int .i64 z.l, .int .u64 z.s] 72)
        clear hU h4 hcell hzk hUz
        go_wp2_with fail
        generalize wr.alloc (.cells #[.int .i64 z.a, .int .i64 z.b, .int .i64 z.c, .int .i64 z.d, .int .i64 z.l, .int .u64 z.s] 72) = Y at *
        have HBY := Lib.hid (HX.out.on hby)
        replace hb0 := on hb0 hby
        replace kp := kp.on hby
        have hsy := hby.size
        generalize wr.heap.size = bq at *
        have Q0 := fun d os => cell_regrown (hq.2 0 _ rfl).1 d os
        have Q1 := fun d os => cell_regrown (hq.2 1 _ rfl).1 d os
        have Q2 := fun d os => cell_regrown (hq.2 2 _ rfl).1 d os
        have Q3 := fun d os => cell_regrown (hq.2 3 _ rfl).1 d os
        have Q4 := fun d os => cell_regrown (hq.2 4 _ rfl).1 d os
        have Q5 := fun d os => cell_regrown (hq.2 5 _ rfl).1 d os
        have lq := hq.1
        have HLX := Lib.hid (HL.out.grown hb0)
        clear p0 p1 p2 p3 p4 lp hq HX hby c0 c1 c2 c3 c4 c5
        refine wp_region_mem 8 (fun d => match d with
          | 40 => some (Is (.string ⟨ts.toArray⟩))
          | 43 => some (Is (.string ⟨tl.toArray⟩))
          | 44 => some (NewStrs Y.heap.size [⟨ts.toArray⟩, ⟨tl.toArray⟩])
          | _ => none) (by kernel_rfl) (by kernel_rfl) ?_
        simp only [List.take_succ_cons, List.take_zero, List.drop_succ_cons, List.drop_zero]
        repeat (first | ((with_reducible refine wpM_calm ?_ ?_ ?_ ?_); exact rfl; exact rfl; exact rfl; intro K hK; go_big_quiet_op; go_big_quiet_on) | ((with_reducible refine wpM_skip ?_ ?_); exact rfl; simp only [Act.put, List.setIfInBounds_toArray, List.set_cons_succ, List.set_cons_zero]))
        refine wpM_exact rfl rfl rfl Tryz.func28 (by kernel_rfl) (by kernel_rfl) (fun w1 hw1 _ => HS.out w1 (HLX.out.grown hw1)) rfl (by simp only [Act.put, List.setIfInBounds_toArray, List.set_cons_succ, List.set_cons_zero]; rfl) ?_
        repeat (first | ((with_reducible refine wpM_calm ?_ ?_ ?_ ?_); exact rfl; exact rfl; exact rfl; intro K hK; go_big_quiet_op; go_big_quiet_on) | ((with_reducible refine wpM_skip ?_ ?_); exact rfl; simp only [Act.put, List.setIfInBounds_toArray, List.set_cons_succ, List.set_cons_zero]))
        refine wpM_exact rfl rfl rfl Tryz.func29 (by kernel_rfl) (by kernel_rfl) (fun w1 hw1 _ => HLa.out w1) rfl (by simp only [Act.put, List.setIfInBounds_toArray, List.set_cons_succ, List.set_cons_zero]; rfl) ?_
        refine wpM_makes _ rfl rfl (fun w1 hw1 _ => ?_) ?_
        · simp [go_sem, variesUpon]
          exact NewStrs.mk w1 [⟨ts.toArray⟩, ⟨tl.toArray⟩] hw1.size
        rintro v ⟨_, g, rfl, _⟩ a' ha'
        simp only [Act.put, List.setIfInBounds_toArray, List.set_cons_succ, List.set_cons_zero] at ha'
        subst ha'
        refine wpM_nil ?_
        intro w4 hb4 hF
        obtain ⟨g', e, hg', hgc⟩ := NewStrs.up (Fct.put_at (hF 7))
        obtain rfl : g = g' := by simpa using e
        clear hF e
        have hs1 := mk_size ts
        have hs2 := mk_size tl
        have hs4 := hb4.size
        have HLn := Lib.hid (fun h1 h2 => put_line b b g (TG ++ ((p.zs.take k).map fun z => (Ln.zone z).text).flatten) 2 (by omega) (by omega) [⟨ts.toArray⟩, ⟨tl.toArray⟩] 2 rfl (by omega) (by intro x hx; simp only [List.mem_cons, List.not_mem_nil, or_false] at hx; rcases hx with rfl | rfl <;> omega) (by omega) w4 h1 hgc (by omega) h2)
        have HB4 := Lib.hid (HBY.out.on hb4)
        replace hb0 := on hb0 hb4
        replace kp := kp.on hb4
        clear hb4 HBY HLX hgc lq Q0 Q1 Q2 Q3 Q4 Q5
        go_wp2_with fail
        refine (HLn.out HB4.out (by omega)).mono ?_
        rintro e w5 ⟨rfl, hh, hb5⟩
        rw [← HLine.out, ← HN.out] at hh
        have HX5 := Lib.hid hh
        have hl5 := line_short 2 [⟨ts.toArray⟩, ⟨tl.toArray⟩] (by simp) (by intro x hx; simp only [List.mem_cons, List.not_mem_nil, or_false] at hx; rcases hx with rfl | rfl <;> omega)
        rw [← HLine.out] at hl5
        replace hb0 := hb0.trans (hb5.mono (by omega))
        replace kp := cells_under kp hb5 (by omega)
        clear hh hb5 HLn HB4 hs4 hsy
        go_wp2
        go_roundw
        case rel => exact ⟨k + 1, by omega, by go_num, HX5, by rw [HN.out, List.length_append]; omega, hb0, kp⟩
        case measure => first | (simp [intOf]; done) | (simp [intOf]; omega)
      · obtain rfl : n1 = k := by omega
        clear hlt hk
        rw [List.take_of_length_le (show p.zs.length ≤ n1 by omega)] at HX hlx
        generalize TG ++ (p.zs.map fun z => (Ln.zone z).text).flatten = T1 at *
        have HX0 : Hid (HoldsB b b (T1 ++ ((p.us.take 0).map fun z => (Ln.user z).text).flatten) wr) := Lib.hid (by simpa using HX.out)
        replace hlx : (T1 ++ ((p.us.take 0).map fun z => (Ln.user z).text).flatten).length ≤ (4000 + n1 * 4000) + 0 * 4000 := by simpa using hlx
        have hB5 := hBr
        clear HX hBr
        go_wp2_with fail
        go_loopw [50] (fun i wr => ∃ (k : Nat), k ≤ n2 ∧ i = .int .i64 k ∧ Hid (HoldsB b b (T1 ++ ((p.us.take k).map fun z => (Ln.user z).text).flatten) wr) ∧ (T1 ++ ((p.us.take k).map fun z => (Ln.user z).text).flatten).length ≤ (4000 + n1 * 4000) + k * 4000 ∧ Below w.heap.size w wr ∧ CellsAt wr w.heap.size [.int .i64 r, .int .i64 q, .slice A1 n1 c1, .slice A2 n2 c2, .slice A3 n3 c3]) (fun i _ => n2 - (intOf i).toNat)
        case atStart => exact ⟨0, Nat.zero_le _, rfl, HX0, hlx, hb0, kp⟩
        case round =>
          clear hb0 kp HX0 hlx hB5 p0 p1 p2 p3 p4 lp
          obtain ⟨k, hk, rfl, HX, hlx, hb0, kp⟩ := hrel
          have hBr := HX.out.lt
          have lp := kp.1
          obtain ⟨p0, p1, p2, p3, p4, _⟩ := kp.five
          by_cases hlt : k < n2
          · obtain ⟨z, hzk⟩ : ∃ z, p.us[k]? = some z := ⟨_, List.getElem?_eq_getElem (by omega)⟩
            have HN := Lib.hid (text_snoc Ln.user T1 p.us k z hzk)
            obtain ⟨_, _, hU, h4⟩ := HU.out.on hb0
            obtain ⟨bz, o, rfl, hblt, hcell⟩ := h4 (by omega)
            obtain ⟨c0, c1, c2⟩ := Right.user_cells (hcell k z hzk)
            have hUz := hU z (List.mem_of_getElem? hzk)
            have HLa := Lib.hid (fun w1 => Cats.ltext_c z.l z.s hUz w1)
            have hln := HNU.out z (List.mem_of_getElem? hzk)
            have hll := labT_short z.l z.s
            have HLine := Lib.hid (user_line z)
            generalize Cats.labT z.l z.s = tl at *
            generalize (Ln.user z).text = TZ at *
            have hq := CellsAt.new wr [.string z.name, .int .i64 z.l, .int .u64 z.s] 76
            change CellsAt (wr.alloc (.cells #[.string z.name, .int .i64 z.l, .int .u64 z.s] 76)) wr.heap.size [.string z.name, .int .i64 z.l, .int .u64 z.s] at hq
            have hby := below1 wr (.cells #[.string z.name, .int .i64 z.l, .int .u64 z.s] 76)
            clear hU h4 hcell hzk hUz
            go_wp2_with fail
            generalize wr.alloc (.cells #[.string z.name, .int .i64 z.l, .int .u64 z.s] 76) = Y at *
            have HBY := Lib.hid (HX.out.on hby)
            replace hb0 := on hb0 hby
            replace kp := kp.on hby
            have hsy := hby.size
            generalize wr.heap.size = bq at *
            have Q0 := fun d os => cell_regrown (hq.2 0 _ rfl).1 d os
            have Q1 := fun d os => cell_regrown (hq.2 1 _ rfl).1 d os
            have Q2 := fun d os => cell_regrown (hq.2 2 _ rfl).1 d os
            have lq := hq.1
            have HLX := Lib.hid (HL.out.grown hb0)
            clear p0 p1 p2 p3 p4 lp hq HX hby c0 c1 c2
            refine wp_region_mem 7 (fun d => match d with
              | 59 => some (Is (.string ⟨tl.toArray⟩))
              | 60 => some (NewStrs Y.heap.size [z.name, ⟨tl.toArray⟩])
              | _ => none) (by kernel_rfl) (by kernel_rfl) ?_
            simp only [List.take_succ_cons, List.take_zero, List.drop_succ_cons, List.drop_zero]
            repeat (first | ((with_reducible refine wpM_calm ?_ ?_ ?_ ?_); exact rfl; exact rfl; exact rfl; intro K hK; go_big_quiet_op; go_big_quiet_on) | ((with_reducible refine wpM_skip ?_ ?_); exact rfl; simp only [Act.put, List.setIfInBounds_toArray, List.set_cons_succ, List.set_cons_zero]))
            refine wpM_exact rfl rfl rfl Tryz.func29 (by kernel_rfl) (by kernel_rfl) (fun w1 hw1 _ => HLa.out w1) rfl (by simp only [Act.put, List.setIfInBounds_toArray, List.set_cons_succ, List.set_cons_zero]; rfl) ?_
            refine wpM_makes _ rfl rfl (fun w1 hw1 _ => ?_) ?_
            · simp [go_sem, variesUpon]
              exact NewStrs.mk w1 [z.name, ⟨tl.toArray⟩] hw1.size
            rintro v ⟨_, g, rfl, _⟩ a' ha'
            simp only [Act.put, List.setIfInBounds_toArray, List.set_cons_succ, List.set_cons_zero] at ha'
            subst ha'
            refine wpM_nil ?_
            intro w4 hb4 hF
            obtain ⟨g', e, hg', hgc⟩ := NewStrs.up (Fct.put_at (hF 6))
            obtain rfl : g = g' := by simpa using e
            clear hF e
            have hs2 := mk_size tl
            have hs4 := hb4.size
            have HLn := Lib.hid (fun h1 h2 => put_line b b g (T1 ++ ((p.us.take k).map fun z => (Ln.user z).text).flatten) 3 (by omega) (by omega) [z.name, ⟨tl.toArray⟩] 2 rfl (by omega) (by intro x hx; simp only [List.mem_cons, List.not_mem_nil, or_false] at hx; rcases hx with rfl | rfl <;> omega) (by omega) w4 h1 hgc (by omega) h2)
            have HB4 := Lib.hid (HBY.out.on hb4)
            replace hb0 := on hb0 hb4
            replace kp := kp.on hb4
            clear hb4 HBY HLX hgc lq Q0 Q1 Q2
            go_wp2_with fail
            refine (HLn.out HB4.out (by omega)).mono ?_
            rintro e w5 ⟨rfl, hh, hb5⟩
            rw [← HLine.out, ← HN.out] at hh
            have HX5 := Lib.hid hh
            have hl5 := line_short 3 [z.name, ⟨tl.toArray⟩] (by simp) (by intro x hx; simp only [List.mem_cons, List.not_mem_nil, or_false] at hx; rcases hx with rfl | rfl <;> omega)
            rw [← HLine.out] at hl5
            replace hb0 := hb0.trans (hb5.mono (by omega))
            replace kp := cells_under kp hb5 (by omega)
            clear hh hb5 HLn HB4 hs4 hsy
            go_wp2
            go_roundw
            case rel => exact ⟨k + 1, by omega, by go_num, HX5, by rw [HN.out, List.length_append]; omega, hb0, kp⟩
            case measure => first | (simp [intOf]; done) | (simp [intOf]; omega)
          · obtain rfl : n2 = k := by omega
            clear hlt hk
            rw [List.take_of_length_le (show p.us.length ≤ n2 by omega)] at HX hlx
            generalize T1 ++ (p.us.map fun z => (Ln.user z).text).flatten = T2 at *
            have HX0 : Hid (HoldsB b b (T2 ++ ((p.gs.take 0).map fun z => (Ln.grant z).text).flatten) wr) := Lib.hid (by simpa using HX.out)
            replace hlx : (T2 ++ ((p.gs.take 0).map fun z => (Ln.grant z).text).flatten).length ≤ (4000 + n1 * 4000 + n2 * 4000) + 0 * 4000 := by simpa using hlx
            have hB5 := hBr
            clear HX hBr
            go_wp2_with fail
            go_loopw [66] (fun i wr => ∃ (k : Nat), k ≤ n3 ∧ i = .int .i64 k ∧ Hid (HoldsB b b (T2 ++ ((p.gs.take k).map fun z => (Ln.grant z).text).flatten) wr) ∧ (T2 ++ ((p.gs.take k).map fun z => (Ln.grant z).text).flatten).length ≤ (4000 + n1 * 4000 + n2 * 4000) + k * 4000 ∧ Below w.heap.size w wr ∧ CellsAt wr w.heap.size [.int .i64 r, .int .i64 q, .slice A1 n1 c1, .slice A2 n2 c2, .slice A3 n3 c3]) (fun i _ => n3 - (intOf i).toNat)
            case atStart => exact ⟨0, Nat.zero_le _, rfl, HX0, hlx, hb0, kp⟩
            case round =>
              clear hb0 kp HX0 hlx hB5 p0 p1 p2 p3 p4 lp
              obtain ⟨k, hk, rfl, HX, hlx, hb0, kp⟩ := hrel
              have hBr := HX.out.lt
              have lp := kp.1
              obtain ⟨p0, p1, p2, p3, p4, _⟩ := kp.five
              by_cases hlt : k < n3
              · obtain ⟨z, hzk⟩ : ∃ z, p.gs[k]? = some z := ⟨_, List.getElem?_eq_getElem (by omega)⟩
                have HN := Lib.hid (text_snoc Ln.grant T2 p.gs k z hzk)
                obtain ⟨_, _, hU, h4⟩ := HG.out.on hb0
                obtain ⟨bz, o, rfl, hblt, hcell⟩ := h4 (by omega)
                obtain ⟨c0, c1, c2, c3, c4⟩ := Right.grant_cells (hcell k z hzk)
                have hUz := hU z (List.mem_of_getElem? hzk)
                have HLa := Lib.hid (fun w1 => Cats.ltext_c z.l z.s hUz.1 w1)
                have HLb := Lib.hid (fun w1 => Cats.ltext_c z.k z.r hUz.2 w1)
                have hln := HNG.out z (List.mem_of_getElem? hzk)
                have hll := labT_short z.l z.s
                have hlm := labT_short z.k z.r
                have HLine := Lib.hid (grant_line z)
                generalize Cats.labT z.l z.s = tl at *
                generalize Cats.labT z.k z.r = tm at *
                generalize (Ln.grant z).text = TZ at *
                have hq := CellsAt.new wr [.string z.name, .int .i64 z.l, .int .u64 z.s, .int .i64 z.k, .int .u64 z.r] 78
                change CellsAt (wr.alloc (.cells #[.string z.name, .int .i64 z.l, .int .u64 z.s, .int .i64 z.k, .int .u64 z.r] 78)) wr.heap.size [.string z.name, .int .i64 z.l, .int .u64 z.s, .int .i64 z.k, .int .u64 z.r] at hq
                have hby := below1 wr (.cells #[.string z.name, .int .i64 z.l, .int .u64 z.s, .int .i64 z.k, .int .u64 z.r] 78)
                clear hU h4 hcell hzk hUz
                go_wp2_with fail
                generalize wr.alloc (.cells #[.string z.name, .int .i64 z.l, .int .u64 z.s, .int .i64 z.k, .int .u64 z.r] 78) = Y at *
                have HBY := Lib.hid (HX.out.on hby)
                replace hb0 := on hb0 hby
                replace kp := kp.on hby
                have hsy := hby.size
                generalize wr.heap.size = bq at *
                have Q0 := fun d os => cell_regrown (hq.2 0 _ rfl).1 d os
                have Q1 := fun d os => cell_regrown (hq.2 1 _ rfl).1 d os
                have Q2 := fun d os => cell_regrown (hq.2 2 _ rfl).1 d os
                have Q3 := fun d os => cell_regrown (hq.2 3 _ rfl).1 d os
                have Q4 := fun d os => cell_regrown (hq.2 4 _ rfl).1 d os
                have lq := hq.1
                have HLX := Lib.hid (HL.out.grown hb0)
                clear p0 p1 p2 p3 p4 lp hq HX hby c0 c1 c2 c3 c4
                refine wp_region_mem 10 (fun d => match d with
                  | 75 => some (Is (.string ⟨tl.toArray⟩))
                  | 78 => some (Is (.string ⟨tm.toArray⟩))
                  | 79 => some (NewStrs Y.heap.size [z.name, ⟨tl.toArray⟩, ⟨tm.toArray⟩])
                  | _ => none) (by kernel_rfl) (by kernel_rfl) ?_
                simp only [List.take_succ_cons, List.take_zero, List.drop_succ_cons, List.drop_zero]
                repeat (first | ((with_reducible refine wpM_calm ?_ ?_ ?_ ?_); exact rfl; exact rfl; exact rfl; intro K hK; go_big_quiet_op; go_big_quiet_on) | ((with_reducible refine wpM_skip ?_ ?_); exact rfl; simp only [Act.put, List.setIfInBounds_toArray, List.set_cons_succ, List.set_cons_zero]))
                refine wpM_exact rfl rfl rfl Tryz.func29 (by kernel_rfl) (by kernel_rfl) (fun w1 hw1 _ => HLa.out w1) rfl (by simp only [Act.put, List.setIfInBounds_toArray, List.set_cons_succ, List.set_cons_zero]; rfl) ?_
                repeat (first | ((with_reducible refine wpM_calm ?_ ?_ ?_ ?_); exact rfl; exact rfl; exact rfl; intro K hK; go_big_quiet_op; go_big_quiet_on) | ((with_reducible refine wpM_skip ?_ ?_); exact rfl; simp only [Act.put, List.setIfInBounds_toArray, List.set_cons_succ, List.set_cons_zero]))
                refine wpM_exact rfl rfl rfl Tryz.func29 (by kernel_rfl) (by kernel_rfl) (fun w1 hw1 _ => HLb.out w1) rfl (by simp only [Act.put, List.setIfInBounds_toArray, List.set_cons_succ, List.set_cons_zero]; rfl) ?_
                refine wpM_makes _ rfl rfl (fun w1 hw1 _ => ?_) ?_
                · simp [go_sem, variesUpon]
                  exact NewStrs.mk w1 [z.name, ⟨tl.toArray⟩, ⟨tm.toArray⟩] hw1.size
                rintro v ⟨_, g, rfl, _⟩ a' ha'
                simp only [Act.put, List.setIfInBounds_toArray, List.set_cons_succ, List.set_cons_zero] at ha'
                subst ha'
                refine wpM_nil ?_
                intro w4 hb4 hF
                obtain ⟨g', e, hg', hgc⟩ := NewStrs.up (Fct.put_at (hF 9))
                obtain rfl : g = g' := by simpa using e
                clear hF e
                have hs2 := mk_size tl
                have hs3 := mk_size tm
                have hs4 := hb4.size
                have HLn := Lib.hid (fun h1 h2 => put_line b b g (T2 ++ ((p.gs.take k).map fun z => (Ln.grant z).text).flatten) 4 (by omega) (by omega) [z.name, ⟨tl.toArray⟩, ⟨tm.toArray⟩] 3 rfl (by omega) (by intro x hx; simp only [List.mem_cons, List.not_mem_nil, or_false] at hx; rcases hx with rfl | rfl | rfl <;> omega) (by omega) w4 h1 hgc (by omega) h2)
                have HB4 := Lib.hid (HBY.out.on hb4)
                replace hb0 := on hb0 hb4
                replace kp := kp.on hb4
                clear hb4 HBY HLX hgc lq Q0 Q1 Q2 Q3 Q4
                go_wp2_with fail
                refine (HLn.out HB4.out (by omega)).mono ?_
                rintro e w5 ⟨rfl, hh, hb5⟩
                rw [← HLine.out, ← HN.out] at hh
                have HX5 := Lib.hid hh
                have hl5 := line_short 4 [z.name, ⟨tl.toArray⟩, ⟨tm.toArray⟩] (by simp) (by intro x hx; simp only [List.mem_cons, List.not_mem_nil, or_false] at hx; rcases hx with rfl | rfl | rfl <;> omega)
                rw [← HLine.out] at hl5
                replace hb0 := hb0.trans (hb5.mono (by omega))
                replace kp := cells_under kp hb5 (by omega)
                clear hh hb5 HLn HB4 hs4 hsy
                go_wp2
                go_roundw
                case rel => exact ⟨k + 1, by omega, by go_num, HX5, by rw [HN.out, List.length_append]; omega, hb0, kp⟩
                case measure => first | (simp [intOf]; done) | (simp [intOf]; omega)
              · obtain rfl : n3 = k := by omega
                clear hlt hk
                rw [List.take_of_length_le (show p.gs.length ≤ n3 by omega)] at HX hlx
                have HE : Hid (T2 ++ (p.gs.map fun z => (Ln.grant z).text).flatten = TP) := Lib.hid (by rw [HT.out, HTA.out])
                rw [HE.out] at HX
                have HEnd := Lib.hid (fun h => told_all b b TP wr HX.out h)
                go_wp2_with fail
                refine (HEnd.out (by omega)).mono ?_
                rintro e w5 ⟨rfl, hb5⟩
                go_wp2
                go_ret
                exact ⟨rfl, hb0.trans (hb5.mono (by omega))⟩
end Go.Proofs.YtmlmanlcomfhbaaGreatDoor.Pol
