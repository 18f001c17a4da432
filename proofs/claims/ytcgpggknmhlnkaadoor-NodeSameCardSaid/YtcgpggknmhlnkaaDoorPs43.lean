/- A tree among the arguments, by value: what it has, and a slice that reads as the trees below it. -/
import Derived.OpenShut
import Derived.Deep.Slices
import Derived.Lib.SmallJoins
import Derived.SizedLaws
import Derived.Test.YtcgpggknmhlnkaaDoorPs05
namespace Go.Proofs.YtcgpggknmhlnkaaDoor.Nod
open Go Go.ChangeShapes Go.WideShapes Go.RowKit Go.Deep Go.WideElems Go.ChangeAt
def In64 (x : Int) : Prop := -9223372036854775808 ≤ x ∧ x ≤ 9223372036854775807
/-- what every number and text of Go's keeps -/
def Hd.fits (h : Hd) : Prop := In64 h.k ∧ In64 h.op ∧ In64 h.vk ∧ In64 h.vn ∧ In64 h.ar ∧ In64 h.ac ∧ In64 h.br ∧ In64 h.bc ∧ h.vt.size ≤ 140737488351232
def AllFits (F : Fo) : Prop := ∀ x ∈ flat F, x.1.fits
def mk : List Nd → Fo
  | [] => .nil
  | x :: l => .cons x.1 x.2 (mk l)
theorem tops_mk : ∀ l : List Nd, tops (mk l) = l
  | [] => rfl
  | x :: l => by rw [mk, tops, tops_mk l]
theorem FoR.of {w : World} {b : Nat} : ∀ (l : List Nd) (o : Nat), (∀ (i : Nat) (x : Nd), l[i]? = some x → (∀ j v, x.1.cells[j]? = some v → w.cell? ⟨b, o + i * 14 + j, none⟩ = some v) ∧ ∃ A n c, w.cell? ⟨b, o + i * 14 + 13, none⟩ = some (.slice A n c) ∧ KidsR w A n x.2) → FoR w b o (mk l)
  | [], _, _ => trivial
  | x :: l, o, h => by
    obtain ⟨h1, A, n, c, h2, h3, h4⟩ := h 0 x rfl
    rw [Nat.zero_mul, Nat.add_zero] at h1 h2
    refine ⟨h1, ⟨A, n, c, h2, h3, h4⟩, FoR.of l (o + 14) fun i y hy => ?_⟩
    have := h (i + 1) y (by simpa using hy)
    rwa [show o + (i + 1) * 14 = o + 14 + i * 14 from by omega] at this
theorem fits_mk : ∀ l : List Nd, (∀ x ∈ l, x.1.fits ∧ AllFits x.2) → AllFits (mk l)
  | [], _, _, h => by cases h
  | x :: l, hl, y, hy => by
    obtain ⟨h1, h2⟩ := hl x (List.mem_cons_self ..)
    rcases List.mem_cons.1 hy with rfl | hy
    · exact h1
    · rcases List.mem_append.1 hy with hy | hy
      · exact h2 y hy
      · exact fits_mk l (fun z hz => hl z (List.mem_cons_of_mem _ hz)) y hy
theorem cellsNode : Tryd.prog.cellsOf 28 = 14 := by kernel_rfl
theorem cellsNodes : Tryd.prog.cellsOf 26 = 1 := by kernel_rfl
theorem cellsVal : Tryd.prog.cellsOf 23 = 3 := by kernel_rfl
theorem cellsRef : Tryd.prog.cellsOf 25 = 4 := by kernel_rfl
theorem cellsInt : Tryd.prog.cellsOf 3 = 1 := by kernel_rfl
theorem cellsI64 : Tryd.prog.cellsOf 2 = 1 := by kernel_rfl
theorem cellsStr : Tryd.prog.cellsOf 9 = 1 := by kernel_rfl
theorem cellsBool : Tryd.prog.cellsOf 4 = 1 := by kernel_rfl
section
variable {H : Type} {enc : TypeId × Value → H} {P : Program} {w : World} {base : Nat} {spare : Nat → Bool} {held : Bool}
theorem trod_struct6 {t : TypeId} {f0 f1 f2 f3 f4 f5 : Field} {fuel : Nat} {cs : List Value} {x : DataW H × List MemPlace} (ht : P.underlying t = some (.struct #[f0, f1, f2, f3, f4, f5])) (h : DataW.trod enc P w base spare held fuel t cs = some x) :
    ∃ y0 y1 y2 y3 y4 y5 n, fuel = n + 1 ∧ x.1 = .agg [y0.1, y1.1, y2.1, y3.1, y4.1, y5.1] ∧ cs.length = P.cellsOf t ∧ DataW.trod enc P w base spare held n f0.type ((cs.drop f0.offset).take (P.cellsOf f0.type)) = some y0 ∧
      DataW.trod enc P w base spare held n f1.type ((cs.drop f1.offset).take (P.cellsOf f1.type)) = some y1 ∧ DataW.trod enc P w base spare held n f2.type ((cs.drop f2.offset).take (P.cellsOf f2.type)) = some y2 ∧
      DataW.trod enc P w base spare held n f3.type ((cs.drop f3.offset).take (P.cellsOf f3.type)) = some y3 ∧ DataW.trod enc P w base spare held n f4.type ((cs.drop f4.offset).take (P.cellsOf f4.type)) = some y4 ∧
      DataW.trod enc P w base spare held n f5.type ((cs.drop f5.offset).take (P.cellsOf f5.type)) = some y5 := by
  obtain ⟨xs, n, hn, rfl, hl, hlen, hf⟩ := DataW.trod_struct ht h
  match xs, hlen with
  | [y0, y1, y2, y3, y4, y5], _ => exact ⟨y0, y1, y2, y3, y4, y5, n, hn, by simp, hl, by simpa using hf 0 f0 rfl, by simpa using hf 1 f1 rfl, by simpa using hf 2 f2 rfl, by simpa using hf 3 f3 rfl, by simpa using hf 4 f4 rfl, by simpa using hf 5 f5 rfl⟩
end
/-- what is read is within the form's reach -/
def Wt {H : Type} (P : Program) (t : TypeId) (d : DataW H) : Prop := ∀ m ∈ d.weights P t, m ≤ 140737488351232
theorem Wt.part {H : Type} {P : Program} {t u : TypeId} {fs : Array Field} {parts : List (DataW H)} {d : DataW H} {j : Nat} (h : Wt P t (.agg parts)) (ht : P.underlying t = some (.struct fs)) (hu : (fs.toList.map (·.type))[j]? = some u) (hd : parts[j]? = some d) : Wt P u d := by
  intro m hm
  refine h m ?_
  simp only [DataW.weights, ht]
  exact DataW.weights_mem_each hu hd m hm
theorem mem_weightsAll {H : Type} {P : Program} {t : TypeId} {d : DataW H} {m : Nat} (hm : m ∈ d.weights P t) : ∀ {l : List (DataW H)}, d ∈ l → m ∈ DataW.weightsAll P t l
  | [], h => by cases h
  | e :: l, h => by
    rw [DataW.weightsAll, List.mem_append]
    rcases List.mem_cons.1 h with rfl | h
    · exact .inl hm
    · exact .inr (mem_weightsAll hm h)
theorem Wt.elem {H : Type} {P : Program} {t e : TypeId} {l r : List (DataW H)} {d : DataW H} (h : Wt P t (.slice l r)) (ht : P.underlying t = some (.slice e)) (hd : d ∈ l) : Wt P e d := by
  intro m hm
  refine h m ?_
  simp only [DataW.weights, ht]
  exact List.mem_cons_of_mem _ (List.mem_append_left _ (mem_weightsAll hm hd))
theorem list14 {α : Type} : ∀ {cs : List α}, cs.length = 14 → ∃ a b c d e f g h i j k l m n, cs = [a, b, c, d, e, f, g, h, i, j, k, l, m, n]
  | [a, b, c, d, e, f, g, h, i, j, k, l, m, n], _ => ⟨a, b, c, d, e, f, g, h, i, j, k, l, m, n, rfl⟩
section
variable {H : Type} {enc : TypeId × Value → H} {W : World}
set_option maxRecDepth 100000 in
theorem int_at {n : Nat} {v : Value} {x : DataW H × List MemPlace} (h : DataW.trod enc Tryd.prog W 0 (fun _ => true) true n 3 [v] = some x) : ∃ a : Int, v = .int .i64 a ∧ In64 a := by
  obtain ⟨a, e, _, hw⟩ := DataW.trod_int Tryd.underlying3 h
  simp only [Lit.wf, Bool.and_eq_true, decide_eq_true_eq] at hw
  refine ⟨a, by simpa using e, ?_, ?_⟩
  · have := hw.1; simpa [IntKind.min, IntKind.signed, IntKind.bits] using this
  · have := hw.2; simp [IntKind.max, IntKind.signed, IntKind.bits] at this; omega
set_option maxRecDepth 100000 in
theorem i64_at {n : Nat} {v : Value} {x : DataW H × List MemPlace} (h : DataW.trod enc Tryd.prog W 0 (fun _ => true) true n 2 [v] = some x) : ∃ a : Int, v = .int .i64 a ∧ In64 a := by
  obtain ⟨a, e, _, hw⟩ := DataW.trod_int Tryd.underlying2 h
  simp only [Lit.wf, Bool.and_eq_true, decide_eq_true_eq] at hw
  refine ⟨a, by simpa using e, ?_, ?_⟩
  · have := hw.1; simpa [IntKind.min, IntKind.signed, IntKind.bits] using this
  · have := hw.2; simp [IntKind.max, IntKind.signed, IntKind.bits] at this; omega
set_option maxRecDepth 100000 in
theorem bool_at {n : Nat} {v : Value} {x : DataW H × List MemPlace} (h : DataW.trod enc Tryd.prog W 0 (fun _ => true) true n 4 [v] = some x) : ∃ a : Bool, v = .bool a := by
  obtain ⟨a, e, _⟩ := DataW.trod_bool Tryd.underlying4 h
  exact ⟨a, by simpa using e⟩
set_option maxRecDepth 100000 in
theorem str_at {n : Nat} {v : Value} {x : DataW H × List MemPlace} (h : DataW.trod enc Tryd.prog W 0 (fun _ => true) true n 9 [v] = some x) (hw : Wt Tryd.prog 9 x.1) : ∃ s : ByteArray, v = .string s ∧ s.size ≤ 140737488351232 := by
  obtain ⟨s, e, rfl, hs⟩ := DataW.trod_string Tryd.underlying9 h
  have h1 := hw s.data.toList.length (by rw [DataW.weights]; exact List.mem_singleton.2 rfl)
  rw [Array.length_toList] at h1
  exact ⟨s, by simpa using e, h1⟩
set_option maxRecDepth 100000 in
theorem ref_at {n : Nat} {a b c d : Value} {x : DataW H × List MemPlace} (h : DataW.trod enc Tryd.prog W 0 (fun _ => true) true n 25 [a, b, c, d] = some x) : ∃ (r q : Int) (p l : Bool), a = .int .i64 r ∧ b = .int .i64 q ∧ c = .bool p ∧ d = .bool l ∧ In64 r ∧ In64 q := by
  obtain ⟨y0, y1, y2, y3, m, _, hl, h0, h1, h2, h3⟩ := Joins.trod_struct4 Tryd.underlying25 h
  simp only [cellsInt, cellsBool, List.drop_zero, List.drop_succ_cons, List.take_succ_cons, List.take_zero] at h0 h1 h2 h3
  obtain ⟨r, rfl, g0⟩ := int_at h0
  obtain ⟨q, rfl, g1⟩ := int_at h1
  obtain ⟨p, rfl⟩ := bool_at h2
  obtain ⟨l, rfl⟩ := bool_at h3
  exact ⟨r, q, p, l, rfl, rfl, rfl, rfl, g0, g1⟩
set_option maxRecDepth 100000 in
theorem value_at {n : Nat} {a b c : Value} {x : DataW H × List MemPlace} (h : DataW.trod enc Tryd.prog W 0 (fun _ => true) true n 23 [a, b, c] = some x) (hw : Wt Tryd.prog 23 x.1) : ∃ (k q : Int) (s : ByteArray), a = .int .i64 k ∧ b = .int .i64 q ∧ c = .string s ∧ In64 k ∧ In64 q ∧ s.size ≤ 140737488351232 := by
  obtain ⟨y0, y1, y2, m, rfl, hl, h0, h1, h2⟩ := trod_struct3 Tryd.underlying23 h
  simp only [cellsInt, cellsI64, cellsStr, List.drop_zero, List.drop_succ_cons, List.take_succ_cons, List.take_zero] at h0 h1 h2
  obtain ⟨k, rfl, g0⟩ := int_at h0
  obtain ⟨q, rfl, g1⟩ := i64_at h1
  obtain ⟨s, rfl, g2⟩ := str_at h2 (hw.part (j := 2) Tryd.underlying23 rfl rfl)
  exact ⟨k, q, s, rfl, rfl, rfl, g0, g1, g2⟩
/-- a node, read with so much fuel -/
def NodeAt (W : World) (cs : List Value) : Prop := ∃ (h : Hd) (A : Option Addr) (n c : Nat) (F : Fo), cs = h.cells ++ [.slice A n c] ∧ h.fits ∧ KidsR W A n F ∧ AllFits F ∧ n ≤ c
def KidsAt (W : World) (v : Value) : Prop := ∃ (A : Option Addr) (n c : Nat) (F : Fo), v = .slice A n c ∧ KidsR W A n F ∧ AllFits F ∧ n ≤ c
set_option maxRecDepth 100000 in
theorem both_of_trod : ∀ fuel : Nat, (∀ (cs : List Value) (x : DataW H × List MemPlace), DataW.trod enc Tryd.prog W 0 (fun _ => true) true fuel 28 cs = some x → Wt Tryd.prog 28 x.1 → NodeAt W cs) ∧
    (∀ (v : Value) (x : DataW H × List MemPlace), DataW.trod enc Tryd.prog W 0 (fun _ => true) true fuel 26 [v] = some x → Wt Tryd.prog 26 x.1 → KidsAt W v)
  | 0 => ⟨fun cs x h _ => by simp [DataW.trod] at h, fun v x h _ => by simp [DataW.trod] at h⟩
  | fuel + 1 => by
    obtain ⟨ih1, ih2⟩ := both_of_trod fuel
    refine ⟨fun cs x h hw => ?_, fun v x h hw => ?_⟩
    · obtain ⟨y0, y1, y2, y3, y4, y5, m, hm, hxe, hl, h0, h1, h2, h3, h4, h5⟩ := trod_struct6 Tryd.underlying28 h
      obtain rfl : fuel = m := by omega
      rw [cellsNode] at hl
      rw [hxe] at hw
      obtain ⟨c0, c1, c2, c3, c4, c5, c6, c7, c8, c9, c10, c11, c12, c13, rfl⟩ := list14 hl
      simp only [cellsInt, cellsVal, cellsRef, cellsNodes, List.drop_zero, List.drop_succ_cons, List.take_succ_cons, List.take_zero] at h0 h1 h2 h3 h4 h5
      obtain ⟨k, rfl, g0⟩ := int_at h0
      obtain ⟨op, rfl, g1⟩ := int_at h1
      obtain ⟨vk, vn, vt, rfl, rfl, rfl, g2, g3, g4⟩ := value_at h2 (hw.part (j := 2) Tryd.underlying28 rfl rfl)
      obtain ⟨ar, ac, ah, al, rfl, rfl, rfl, rfl, g5, g6⟩ := ref_at h3
      obtain ⟨br, bc, bh, bl, rfl, rfl, rfl, rfl, g7, g8⟩ := ref_at h4
      obtain ⟨A, n, c, F, rfl, hk, hf, hc⟩ := ih2 _ _ h5 (hw.part (j := 5) Tryd.underlying28 rfl rfl)
      exact ⟨⟨k, op, vk, vn, vt, ar, ac, ah, al, br, bc, bh, bl⟩, A, n, c, F, rfl, ⟨g0, g1, g2, g3, g5, g6, g7, g8, g4⟩, hk, hf, hc⟩
    · rcases DataW.trod_slice Tryd.underlying26 h with ⟨hcs, _⟩ | ⟨a, len, cap, elems, rest, m, hm, hcs, hxe, _, hl, hmx, hlen, hel, _, _⟩
      · simp only [List.cons.injEq, and_true] at hcs
        subst hcs
        exact ⟨none, 0, 0, .nil, rfl, KidsR.nil _ _, (fun x hx => by cases hx), Nat.le_refl _⟩
      · simp only [List.cons.injEq, and_true] at hcs
        subst hcs
        obtain rfl : fuel = m := by omega
        rw [hxe] at hw
        have each : ∀ i, i < len → ∃ x : Nd, (x.1.fits ∧ AllFits x.2) ∧ (∀ j v, x.1.cells[j]? = some v → W.cell? (a.add (i * 14 + j)) = some v) ∧ ∃ A n c, W.cell? (a.add (i * 14 + 13)) = some (.slice A n c) ∧ KidsR W A n x.2 := by
          intro i hi
          have h1 := hel i hi
          rw [List.getElem?_eq_getElem (by omega), cellsNode] at h1
          obtain ⟨cs, h2, h3⟩ := Option.bind_eq_some_iff.1 h1
          obtain ⟨hd, A, n, c, F, rfl, g1, g2, g3, _⟩ := ih1 _ _ h3 (hw.elem Tryd.underlying26 (List.mem_map_of_mem (List.getElem_mem _)))
          obtain ⟨_, _, h4⟩ := World.cells?_some h2
          refine ⟨(hd, F), ⟨g1, g3⟩, fun j v hj => ?_, A, n, c, ?_, g2⟩
          · have hj13 : j < 13 := (List.getElem?_eq_some_iff.1 hj).1
            rw [← Deep.add_add, h4 j (by omega)]
            rw [List.getElem?_append_left (by show j < 13; exact hj13)]
            exact hj
          · rw [← Deep.add_add, h4 13 (by omega)]
            rfl
        obtain ⟨f, hf⟩ : ∃ f : Nat → Nd, ∀ i, i < len → ((f i).1.fits ∧ AllFits (f i).2) ∧ (∀ j v, (f i).1.cells[j]? = some v → W.cell? (a.add (i * 14 + j)) = some v) ∧ ∃ A n c, W.cell? (a.add (i * 14 + 13)) = some (.slice A n c) ∧ KidsR W A n (f i).2 := by
          classical
          refine ⟨fun i => if h : i < len then (each i h).choose else (⟨0, 0, 0, 0, ⟨#[]⟩, 0, 0, false, false, 0, 0, false, false⟩, .nil), fun i hi => ?_⟩
          simp only [dif_pos hi]
          exact (each i hi).choose_spec
        refine ⟨some a, len, cap, mk ((List.range len).map f), rfl, ⟨⟨by unfold arity; rw [tops_mk, List.length_map, List.length_range], Nat.le_trans hl hmx⟩, fun hn => ?_⟩, fits_mk _ fun x hx => ?_, hl⟩
        · obtain ⟨b, o, spot⟩ := a
          have h0 := (hf 0 (by omega)).2.1 0 _ rfl
          have hspot : spot = none := by simpa [Addr.add] using World.cell?_spot h0
          subst hspot
          have hlt := World.block_lt_of_cell? W _ h0
          refine ⟨b, o, rfl, by simpa [Addr.add] using hlt, FoR.of _ o fun i x hx => ?_⟩
          have hin : i < len := by have := (List.getElem?_eq_some_iff.1 hx).1; simpa using this
          have e : x = f i := by simpa [hin] using hx.symm
          subst e
          obtain ⟨_, g1, A, n, c, g2, g3⟩ := hf i hin
          refine ⟨fun j v hj => ?_, A, n, c, ?_, g3⟩
          · have := g1 j v hj
            rw [Nat.add_assoc]
            rwa [Go.WideShapes.add_plain] at this
          · rw [Nat.add_assoc]
            rwa [Go.WideShapes.add_plain] at g2
        · obtain ⟨i, hi, rfl⟩ := List.mem_map.1 hx
          exact (hf i (List.mem_range.1 hi)).1
end
end Go.Proofs.YtcgpggknmhlnkaaDoor.Nod
