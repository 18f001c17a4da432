/- What the reference's line answers: a line that is none.
   What the reference's line answers: a line of words that are no policy's; a grid.
   What the reference's line answers: a line whose words are no policy's. -/
import Derived.Test.YtmlmanlcomfhbaaGreatDoorGn
namespace Go.Proofs.YtmlmanlcomfhbaaGreatDoor.Pol
open Go.RowKit Kit Reg
open Go.Proofs.YtmlmanlcomfhbaaGreatDoor.Zone (Zn ZonesR)
open Go.Proofs.YtmlmanlcomfhbaaGreatDoor.Right (Us Gr UsersR GrantsR OwnS strs StrsR)
open Go.Proofs.YtmlmanlcomfhbaaGreatDoor.Cats (U U_zero LabIs)
open Go.Proofs.YtmlmanlcomfhbaaGreatDoor.Span (SpanIs mayS textI)
open Go.Proofs.YtmlmanlcomfhbaaGreatDoor.Addr (NumIs)

/-- a reader's answer: the policy with a line more, and the line's kind -/
def LineEnd (B : Nat) (T : List UInt8) (p : Pl) (V1 V2 V3 : Value) (w : World) (e : Ending) (w' : World) : Prop :=
  ∃ (r c : Int) (B1 : Option Addr) (m1 k1 : Nat) (B2 : Option Addr) (m2 k2 : Nat) (B3 : Option Addr) (m3 k3 : Nat) (k : Nat) (o : Option Ln) (row : Option Nat),
    e = .returned (.tuple #[.agg #[.int .i64 r, .int .i64 c, .slice B1 m1 k1, .slice B2 m2 k2, .slice B3 m3 k3], .int .i64 k]) ∧ LnIs T o ∧ w.grownBy w' row ∧ (row = none ∨ row = V1.ownBlock ∨ row = V2.ownBlock ∨ row = V3.ownBlock) ∧
    (∀ x, o = some x → k = x.kind ∧ r = (x.put p).rows ∧ c = (x.put p).cols ∧ Own B (x.put p) (.slice B1 m1 k1) (.slice B2 m2 k2) (.slice B3 m3 k3) w') ∧ (o = none → k = 0)
theorem LineEnd.none_ {B : Nat} {T : List UInt8} {p : Pl} {V1 V2 V3 : Value} {w w' : World} {r c : Int} {B1 : Option Addr} {m1 k1 : Nat} {B2 : Option Addr} {m2 k2 : Nat} {B3 : Option Addr} {m3 k3 : Nat} {row : Option Nat} (h : LnIs T none)
    (hg : w.grownBy w' row) (hr : row = none ∨ row = V1.ownBlock ∨ row = V2.ownBlock ∨ row = V3.ownBlock) : LineEnd B T p V1 V2 V3 w (.returned (.tuple #[.agg #[.int .i64 r, .int .i64 c, .slice B1 m1 k1, .slice B2 m2 k2, .slice B3 m3 k3], .int .i64 0])) w' :=
  ⟨r, c, B1, m1, k1, B2, m2, k2, B3, m3, k3, 0, none, row, rfl, h, hg, hr, (fun _ e => (nomatch e)), fun _ => rfl⟩
theorem LineEnd.some_ {B : Nat} {T : List UInt8} {p : Pl} {V1 V2 V3 : Value} {w w' : World} {r c : Int} {B1 : Option Addr} {m1 k1 : Nat} {B2 : Option Addr} {m2 k2 : Nat} {B3 : Option Addr} {m3 k3 : Nat} {row : Option Nat} {x : Ln} {k : Int} (h : LnIs T (some x))
    (hg : w.grownBy w' row) (hr : row = none ∨ row = V1.ownBlock ∨ row = V2.ownBlock ∨ row = V3.ownBlock) (hk : k = x.kind) (h1 : r = (x.put p).rows) (h2 : c = (x.put p).cols) (ho : Own B (x.put p) (.slice B1 m1 k1) (.slice B2 m2 k2) (.slice B3 m3 k3) w') :
    LineEnd B T p V1 V2 V3 w (.returned (.tuple #[.agg #[.int .i64 r, .int .i64 c, .slice B1 m1 k1, .slice B2 m2 k2, .slice B3 m3 k3], .int .i64 k])) w' :=
  ⟨r, c, B1, m1, k1, B2, m2, k2, B3, m3, k3, x.kind, some x, row, by rw [hk], h, hg, hr, (fun y e => by cases e; exact ⟨rfl, h1, h2, ho⟩), fun e => (nomatch e)⟩
theorem no_feed_empty {t : ByteArray} (h : t.size = 0) : LnIs t.data.toList none := by
  rw [show t.data.toList = [] from List.eq_nil_of_length_eq_zero (by rw [list_size]; exact h)]
  exact LnIs.empty
theorem no_feed_last {t : ByteArray} {k : Nat} (hk : t.size = k + 1) (h : ((t[k]'(by omega)).toNat : Int) ≠ 10) : LnIs t.data.toList none := by
  refine LnIs.no_feed fun a e => ?_
  have hl := list_size t
  have h1 : t.data.toList[k]? = some (t[k]'(by omega)) := byte_of t k (by omega)
  have hal : a.length = k := by
    have := congrArg List.length e
    rw [List.length_append, List.length_singleton] at this
    omega
  rw [e, List.getElem?_append_right (by omega), hal, Nat.sub_self] at h1
  simp only [List.getElem?_cons_zero, Option.some.injEq] at h1
  rw [← h1] at h
  exact h rfl
/-- a line with its feed, cut off -/
theorem feed_cut {t : ByteArray} {k : Nat} (hk : t.size = k + 1) (h : ((t[k]'(by omega)).toNat : Int) = 10) : t.data.toList = t.data.toList.take k ++ [10] ∧ (t.extract 0 k).data.toList = t.data.toList.take k := by
  have hl := list_size t
  refine ⟨?_, ?_⟩
  · have h1 : t.data.toList[k]? = some (t[k]'(by omega)) := byte_of t k (by omega)
    have h2 : t[k]'(by omega) = 10 := UInt8.toNat_inj.1 (show _ = (10 : UInt8).toNat by have : (10 : UInt8).toNat = 10 := rfl; omega)
    conv => lhs; rw [← List.take_append_drop k t.data.toList]
    rw [List.drop_eq_getElem_cons (by omega), List.drop_eq_nil_of_le (by omega)]
    rw [List.getElem?_eq_getElem (by omega), Option.some.injEq] at h1
    rw [h1, h2]
  · rw [extract_mk]; simp

set_option maxRecDepth 100000 in
set_option maxHeartbeats 4000000 in
theorem rline_none (B : Nat) (p : Pl) (t : ByteArray) (ht : t.size ≤ 100000) (A1 : Option Addr) (n1 c1 : Nat) (A2 : Option Addr) (n2 c2 : Nat) (A3 : Option Addr) (n3 c3 : Nat) (h : t.size = 0 ∨ ∃ k, ∃ hk : t.size = k + 1, (((t[k]'(by omega)).toNat : Int) == 10) = false) (w : World) :
    Calls Tryz.prog 36 #[.agg #[.int .i64 p.rows, .int .i64 p.cols, .slice A1 n1 c1, .slice A2 n2 c2, .slice A3 n3 c3], .string t] w (LineEnd B t.data.toList p (.slice A1 n1 c1) (.slice A2 n2 c2) (.slice A3 n3 c3) w) := by
  have hbx := below_none (below2 w (.cells #[.int .i64 p.rows, .int .i64 p.cols, .slice A1 n1 c1, .slice A2 n2 c2, .slice A3 n3 c3] 26) (.cells #[.int .i64 p.rows, .int .i64 p.cols, .slice A1 n1 c1, .slice A2 n2 c2, .slice A3 n3 c3] 26))
  have kr := CellsAt.new (w.alloc (.cells #[.int .i64 p.rows, .int .i64 p.cols, .slice A1 n1 c1, .slice A2 n2 c2, .slice A3 n3 c3] 26)) [.int .i64 p.rows, .int .i64 p.cols, .slice A1 n1 c1, .slice A2 n2 c2, .slice A3 n3 c3] 26
  rw [show (w.alloc (.cells #[.int .i64 p.rows, .int .i64 p.cols, .slice A1 n1 c1, .slice A2 n2 c2, .slice A3 n3 c3] 26)).heap.size = w.heap.size + 1 by simp] at kr
  obtain ⟨e0, e1, e2, e3, e4, _⟩ := kr.five
  rcases h with h | ⟨k, hk, hq⟩
  · have HE := Lib.hid (no_feed_empty h)
    have hn1 : ((t.size : Int) == 0) = true := by rw [h]; rfl
    clear h
    generalize t.data.toList = T at *
    generalize p.rows = r at *
    generalize p.cols = c at *
    go_enter Tryz.func36, Tryz.ntmps36
    go_wp2
    exact bodyPost_ret (v := .tuple #[.agg #[.int .i64 r, .int .i64 c, .slice A1 n1 c1, .slice A2 n2 c2, .slice A3 n3 c3], .int .i64 0]) (by simp [results, Tryz.results36, go_sem, e0, e1, e2, e3, e4]) rfl (LineEnd.none_ HE.out hbx (.inl rfl))
  · have HE := Lib.hid (no_feed_last hk (by simpa using hq))
    have hn1 : ((t.size : Int) == 0) = false := by rw [beq_eq_false_iff_ne]; omega
    have hn2 : ((k : Int) + 1 == 0) = false := by rw [beq_eq_false_iff_ne]; omega
    have hkb : k ≤ 99999 := by omega
    have hq2 : (((t[k]'(by omega)).toNat : Int) != 10) = true := by rw [bne, hq]; rfl
    generalize t.data.toList = T at *
    generalize p.rows = r at *
    generalize p.cols = c at *
    go_enter Tryz.func36, Tryz.ntmps36
    go_wp2
    exact bodyPost_ret (v := .tuple #[.agg #[.int .i64 r, .int .i64 c, .slice A1 n1 c1, .slice A2 n2 c2, .slice A3 n3 c3], .int .i64 0]) (by simp [results, Tryz.results36, go_sem, e0, e1, e2, e3, e4]) rfl (LineEnd.none_ HE.out hbx (.inl rfl))
end Go.Proofs.YtmlmanlcomfhbaaGreatDoor.Pol
namespace Go.Proofs.YtmlmanlcomfhbaaGreatDoor.Pol
open Go.RowKit Kit Reg
open Go.Proofs.YtmlmanlcomfhbaaGreatDoor.Zone (Zn ZonesR)
open Go.Proofs.YtmlmanlcomfhbaaGreatDoor.Right (Us Gr UsersR GrantsR OwnS strs StrsR)
open Go.Proofs.YtmlmanlcomfhbaaGreatDoor.Cats (U U_zero LabIs)
open Go.Proofs.YtmlmanlcomfhbaaGreatDoor.Span (SpanIs mayS textI)
open Go.Proofs.YtmlmanlcomfhbaaGreatDoor.Addr (NumIs)

/-- a text's words, as they lie in memory -/
def WordsEnd (xs : List ByteArray) (w : World) (e : Ending) (w' : World) : Prop :=
  ∃ g cap, e = .returned (.slice (some ⟨g, 0, none⟩) xs.length cap) ∧ (∀ i x, xs[i]? = some x → w'.cell? ⟨g, i, none⟩ = some (.string x)) ∧ g < w'.heap.size ∧ w.heap.size ≤ g ∧ Below w.heap.size w w'
theorem rwords_x (t : ByteArray) (ht : t.size ≤ 100000) {xs : List ByteArray} (hx : bs (wordsF t.data.toList) = xs) (w : World) : Calls Tryz.prog 57 #[.string t] w (WordsEnd xs w) := by
  refine (rwords_c t ht w).mono ?_
  rintro e w' ⟨v, rfl, hown, hb⟩
  rw [hx] at hown
  have hne : xs ≠ [] := by
    intro e
    rw [e] at hx
    have := congrArg List.length hx
    rw [bs_length] at this
    exact wordsF_ne _ (List.eq_nil_of_length_eq_zero this)
  obtain ⟨A, cap, rfl, h | ⟨g, rfl, hg, hc⟩⟩ := hown.strs
  · exact absurd h hne
  · exact ⟨g, cap, rfl, hc, hg, (World.ownsRow.lt hown g rfl).1, hb⟩
theorem cell_far {w : World} {p q : Addr} {v : Value} (h : w.cell? p = some v) (hne : q.block ≠ p.block) (u : Value) : (w.setCell q u).cell? p = some v := by
  rw [World.cell?_setCell_other (h := by intro e; rw [e] at hne; exact hne rfl)]
  exact h
theorem set_grown (w : World) (q : Addr) (u : Value) : w.grownBy (w.setCell q u) (some q.block) :=
  ⟨rfl, rfl, rfl, by simp [World.setCell], fun k _ hne => Below.heap_setCell _ _ _ _ (fun e => hne (by rw [e]))⟩
theorem set_grown_on {A w : World} {b : Nat} (h : A.grownBy w (some b)) (q : Addr) (hq : q.block = b) (u : Value) : A.grownBy (w.setCell q u) (some b) := by
  subst hq
  refine ⟨h.os, h.tape, h.output, by simpa [World.setCell] using h.size, fun k hk hne => (Below.heap_setCell _ _ _ _ (fun e => hne (by rw [e]))).trans (h.block k hk hne)⟩
theorem put5_grown (w : World) (b : Nat) (x y z u v : Value) : w.grownBy (put5 w b x y z u v) (some b) :=
  set_grown_on (set_grown_on (set_grown_on (set_grown_on (set_grown w ⟨b, 0, none⟩ x) ⟨b, 1, none⟩ rfl y) ⟨b, 2, none⟩ rfl z) ⟨b, 3, none⟩ rfl u) ⟨b, 4, none⟩ rfl v
theorem Own.far {B : Nat} {p : Pl} {vz vu vg : Value} {w w' : World} (h : Own B p vz vu vg w) {b : Nat} (hg : w.grownBy w' (some b)) (hz : vz.ownBlock ≠ some b) (hu : vu.ownBlock ≠ some b) (hgg : vg.ownBlock ≠ some b) : Own B p vz vu vg w' :=
  ⟨h.z.kept hg (.inr hz), h.u.kept hg (.inr hu), h.g.kept hg (.inr hgg), h.zu, h.zg, h.ug⟩
theorem grown_put5 {A w : World} {row : Option Nat} (h : A.grownBy w row) {b : Nat} (hb : A.heap.size ≤ b) (x y z u v : Value) : A.grownBy (put5 w b x y z u v) row :=
  grown_set (grown_set (grown_set (grown_set (grown_set h (p := ⟨b, 0, none⟩) hb x) (p := ⟨b, 1, none⟩) hb y) (p := ⟨b, 2, none⟩) hb z) (p := ⟨b, 3, none⟩) hb u) (p := ⟨b, 4, none⟩) hb v
theorem CellsAt.put5_far {w : World} {b : Nat} {cs : List Value} (h : CellsAt w b cs) {c : Nat} (hp : c ≠ b) (x y z u v : Value) : CellsAt (put5 w c x y z u v) b cs := (h.put4_far hp x y z u).far (p := ⟨c, 4, none⟩) hp v
theorem bs_at {ws : List (List UInt8)} {xs : List ByteArray} (h : bs ws = xs) : ws = xs.map fun x => x.data.toList := by
  subst h
  unfold bs
  rw [List.map_map]
  induction ws with
  | nil => rfl
  | cons y r ih => rw [List.map_cons, ← ih]; rfl
theorem word_size (t : ByteArray) : ∀ x ∈ bs (wordsF t.data.toList), x.size ≤ t.size := by
  intro x hx
  obtain ⟨w, hw, rfl⟩ := List.mem_map.1 hx
  have h1 := join_words t.data.toList
  have h2 : ∀ (ws : List (List UInt8)), w ∈ ws → w.length ≤ (joinW ws).length := by
    intro ws
    induction ws with
    | nil => intro h; cases h
    | cons y r ih =>
      intro h
      cases r with
      | nil =>
        rcases List.mem_cons.1 h with rfl | h
        · exact Nat.le_refl _
        · cases h
      | cons z q =>
        rw [joinW, List.length_append, List.length_cons]
        rcases List.mem_cons.1 h with rfl | h
        · omega
        · have := ih h; omega
  have h3 := h2 _ hw
  rw [h1, list_size] at h3
  show w.toArray.size ≤ t.size
  rw [List.size_toArray]
  exact h3
/-- a word that is this one -/
theorem word_is {x : ByteArray} {u : List UInt8} (h : (x.toList == u) = true) : x.data.toList = u := by rw [← Lib.toList_data]; simpa using h
theorem word_no {x : ByteArray} {u : List UInt8} (h : (x.toList == u) = false) : x.data.toList ≠ u := by rw [← Lib.toList_data]; simpa using h

set_option maxRecDepth 100000 in
set_option maxHeartbeats 2000000 in
theorem rline_grid (B : Nat) (p : Pl) (t : ByteArray) (ht : t.size ≤ 100000) (A1 : Option Addr) (n1 c1 : Nat) (A2 : Option Addr) (n2 c2 : Nat) (A3 : Option Addr) (n3 c3 : Nat) (k : Nat) (hk : t.size = k + 1) (hq : (((t[k]'(by omega)).toNat : Int) == 10) = true)
    (x0 x1 x2 : ByteArray) (hx : bs (wordsF (t.data.toList.take k)) = [x0, x1, x2]) (h0 : (x0.toList == [103, 114, 105, 100]) = true) (w : World) (ho : Own B p (.slice A1 n1 c1) (.slice A2 n2 c2) (.slice A3 n3 c3) w) :
    Calls Tryz.prog 36 #[.agg #[.int .i64 p.rows, .int .i64 p.cols, .slice A1 n1 c1, .slice A2 n2 c2, .slice A3 n3 c3], .string t] w (LineEnd B t.data.toList p (.slice A1 n1 c1) (.slice A2 n2 c2) (.slice A3 n3 c3) w) := by
  obtain ⟨hT, hE⟩ := feed_cut hk (by simpa using hq)
  obtain ⟨a, b, hN1⟩ := NumIs.some_one x1.data.toList
  obtain ⟨c, d, hN2⟩ := NumIs.some_one x2.data.toList
  have HLn : Hid (LnIs t.data.toList (if (b && d) = true then some (.grid (a + 1) (c + 1)) else none)) := by
    rw [hT]
    refine Lib.hid (LnIs.of_words ?_)
    rw [bs_at hx]
    simp only [List.map_cons, List.map_nil, word_is h0]
    exact WIs.grid hN1 hN2
  have HW := Lib.hid (fun w1 => rwords_x (t.extract 0 k) (by first | (simp; done) | (simp; omega)) (xs := [x0, x1, x2]) (by rw [hE]; exact hx) w1)
  have HN1 := Lib.hid (fun w1 => rnumber_x x1 hN1 w1)
  have HN2 := Lib.hid (fun w1 => rnumber_x x2 hN2 w1)
  have HO0 := Lib.hid ho
  obtain ⟨ha0, ha1⟩ := NumIs.range hN1
  obtain ⟨hc0, hc1⟩ := NumIs.range hN2
  have h0z : (x0.toList == [122, 111, 110, 101]) = false := by rw [beq_eq_false_iff_ne, Lib.toList_data, word_is h0]; decide
  have h0u : (x0.toList == [117, 115, 101, 114]) = false := by rw [beq_eq_false_iff_ne, Lib.toList_data, word_is h0]; decide
  have hn1 : ((t.size : Int) == 0) = false := by rw [beq_eq_false_iff_ne]; omega
  have hn2 : ((k : Int) + 1 == 0) = false := by rw [beq_eq_false_iff_ne]; omega
  have hkb : k ≤ 99999 := by omega
  have hq2 : (((t[k]'(by omega)).toNat : Int) != 10) = false := by rw [bne, hq]; rfl
  clear hx hN1 hN2 hT hE ho
  generalize hTT : t.data.toList = T at *
  clear hTT
  obtain ⟨r, hr⟩ : ∃ r, p.rows = r := ⟨_, rfl⟩
  obtain ⟨q, hqq⟩ : ∃ q, p.cols = q := ⟨_, rfl⟩
  rw [hr, hqq]
  have hb0 := below2 w (.cells #[.int .i64 r, .int .i64 q, .slice A1 n1 c1, .slice A2 n2 c2, .slice A3 n3 c3] 26) (.cells #[.int .i64 0, .int .i64 0, .slice none 0 0, .slice none 0 0, .slice none 0 0] 26)
  have kp := (CellsAt.new w [.int .i64 r, .int .i64 q, .slice A1 n1 c1, .slice A2 n2 c2, .slice A3 n3 c3] 26).on_alloc (.cells #[.int .i64 0, .int .i64 0, .slice none 0 0, .slice none 0 0, .slice none 0 0] 26)
  have kr := CellsAt.new (w.alloc (.cells #[.int .i64 r, .int .i64 q, .slice A1 n1 c1, .slice A2 n2 c2, .slice A3 n3 c3] 26)) [.int .i64 0, .int .i64 0, .slice none 0 0, .slice none 0 0, .slice none 0 0] 26
  rw [show (w.alloc (.cells #[.int .i64 r, .int .i64 q, .slice A1 n1 c1, .slice A2 n2 c2, .slice A3 n3 c3] 26)).heap.size = w.heap.size + 1 by simp] at kr
  go_enter Tryz.func36, Tryz.ntmps36
  go_wp2_with fail
  generalize (w.alloc (.cells #[.int .i64 r, .int .i64 q, .slice A1 n1 c1, .slice A2 n2 c2, .slice A3 n3 c3] 26)).alloc (.cells #[.int .i64 0, .int .i64 0, .slice none 0 0, .slice none 0 0, .slice none 0 0] 26) = W at *
  refine (HW.out _).mono ?_
  rintro e w1 ⟨g, cap, rfl, hc, hg, hgB, hb1⟩
  have hsW := kr.1
  replace hb0 := on hb0 hb1
  replace kp := kp.on hb1
  replace kr := kr.on hb1
  have g0 := hc 0 x0 rfl
  have g1 := hc 1 x1 rfl
  have g2 := hc 2 x2 rfl
  have G0 := fun d os => cell_regrown g0 d os
  have G1 := fun d os => cell_regrown g1 d os
  have G2 := fun d os => cell_regrown g2 d os
  clear hb1 hc HW
  go_wp2_with fail
  refine wp_region_new 10 (fun d' => match d' with
    | 44 => some (Is (.agg #[.int .i64 a, .bool b]))
    | 48 => some (Is (.agg #[.int .i64 c, .bool d]))
    | 7 => some (NewCells w1.heap.size [.int .i64 0, .bool false])
    | 8 => some (NewCells w1.heap.size [.int .i64 0, .bool false])
    | _ => none) (fun d' => d' == 7 || d' == 8) (by kernel_rfl) (by kernel_rfl) ?_
  simp only [List.take_succ_cons, List.take_zero, List.drop_succ_cons, List.drop_zero]
  repeat (first | ((with_reducible refine wpM_calm ?_ ?_ ?_ ?_); exact rfl; exact rfl; exact rfl; intro K hK; go_big_quiet_op; go_big_quiet_on) | ((with_reducible refine wpM_skip ?_ ?_); exact rfl; simp only [Act.put, List.setIfInBounds_toArray, List.set_cons_succ, List.set_cons_zero]))
  refine wpM_exact rfl rfl rfl Tryz.func58 (by kernel_rfl) (by kernel_rfl) (fun w1 _ _ => HN1.out w1) rfl (by simp only [Act.put, List.setIfInBounds_toArray, List.set_cons_succ, List.set_cons_zero]; rfl) ?_
  repeat (first | ((with_reducible refine wpM_calm ?_ ?_ ?_ ?_); exact rfl; exact rfl; exact rfl; intro K hK; go_big_quiet_op; go_big_quiet_on) | ((with_reducible refine wpM_skip ?_ ?_); exact rfl; simp only [Act.put, List.setIfInBounds_toArray, List.set_cons_succ, List.set_cons_zero]))
  refine wpM_exact rfl rfl rfl Tryz.func58 (by kernel_rfl) (by kernel_rfl) (fun w1 _ _ => HN2.out w1) rfl (by simp only [Act.put, List.setIfInBounds_toArray, List.set_cons_succ, List.set_cons_zero]; rfl) ?_
  refine wpM_alloc _ (.cells #[.int .i64 0, .bool false] 100) rfl rfl rfl (fun w1 => by simp [go_sem]) (fun w1 h1 => (NewCells.mk w1 _ _ h1.size).2) ?_ (by rintro v ⟨_, b, rfl, _⟩; exact ⟨b, rfl⟩)
  intro b6 a' ha'
  simp only [Act.put, List.setIfInBounds_toArray, List.set_cons_succ, List.set_cons_zero] at ha'
  subst ha'
  refine wpM_alloc _ (.cells #[.int .i64 0, .bool false] 100) rfl rfl rfl (fun w1 => by simp [go_sem]) (fun w1 h1 => (NewCells.mk w1 _ _ h1.size).2) ?_ (by rintro v ⟨_, b, rfl, _⟩; exact ⟨b, rfl⟩)
  intro b7 a' ha'
  simp only [Act.put, List.setIfInBounds_toArray, List.set_cons_succ, List.set_cons_zero] at ha'
  subst ha'
  refine wpM_nil ?_
  intro w4 hb4 hG
  have hne : b6 ≠ b7 := hG.2.1 8 b6 9 b7 (.inl (.inr ⟨rfl, rfl⟩)) (.inr ⟨rfl, rfl⟩) (by decide)
  obtain ⟨hB7, k7⟩ := NewCells.at (Fct.put_at (hG.2.2.1 9))
  obtain ⟨hB6, k6⟩ := NewCells.at (Fct.put_at (Fct.put_old (hG.2.2.1 8)))
  have hs1 := hb0.size
  have lp := kp.1
  have lr := kr.1
  clear hG G0 G1 G2
  replace hb0 := on hb0 hb4
  obtain ⟨m0, m1, f0, f1⟩ := k6.two
  obtain ⟨j0, j1, y0, y1⟩ := (k7.put2_far hne (.int .i64 a) (.bool b)).two
  have k6a := ((k6.put2 (.int .i64 a) (.bool b)).put2_far hne.symm (.int .i64 c) (.bool d))
  have k7a := ((k7.put2_far hne (.int .i64 a) (.bool b)).put2 (.int .i64 c) (.bool d))
  have kpa := ((kp.on hb4).put2_far (c := b6) (by omega) (.int .i64 a) (.bool b)).put2_far (c := b7) (by omega) (.int .i64 c) (.bool d)
  have kra := ((kr.on hb4).put2_far (c := b6) (by omega) (.int .i64 a) (.bool b)).put2_far (c := b7) (by omega) (.int .i64 c) (.bool d)
  replace hb0 : Below w.heap.size w (put2 (put2 w4 b6 (.int .i64 a) (.bool b)) b7 (.int .i64 c) (.bool d)) := set2 (set2 hb0 (by omega) _ _) (by omega) _ _
  have gX := cell_far (q := ⟨b7, 1, none⟩) (cell_far (q := ⟨b7, 0, none⟩) (cell_far (q := ⟨b6, 1, none⟩) (cell_far (q := ⟨b6, 0, none⟩) (kept hb4 g0) (by simp; omega) (.int .i64 a)) (by simp; omega) (.bool b)) (by simp; omega) (.int .i64 c)) (by simp; omega) (.bool d)
  clear kp kr k6 k7 hb4
  go_upto_region 6 with fail
  dsimp only [put2] at hb0 k6a k7a kpa kra
  generalize ((((w4.setCell ⟨b6, 0, none⟩ (.int .i64 a)).setCell ⟨b6, 1, none⟩ (.bool b)).setCell ⟨b7, 0, none⟩ (.int .i64 c)).setCell ⟨b7, 1, none⟩ (.bool d)) = X at *
  clear m0 m1 f0 f1 j0 j1 y0 y1
  obtain ⟨s0, s1, _⟩ := k6a.two
  obtain ⟨p0, p1, p2, p3, p4, o0, o1, o2, o3, o4⟩ := kpa.five
  have hne6 : w.heap.size ≠ b6 := by omega
  have hne7 : w.heap.size ≠ b7 := by omega
  have hner : w.heap.size ≠ w.heap.size + 1 := by omega
  obtain ⟨s2, s3, _⟩ := (k7a.far (p := ⟨w.heap.size, 0, none⟩) hne7 (.int .i64 (a + 1))).two
  have k6b := (k6a.far (p := ⟨w.heap.size, 0, none⟩) hne6 (.int .i64 (a + 1))).far (p := ⟨w.heap.size, 1, none⟩) hne6 (.int .i64 (c + 1))
  have k7b := (k7a.far (p := ⟨w.heap.size, 0, none⟩) hne7 (.int .i64 (a + 1))).far (p := ⟨w.heap.size, 1, none⟩) hne7 (.int .i64 (c + 1))
  have krb := (kra.far (p := ⟨w.heap.size, 0, none⟩) hner (.int .i64 (a + 1))).far (p := ⟨w.heap.size, 1, none⟩) hner (.int .i64 (c + 1))
  have kpb := (kpa.set (i := 0) (by simp) (.int .i64 (a + 1))).set (i := 1) (by simp) (.int .i64 (c + 1))
  have gY := cell_far (q := ⟨w.heap.size, 1, none⟩) (cell_far (q := ⟨w.heap.size, 0, none⟩) gX (by simp; omega) (.int .i64 (a + 1))) (by simp; omega) (.int .i64 (c + 1))
  replace hb0 : Below w.heap.size w ((X.setCell ⟨w.heap.size, 0, none⟩ (.int .i64 (a + 1))).setCell ⟨w.heap.size, 1, none⟩ (.int .i64 (c + 1))) := set2 hb0 (by omega) _ _
  go_upto_region 8 with fail
  generalize ((X.setCell ⟨w.heap.size, 0, none⟩ (.int .i64 (a + 1))).setCell ⟨w.heap.size, 1, none⟩ (.int .i64 (c + 1))) = Y at *
  clear s0 s1 s2 s3 p0 p1 p2 p3 p4 o0 o1 o2 o3 o4 k6a k7a kpa kra
  obtain ⟨s0, s1, _⟩ := k6b.two
  obtain ⟨s2, s3, _⟩ := k7b.two
  obtain ⟨p0, p1, p2, p3, p4, _⟩ := kpb.five
  obtain ⟨r0, r1, r2, r3, r4, f0, f1, f2, f3, f4⟩ := krb.five
  obtain ⟨e0, e1, e2, e3, e4, _⟩ := (krb.put5 (.int .i64 (a + 1)) (.int .i64 (c + 1)) (.slice A1 n1 c1) (.slice A2 n2 c2) (.slice A3 n3 c3)).five
  have hbx : Below w.heap.size w (put5 Y (w.heap.size + 1) (.int .i64 (a + 1)) (.int .i64 (c + 1)) (.slice A1 n1 c1) (.slice A2 n2 c2) (.slice A3 n3 c3)) := put5_below hb0 (by omega) _ _ _ _ _
  have HOx := Lib.hid (HO0.out.on hbx)
  have hgl := World.block_lt_of_cell? _ _ gY
  have lp2 := kpb.1
  have lr2 := krb.1
  dsimp only [put5, put4] at e0 e1 e2 e3 e4 hbx HOx
  clear k6b k7b kpb krb hb0
  cases b <;> cases d
  case true.true =>
    have HL : Hid (LnIs T (some (.grid (a + 1) (c + 1)))) := HLn
    go_wp2
    exact bodyPost_ret (v := .tuple #[.agg #[.int .i64 (a + 1), .int .i64 (c + 1), .slice A1 n1 c1, .slice A2 n2 c2, .slice A3 n3 c3], .int .i64 1]) (by simp [results, Tryz.results36, go_sem, e0, e1, e2, e3, e4]) rfl
      (LineEnd.some_ HL.out (below_none hbx) (.inl rfl) rfl rfl rfl (HOx.out.size _ _))
  all_goals
    have HL : Hid (LnIs T none) := HLn
    go_wp2
    exact bodyPost_ret (v := .tuple #[.agg #[.int .i64 (a + 1), .int .i64 (c + 1), .slice A1 n1 c1, .slice A2 n2 c2, .slice A3 n3 c3], .int .i64 0]) (by simp [results, Tryz.results36, go_sem, e0, e1, e2, e3, e4]) rfl
      (LineEnd.none_ HL.out (below_none hbx) (.inl rfl))
end Go.Proofs.YtmlmanlcomfhbaaGreatDoor.Pol
namespace Go.Proofs.YtmlmanlcomfhbaaGreatDoor.Pol
open Go.RowKit Kit Reg
open Go.Proofs.YtmlmanlcomfhbaaGreatDoor.Zone (Zn ZonesR)
open Go.Proofs.YtmlmanlcomfhbaaGreatDoor.Right (Us Gr UsersR GrantsR OwnS strs StrsR)
open Go.Proofs.YtmlmanlcomfhbaaGreatDoor.Cats (U U_zero LabIs)
open Go.Proofs.YtmlmanlcomfhbaaGreatDoor.Span (SpanIs mayS textI)
open Go.Proofs.YtmlmanlcomfhbaaGreatDoor.Addr (NumIs)

set_option maxRecDepth 100000 in
set_option maxHeartbeats 2000000 in
theorem rline_odd (B : Nat) (p : Pl) (t : ByteArray) (ht : t.size ≤ 100000) (A1 : Option Addr) (n1 c1 : Nat) (A2 : Option Addr) (n2 c2 : Nat) (A3 : Option Addr) (n3 c3 : Nat) (k : Nat) (hk : t.size = k + 1) (hq : (((t[k]'(by omega)).toNat : Int) == 10) = true)
    (xs : List ByteArray) (hx : bs (wordsF (t.data.toList.take k)) = xs)
    (hodd : (((xs.length : Int) == 3) = false ∧ ((xs.length : Int) == 4) = false) ∨ (∃ x0 x1 x2, xs = [x0, x1, x2] ∧ (x0.toList == [103, 114, 105, 100]) = false ∧ (x0.toList == [122, 111, 110, 101]) = false ∧ (x0.toList == [117, 115, 101, 114]) = false) ∨ ∃ x0 x1 x2 x3, xs = [x0, x1, x2, x3] ∧ (x0.toList == [103, 114, 97, 110, 116]) = false) (w : World) :
    Calls Tryz.prog 36 #[.agg #[.int .i64 p.rows, .int .i64 p.cols, .slice A1 n1 c1, .slice A2 n2 c2, .slice A3 n3 c3], .string t] w (LineEnd B t.data.toList p (.slice A1 n1 c1) (.slice A2 n2 c2) (.slice A3 n3 c3) w) := by
  obtain ⟨hT, hE⟩ := feed_cut hk (by simpa using hq)
  have HLn : Hid (LnIs t.data.toList none) := by
    rw [hT]
    refine Lib.hid (LnIs.of_words ?_)
    rw [bs_at hx]
    rcases hodd with ⟨h1, h2⟩ | ⟨x0, x1, x2, rfl, h1, h2, h3⟩ | ⟨x0, x1, x2, x3, rfl, h1⟩
    · refine WIs.odd (fun e => ?_) (fun e => ?_)
      · rw [List.length_map] at e
        rw [e] at h1
        exact absurd h1 (by decide)
      · rw [List.length_map] at e
        rw [e] at h2
        exact absurd h2 (by decide)
    · refine WIs.odd (fun _ => ?_) (fun e => absurd e (by simp))
      simp only [List.map_cons, List.getElem?_cons_zero, ne_eq, Option.some.injEq]
      exact ⟨word_no h1, word_no h2, word_no h3⟩
    · refine WIs.odd (fun e => absurd e (by simp)) (fun _ => ?_)
      simp only [List.map_cons, List.getElem?_cons_zero, ne_eq, Option.some.injEq]
      exact word_no h1
  have HW := Lib.hid (fun w1 => rwords_x (t.extract 0 k) (by first | (simp; done) | (simp; omega)) (xs := xs) (by rw [hE]; exact hx) w1)
  have hn1 : ((t.size : Int) == 0) = false := by rw [beq_eq_false_iff_ne]; omega
  have hn2 : ((k : Int) + 1 == 0) = false := by rw [beq_eq_false_iff_ne]; omega
  have hkb : k ≤ 99999 := by omega
  have hq2 : (((t[k]'(by omega)).toNat : Int) != 10) = false := by rw [bne, hq]; rfl
  clear hx hT hE
  generalize hTT : t.data.toList = T at *
  clear hTT
  obtain ⟨r, hr⟩ : ∃ r, p.rows = r := ⟨_, rfl⟩
  obtain ⟨q, hqq⟩ : ∃ q, p.cols = q := ⟨_, rfl⟩
  rw [hr, hqq]
  have hb0 := below2 w (.cells #[.int .i64 r, .int .i64 q, .slice A1 n1 c1, .slice A2 n2 c2, .slice A3 n3 c3] 26) (.cells #[.int .i64 0, .int .i64 0, .slice none 0 0, .slice none 0 0, .slice none 0 0] 26)
  have kp := (CellsAt.new w [.int .i64 r, .int .i64 q, .slice A1 n1 c1, .slice A2 n2 c2, .slice A3 n3 c3] 26).on_alloc (.cells #[.int .i64 0, .int .i64 0, .slice none 0 0, .slice none 0 0, .slice none 0 0] 26)
  have kr := CellsAt.new (w.alloc (.cells #[.int .i64 r, .int .i64 q, .slice A1 n1 c1, .slice A2 n2 c2, .slice A3 n3 c3] 26)) [.int .i64 0, .int .i64 0, .slice none 0 0, .slice none 0 0, .slice none 0 0] 26
  rw [show (w.alloc (.cells #[.int .i64 r, .int .i64 q, .slice A1 n1 c1, .slice A2 n2 c2, .slice A3 n3 c3] 26)).heap.size = w.heap.size + 1 by simp] at kr
  go_enter Tryz.func36, Tryz.ntmps36
  go_wp2_with fail
  generalize (w.alloc (.cells #[.int .i64 r, .int .i64 q, .slice A1 n1 c1, .slice A2 n2 c2, .slice A3 n3 c3] 26)).alloc (.cells #[.int .i64 0, .int .i64 0, .slice none 0 0, .slice none 0 0, .slice none 0 0] 26) = W at *
  refine (HW.out _).mono ?_
  rintro e w1 ⟨g, cap, rfl, hc, hg, hgB, hb1⟩
  have hsW := kr.1
  replace hb0 := on hb0 hb1
  replace kp := kp.on hb1
  replace kr := kr.on hb1
  obtain ⟨r0, r1, r2, r3, r4, f0, f1, f2, f3, f4⟩ := kr.five
  obtain ⟨p0, p1, p2, p3, p4, _⟩ := kp.five
  obtain ⟨e0, e1, e2, e3, e4, _⟩ := (kr.put5 (.int .i64 r) (.int .i64 q) (.slice A1 n1 c1) (.slice A2 n2 c2) (.slice A3 n3 c3)).five
  have hbx : Below w.heap.size w (put5 w1 (w.heap.size + 1) (.int .i64 r) (.int .i64 q) (.slice A1 n1 c1) (.slice A2 n2 c2) (.slice A3 n3 c3)) := put5_below hb0 (by omega) _ _ _ _ _
  have lp := kp.1
  have lr := kr.1
  dsimp only [put5, put4] at e0 e1 e2 e3 e4 hbx
  clear hb1 HW kp kr hb0
  rcases hodd with ⟨h1, h2⟩ | ⟨x0, x1, x2, rfl, h1, h2, h3⟩ | ⟨x0, x1, x2, x3, rfl, h1⟩
  · clear hc
    go_wp2
    exact bodyPost_ret (v := .tuple #[.agg #[.int .i64 r, .int .i64 q, .slice A1 n1 c1, .slice A2 n2 c2, .slice A3 n3 c3], .int .i64 0]) (by simp [results, Tryz.results36, go_sem, e0, e1, e2, e3, e4]) rfl (LineEnd.none_ HLn.out (below_none hbx) (.inl rfl))
  · have g0 := hc 0 x0 rfl
    clear hc
    go_wp2
    exact bodyPost_ret (v := .tuple #[.agg #[.int .i64 r, .int .i64 q, .slice A1 n1 c1, .slice A2 n2 c2, .slice A3 n3 c3], .int .i64 0]) (by simp [results, Tryz.results36, go_sem, e0, e1, e2, e3, e4]) rfl (LineEnd.none_ HLn.out (below_none hbx) (.inl rfl))
  · have g0 := hc 0 x0 rfl
    clear hc
    go_wp2
    exact bodyPost_ret (v := .tuple #[.agg #[.int .i64 r, .int .i64 q, .slice A1 n1 c1, .slice A2 n2 c2, .slice A3 n3 c3], .int .i64 0]) (by simp [results, Tryz.results36, go_sem, e0, e1, e2, e3, e4]) rfl (LineEnd.none_ HLn.out (below_none hbx) (.inl rfl))
end Go.Proofs.YtmlmanlcomfhbaaGreatDoor.Pol
