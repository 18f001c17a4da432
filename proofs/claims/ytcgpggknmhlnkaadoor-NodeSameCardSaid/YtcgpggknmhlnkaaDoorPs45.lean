/- A row of nodes cloned; a tree copied: what is answered lies in new memory. Written by wip/gen22copy.py. -/
import Derived.Test.YtcgpggknmhlnkaaDoorPs44
import Derived.Test.YtcgpggknmhlnkaaDoorPs26
import Derived.Maps.AppendAt
import Derived.OneCell
namespace Go.Proofs.YtcgpggknmhlnkaaDoor.Nod
open Go.RowKit Kit Reg
/-- so many cells written anew, one behind the other -/
def putL (w : World) (g : Nat) : Nat → List Value → World
  | _, [] => w
  | o, x :: r => putL (w.setCell ⟨g, o, none⟩ x) g (o + 1) r
def setL (xs : List Value) : Nat → List Value → List Value
  | _, [] => xs
  | o, x :: r => setL (xs.set o x) (o + 1) r
theorem own_putL {B size g cap n : Nat} {e : TypeId} : ∀ (cs : List Value) (o : Nat) {w : World} {xs : List Value}, w.ownsRow B e size (.slice (some ⟨g, 0, none⟩) n cap) n xs → (putL w g o cs).ownsRow B e size (.slice (some ⟨g, 0, none⟩) n cap) n (setL xs o cs)
  | [], _, _, _, h => h
  | x :: r, o, _, _, h => own_putL r (o + 1) (h.stored o x).1
theorem putL_grown {B size g cap n : Nat} {e : TypeId} : ∀ (cs : List Value) (o : Nat) {w : World} {xs : List Value}, w.ownsRow B e size (.slice (some ⟨g, 0, none⟩) n cap) n xs → w.grownBy (putL w g o cs) (some g)
  | [], _, _, _, _ => ⟨rfl, rfl, rfl, Nat.le_refl _, fun _ _ _ => rfl⟩
  | x :: r, o, _, _, h => by
    have h1 := (h.stored o x).2
    have h2 := putL_grown r (o + 1) (h.stored o x).1
    exact ⟨h2.os.trans h1.os, h2.tape.trans h1.tape, h2.output.trans h1.output, Nat.le_trans h1.size h2.size, fun k hk hne => (h2.block k (Nat.lt_of_lt_of_le hk h1.size) hne).trans (h1.block k hk hne)⟩
theorem setL_append : ∀ (cs xs ys : List Value) (o : Nat), setL (xs ++ ys) (xs.length + o) cs = xs ++ setL ys o cs
  | [], _, _, _ => rfl
  | c :: cs, xs, ys, o => by
    show setL ((xs ++ ys).set (xs.length + o) c) (xs.length + o + 1) cs = xs ++ setL (ys.set o c) (o + 1) cs
    rw [List.set_append_right _ _ (Nat.le_add_right _ _), Nat.add_sub_cancel_left, Nat.add_assoc, setL_append cs xs _ (o + 1)]
theorem setL_flat : ∀ (L : List El) (i : Nat) (e : El), i < L.length → setL (flatE L) (i * 14) e.cells = flatE (L.set i e)
  | [], _, _, h => absurd h (Nat.not_lt_zero _)
  | u :: r, 0, e, _ => rfl
  | u :: r, i + 1, e, h => by
    have ih := setL_flat r i e (by simpa using h)
    show setL (u.cells ++ flatE r) ((i + 1) * 14) e.cells = u.cells ++ flatE (r.set i e)
    rw [show (i + 1) * 14 = u.cells.length + i * 14 from by show (i + 1) * 14 = 14 + i * 14; omega, setL_append, ih]
theorem own_putL_far {B size n : Nat} {e : TypeId} {v : Value} {xs : List Value} {b : Nat} (hb : b < B) : ∀ (cs : List Value) (o : Nat) {w : World}, w.ownsRow B e size v n xs → (putL w b o cs).ownsRow B e size v n xs
  | [], _, _, h => h
  | x :: r, o, _, h => own_putL_far hb r (o + 1) (ownsRow_setCell_below h (a := ⟨b, o, none⟩) hb x)
theorem putL_cell {b : Nat} {p : Addr} (hp : p.block ≠ b) : ∀ (cs : List Value) (o : Nat) (w : World), (putL w b o cs).cell? p = w.cell? p
  | [], _, _ => rfl
  | x :: r, o, w => (putL_cell hp r (o + 1) _).trans (World.cell?_setCell_other _ _ _ _ fun e => hp (by rw [← e]))
theorem putL_size (b : Nat) : ∀ (cs : List Value) (o : Nat) (w : World), (putL w b o cs).heap.size = w.heap.size
  | [], _, _ => rfl
  | x :: r, o, w => (putL_size b r (o + 1) _).trans (by simp)
theorem putL_below {w0 : World} {b : Nat} (hB : w0.heap.size ≤ b) : ∀ (cs : List Value) (o : Nat) {w : World}, Below w0.heap.size w0 w → Below w0.heap.size w0 (putL w b o cs)
  | [], _, _, h => h
  | x :: r, o, _, h => putL_below hB r (o + 1) (h.setCell (p := ⟨b, o, none⟩) hB x)
theorem cells_putL {b : Nat} : ∀ (cs : List Value) (o : Nat) {w : World} {xs : List Value}, o + cs.length ≤ xs.length → CellsAt w b xs → CellsAt (putL w b o cs) b (setL xs o cs)
  | [], _, _, _, _, h => h
  | x :: r, o, _, _, hl, h => cells_putL r (o + 1) (by simp at hl ⊢; omega) (h.set (i := o) (by simp at hl; omega) x)
theorem cells_putL_far {b c : Nat} (hc : c ≠ b) : ∀ (cs : List Value) (o : Nat) {w : World} {xs : List Value}, CellsAt w b xs → CellsAt (putL w c o cs) b xs
  | [], _, _, _, h => h
  | x :: r, o, _, _, h => cells_putL_far hc r (o + 1) (h.far (p := ⟨c, o, none⟩) hc x)
theorem run_nil (w : World) (a : Option Addr) (n c n' c' : Nat) : (binOp .eql 26 (.slice a n c) (.slice none n' c')).run Tryd.prog w = .ok (.bool a.isNone) w := Lib.run_eql_slice_nil w _ _ a n c n' c' Tryd.underlying26
set_option maxRecDepth 100000 in
set_option maxHeartbeats 4000000 in
theorem clone_some (ad : Addr) (n c : Nat) (L : List El) (hn : n ≤ 1000) (w : World) (hl : L.length = n) (hz : ∀ j u, (flatE L)[j]? = some u → w.cell? (ad.add j) = some u) : Calls Tryd.prog 33 #[.slice (some ad) n c] w fun e w' => ∃ v, e = .returned v ∧ OwnE w.heap.size v L w' ∧ Below w.heap.size w w' := by
  obtain ⟨i0, hii, hz0, hz1, hz2⟩ := info_parts infoE
  have q22 := run_nil
  have HL := Lib.hid hl
  have HZ := Lib.hid hz
  clear hz hl
  have hown0 := World.ownsRow_made (e := 28) (size := 14) w #[] 0 (Nat.le_refl _) (Nat.zero_le _) rfl
  go_enter Tryd.func33, Tryd.ntmps33
  go_wp2_with (at_builtin; refine wpList_append_own _ rfl _ _ 26 rfl w.heap.size 28 i0 _ 14 120 Tryd.underlying26 hii hz0 hz1 hz2 rfl (by decide) _ _ _ rfl hown0 ad n c (flatE L) rfl ?c0 ?c1 ?c2 ?c3 ?c4 ?c5 ?_)
  case c0 => rw [flatE_length, HL.out]
  case c1 => exact fun j u hj => Lib.cell?_alloc_some _ (HZ.out j u hj)
  case c2 => exact flatE_one L
  case c3 => unfold maxLen; omega
  case c4 => omega
  case c5 => simp
  intro v1 w1 hown1 hg1 _
  have hb1 := ((Below.refl _ w).alloc (Nat.le_refl _) _).grown hg1 (by simp) (by intro k hk; simp [Value.ownBlock] at hk; omega)
  clear hown0
  go_wp2_with fail
  go_ret
  refine ⟨v1, rfl, ?_, hb1⟩
  unfold OwnE
  rw [HL.out]
  exact hown1
set_option maxRecDepth 100000 in
theorem clone_none (n c : Nat) (w : World) : Calls Tryd.prog 33 #[.slice none n c] w fun e w' => e = .returned (.slice none 0 0) ∧ w' = w := by
  have q22 := run_nil
  go_enter Tryd.func33, Tryd.ntmps33
  go_wp2
  go_ret
  exact ⟨rfl, rfl⟩
theorem clone_c (A : Option Addr) (n c : Nat) (F : Fo) (L : List El) (hn : n ≤ 1000) (w : World) (hk : KidsR w A n F) (hz : ElsR w A n L) : Calls Tryd.prog 33 #[.slice A n c] w fun e w' => ∃ v, e = .returned v ∧ OwnE w.heap.size v L w' ∧ Below w.heap.size w w' := by
  cases A with
  | none =>
    have hn0 : n = 0 := by
      by_cases h : n = 0
      · exact h
      · obtain ⟨b, o, e, _⟩ := hk.2 h
        cases e
    subst hn0
    obtain rfl : L = [] := List.length_eq_zero_iff.1 hz.1
    refine (clone_none 0 c w).mono ?_
    rintro e w' ⟨rfl, rfl⟩
    exact ⟨_, rfl, World.ownsRow_nil _ _ _ _, Below.refl _ _⟩
  | some a =>
    obtain ⟨b, o, spot⟩ := a
    by_cases hn0 : n = 0
    · subst hn0
      obtain rfl : L = [] := List.length_eq_zero_iff.1 hz.1
      exact clone_some _ 0 c [] hn w rfl fun j u h => by simp [flatE] at h
    · obtain ⟨b', o', e, _⟩ := hk.2 hn0
      simp only [Option.some.injEq, Addr.mk.injEq] at e
      obtain ⟨rfl, rfl, rfl⟩ := e
      exact clone_some _ n c L hn w hz.1 hz.cells

/-- a copy: it lies in new memory -/
def CopyIs (h : Hd) (F : Fo) (w : World) (e : Ending) (w' : World) : Prop := ∃ A n c, e = .returned (.agg #[.int .i64 h.k, .int .i64 h.op, .int .i64 h.vk, .int .i64 h.vn, .string h.vt, .int .i64 h.ar, .int .i64 h.ac, .bool h.ah, .bool h.al, .int .i64 h.br, .int .i64 h.bc, .bool h.bh, .bool h.bl, .slice A n c]) ∧ KidsP (fun b => w.heap.size ≤ b ∧ b < w'.heap.size) w' A n F ∧ Below w.heap.size w w'
/-- of the nodes in a row the first i lie in new memory, behind the row; the others do not lie in the row -/
def PartIs (u : World) (g i : Nat) (w : World) (L : List El) : Prop := ∀ j e, L[j]? = some e → KidsP (fun b => ((j < i ∧ g < b) ∨ (i ≤ j ∧ b < u.heap.size)) ∧ b < w.heap.size) w e.A e.n e.f
set_option maxRecDepth 100000 in
set_option maxHeartbeats 4000000 in
theorem copied_step (h : Hd) (A : Option Addr) (n c : Nat) (F : Fo) (hF : count F ≤ 1000)
    (HC : ∀ x ∈ tops F, ∀ (A : Option Addr) (n c : Nat) (w : World), count x.2 ≤ 1000 → KidsR w A n x.2 → Calls Tryd.prog 26 #[.agg #[.int .i64 x.1.k, .int .i64 x.1.op, .int .i64 x.1.vk, .int .i64 x.1.vn, .string x.1.vt, .int .i64 x.1.ar, .int .i64 x.1.ac, .bool x.1.ah, .bool x.1.al, .int .i64 x.1.br, .int .i64 x.1.bc, .bool x.1.bh, .bool x.1.bl, .slice A n c]] w (CopyIs x.1 x.2 w))
    (w : World) (hz : KidsR w A n F) : Calls Tryd.prog 26 #[.agg #[.int .i64 h.k, .int .i64 h.op, .int .i64 h.vk, .int .i64 h.vn, .string h.vt, .int .i64 h.ar, .int .i64 h.ac, .bool h.ah, .bool h.al, .int .i64 h.br, .int .i64 h.bc, .bool h.bh, .bool h.bl, .slice A n c]] w (CopyIs h F w) := by
  obtain ⟨L0, hL0, hel, hgd⟩ := hz.els
  have hn0 : n ≤ 1000 := by have h1 := hz.1.1; have h2 := arity_le F; omega
  have HZ := Lib.hid hz
  have HC := Lib.hid HC
  have HN := Lib.hid hz.1.1
  have HCL := Lib.hid (fun w1 (hw : Below w.heap.size w w1) => clone_c A n c F L0 hn0 w1 (hz.on hw) (hel.on hw))
  have HL0 := Lib.hid hL0
  have HE := Lib.hid hel
  have HG := Lib.hid hgd
  have hb00 := below1 w (.cells #[.int .i64 h.k, .int .i64 h.op, .int .i64 h.vk, .int .i64 h.vn, .string h.vt, .int .i64 h.ar, .int .i64 h.ac, .bool h.ah, .bool h.al, .int .i64 h.br, .int .i64 h.bc, .bool h.bh, .bool h.bl, .slice A n c] 28)
  have hX := CellsAt.new w [.int .i64 h.k, .int .i64 h.op, .int .i64 h.vk, .int .i64 h.vn, .string h.vt, .int .i64 h.ar, .int .i64 h.ac, .bool h.ah, .bool h.al, .int .i64 h.br, .int .i64 h.bc, .bool h.bh, .bool h.bl, .slice A n c] 28
  clear hz hel hgd hL0
  go_enter Tryd.func26, Tryd.ntmps26
  go_wp2_with fail
  refine (HCL.out _ (on_alloc hb00 _)).mono ?_
  rintro e w1 ⟨v1, rfl, hrow, hb1⟩
  obtain ⟨A1, c1, rfl, _⟩ := hrow.reads
  have hL0n := HE.out.1
  rw [hL0n]
  rw [hL0n] at hrow
  have hX1 := (hX.on_alloc _).on hb1
  have s1 : w.heap.size + 2 ≤ w1.heap.size := by have := hb1.size; simp at this; omega
  have hb2 := on (on_alloc hb00 _) hb1
  have hlt1 := hX1.1
  obtain ⟨p13, f13⟩ := hX1.2 13 _ rfl
  unfold OwnE at hrow
  replace hrow := hrow.mono (base' := w.heap.size + 2) (by simp)
  have hY1 := ((CellsAt.new (w.alloc (.cells #[.int .i64 h.k, .int .i64 h.op, .int .i64 h.vk, .int .i64 h.vn, .string h.vt, .int .i64 h.ar, .int .i64 h.ac, .bool h.ah, .bool h.al, .int .i64 h.br, .int .i64 h.bc, .bool h.bh, .bool h.bl, .slice A n c] 28)) [.int .i64 0, .int .i64 0, .int .i64 0, .int .i64 0, .string ⟨#[]⟩, .int .i64 0, .int .i64 0, .bool false, .bool false, .int .i64 0, .int .i64 0, .bool false, .bool false, .slice none 0 0] 28).on hb1)
  have e2 : (w.alloc (.cells #[.int .i64 h.k, .int .i64 h.op, .int .i64 h.vk, .int .i64 h.vn, .string h.vt, .int .i64 h.ar, .int .i64 h.ac, .bool h.ah, .bool h.al, .int .i64 h.br, .int .i64 h.bc, .bool h.bh, .bool h.bl, .slice A n c] 28)).heap.size = w.heap.size + 1 := by simp
  rw [e2] at hY1
  clear hX hb1 hb00 hL0n e2
  go_wp2_with fail
  have hXW := hX1.set (i := 13) (by simp) (.slice A1 n c1)
  have hrowW := ownsRow_setCell_below hrow (a := ⟨w.heap.size, 13, none⟩) (by show w.heap.size < w.heap.size + 2; omega) (.slice A1 n c1)
  have hbW := hb2.setCell (p := ⟨w.heap.size, 13, none⟩) (Nat.le_refl _) (.slice A1 n c1)
  have hYW := hY1.far (p := ⟨w.heap.size, 13, none⟩) (by show w.heap.size ≠ w.heap.size + 1; omega) (.slice A1 n c1)
  generalize hW : w1.setCell _ _ = W at *
  replace hXW : CellsAt W w.heap.size [.int .i64 h.k, .int .i64 h.op, .int .i64 h.vk, .int .i64 h.vn, .string h.vt, .int .i64 h.ar, .int .i64 h.ac, .bool h.ah, .bool h.al, .int .i64 h.br, .int .i64 h.bc, .bool h.bh, .bool h.bl, .slice A1 n c1] := hXW
  obtain ⟨g, hg⟩ : ∃ g, n ≠ 0 → A1 = some ⟨g, 0, none⟩ ∧ w.heap.size + 2 ≤ g := by
    by_cases h0 : n = 0
    · exact ⟨0, fun h => absurd h0 h⟩
    · rcases hrowW.2 with ⟨_, h1⟩ | ⟨g, cap, cur, e, hB, _⟩
      · have := HE.out.1; omega
      · simp only [Value.slice.injEq] at e
        exact ⟨g, fun _ => ⟨e.1, hB⟩⟩
  have HGG := Lib.hid hg
  have hpart : PartIs w g 0 W L0 := fun j e he => by
    have h2 := (HG.out e (List.mem_of_getElem? he)).low
    exact h2.to (fun b hb => ⟨.inr ⟨Nat.zero_le _, hb⟩, Nat.lt_of_lt_of_le hb hbW.size⟩) fun b hb o v hv => (hbW.cell (p := ⟨b, o, none⟩) hb).trans hv
  have hl0 := HE.out.1
  clear hX1 hrow hb2 p13 f13 hlt1 s1 hW hY1 hg
  go_loopw [12] (fun x wr => ∃ i : Nat, i ≤ n ∧ x = .int .i64 i ∧ (∃ L : List El, wr.ownsRow (w.heap.size + 2) 28 14 (.slice A1 n c1) n (flatE L) ∧ L.length = n ∧ Hid (L.map El.nd = tops F) ∧ PartIs w g i wr L) ∧ Below w.heap.size w wr ∧ CellsAt wr w.heap.size [.int .i64 h.k, .int .i64 h.op, .int .i64 h.vk, .int .i64 h.vn, .string h.vt, .int .i64 h.ar, .int .i64 h.ac, .bool h.ah, .bool h.al, .int .i64 h.br, .int .i64 h.bc, .bool h.bh, .bool h.bl, .slice A1 n c1] ∧ CellsAt wr (w.heap.size + 1) [.int .i64 0, .int .i64 0, .int .i64 0, .int .i64 0, .string ⟨#[]⟩, .int .i64 0, .int .i64 0, .bool false, .bool false, .int .i64 0, .int .i64 0, .bool false, .bool false, .slice none 0 0]) (fun x _ => n - (intOf x).toNat)
  case atStart => exact ⟨0, Nat.zero_le _, rfl, ⟨L0, by rw [hl0] at hrowW; exact hrowW, hl0, HL0, hpart⟩, hbW, hXW, hYW⟩
  case round =>
    clear hrowW hpart hbW hXW hYW hl0
    obtain ⟨i, hi, rfl, ⟨L, hrow, hLn, HLm, hpart⟩, hb, hX, hY⟩ := hrel
    by_cases hlt : i < n
    · obtain ⟨rfl, hgB⟩ := HGG.out (by omega)
      obtain ⟨⟨eh, eA, en, ec, ef⟩, he⟩ : ∃ e, L[i]? = some e := ⟨_, List.getElem?_eq_getElem (by omega)⟩
      have hcell : ∀ j v, (El.cells ⟨eh, eA, en, ec, ef⟩)[j]? = some v → wr.cell? ⟨g, i * 14 + j, none⟩ = some v := fun j v hj => by
        have h14 : j < 14 := (List.getElem?_eq_some_iff.1 hj).1
        rw [World.ownsRow.cellAt hrow (i * 14 + j) (by omega)]
        exact flatE_at L i _ he j v hj
      have y0 : wr.cell? ⟨g, i * 14, none⟩ = some (.int .i64 eh.k) := hcell 0 _ rfl
      have y1 : wr.cell? ⟨g, i * 14 + 1, none⟩ = some _ := hcell 1 _ rfl
      have y2 : wr.cell? ⟨g, i * 14 + 2, none⟩ = some _ := hcell 2 _ rfl
      have y3 : wr.cell? ⟨g, i * 14 + 3, none⟩ = some _ := hcell 3 _ rfl
      have y4 : wr.cell? ⟨g, i * 14 + 4, none⟩ = some _ := hcell 4 _ rfl
      have y5 : wr.cell? ⟨g, i * 14 + 5, none⟩ = some _ := hcell 5 _ rfl
      have y6 : wr.cell? ⟨g, i * 14 + 6, none⟩ = some _ := hcell 6 _ rfl
      have y7 : wr.cell? ⟨g, i * 14 + 7, none⟩ = some _ := hcell 7 _ rfl
      have y8 : wr.cell? ⟨g, i * 14 + 8, none⟩ = some _ := hcell 8 _ rfl
      have y9 : wr.cell? ⟨g, i * 14 + 9, none⟩ = some _ := hcell 9 _ rfl
      have y10 : wr.cell? ⟨g, i * 14 + 10, none⟩ = some _ := hcell 10 _ rfl
      have y11 : wr.cell? ⟨g, i * 14 + 11, none⟩ = some _ := hcell 11 _ rfl
      have y12 : wr.cell? ⟨g, i * 14 + 12, none⟩ = some _ := hcell 12 _ rfl
      have y13 : wr.cell? ⟨g, i * 14 + 13, none⟩ = some _ := hcell 13 _ rfl
      have hx : (tops F)[i]? = some (eh, ef) := by rw [← HLm.out, List.getElem?_map, he]; rfl
      have hk0 := hpart i _ he
      have hk := hk0.reads fun b hb => hb.2
      have hxm := List.mem_of_getElem? hx
      have hxc := top_count hxm
      have HH := Lib.hid (fun w1 (hw : Below wr.heap.size wr w1) => HC.out (eh, ef) hxm eA en ec w1 (by show count ef ≤ 1000; have : 1 + count ef ≤ count F := hxc; omega) (hk.on hw))
      have q13 := (hX.2 13 _ rfl).1
      have glt := (World.ownsRow.lt hrow g rfl).2
      have slt := hX.1
      have hXb := CellsAt.new wr [.int .i64 eh.k, .int .i64 eh.op, .int .i64 eh.vk, .int .i64 eh.vn, .string eh.vt, .int .i64 eh.ar, .int .i64 eh.ac, .bool eh.ah, .bool eh.al, .int .i64 eh.br, .int .i64 eh.bc, .bool eh.bh, .bool eh.bl, .slice eA en ec] 28
      have hbb := below1 wr (.cells #[.int .i64 eh.k, .int .i64 eh.op, .int .i64 eh.vk, .int .i64 eh.vn, .string eh.vt, .int .i64 eh.ar, .int .i64 eh.ac, .bool eh.ah, .bool eh.al, .int .i64 eh.br, .int .i64 eh.bc, .bool eh.bh, .bool eh.bl, .slice eA en ec] 28)
      have q13b := kept hbb q13
      have hrb := own_on hrow hbb
      clear hcell hk0 hk hxm hx q13
      go_wp2_with fail
      generalize hWb : wr.alloc (.cells #[.int .i64 eh.k, .int .i64 eh.op, .int .i64 eh.vk, .int .i64 eh.vn, .string eh.vt, .int .i64 eh.ar, .int .i64 eh.ac, .bool eh.ah, .bool eh.al, .int .i64 eh.br, .int .i64 eh.bc, .bool eh.bh, .bool eh.bl, .slice eA en ec] 28) = Wb at *
      clear hWb
      have Z0 := fun d os => cell_regrown (hXb.2 0 _ rfl).1 d os
      have Z1 := fun d os => cell_regrown (hXb.2 1 _ rfl).1 d os
      have Z2 := fun d os => cell_regrown (hXb.2 2 _ rfl).1 d os
      have Z3 := fun d os => cell_regrown (hXb.2 3 _ rfl).1 d os
      have Z4 := fun d os => cell_regrown (hXb.2 4 _ rfl).1 d os
      have Z5 := fun d os => cell_regrown (hXb.2 5 _ rfl).1 d os
      have Z6 := fun d os => cell_regrown (hXb.2 6 _ rfl).1 d os
      have Z7 := fun d os => cell_regrown (hXb.2 7 _ rfl).1 d os
      have Z8 := fun d os => cell_regrown (hXb.2 8 _ rfl).1 d os
      have Z9 := fun d os => cell_regrown (hXb.2 9 _ rfl).1 d os
      have Z10 := fun d os => cell_regrown (hXb.2 10 _ rfl).1 d os
      have Z11 := fun d os => cell_regrown (hXb.2 11 _ rfl).1 d os
      have Z12 := fun d os => cell_regrown (hXb.2 12 _ rfl).1 d os
      have Z13 := fun d os => cell_regrown (hXb.2 13 _ rfl).1 d os
      have Q := fun d os => cell_regrown q13b d os
      clear q13b y0 y1 y2 y3 y4 y5 y6 y7 y8 y9 y10 y11 y12 y13
      refine wp_region_mem 6 (fun d => match d with
          | 21 => some (fun v w' => ∃ A' n' c', v = .agg #[.int .i64 eh.k, .int .i64 eh.op, .int .i64 eh.vk, .int .i64 eh.vn, .string eh.vt, .int .i64 eh.ar, .int .i64 eh.ac, .bool eh.ah, .bool eh.al, .int .i64 eh.br, .int .i64 eh.bc, .bool eh.bh, .bool eh.bl, .slice A' n' c'] ∧ KidsP (fun b => Wb.heap.size ≤ b ∧ b < w'.heap.size) w' A' n' ef)
          | _ => none) (by kernel_rfl) (by kernel_rfl) ?_
      simp only [List.take_succ_cons, List.take_zero, List.drop_succ_cons, List.drop_zero]
      repeat (first | ((with_reducible refine wpM_calm ?_ ?_ ?_ ?_); exact rfl; exact rfl; exact rfl; intro K hK; go_big_quiet_op; go_big_quiet_on) | ((with_reducible refine wpM_skip ?_ ?_); exact rfl; simp only [Act.put, List.setIfInBounds_toArray, List.set_cons_succ, List.set_cons_zero]))
      refine wpM_call _ rfl rfl rfl Tryd.func26 (by kernel_rfl) (by kernel_rfl) (fun w1 hw1 _ => (HH.out w1 (on hbb hw1)).mono fun e w2 ⟨A', n', c', e1, h1, h2⟩ => ⟨_, e1, h2, A', n', c', rfl, h1.to (fun b hb => ⟨Nat.le_trans hw1.size hb.1, hb.2⟩) fun _ _ _ _ hv => hv⟩) rfl ?_
      rintro v1 ⟨_, A', n', c', rfl, _⟩ a1 ha1
      simp only [Act.put, List.setIfInBounds_toArray, List.set_cons_succ, List.set_cons_zero] at ha1
      subst ha1
      repeat (first | ((with_reducible refine wpM_calm ?_ ?_ ?_ ?_); exact rfl; exact rfl; exact rfl; intro K hK; go_big_quiet_op; go_big_quiet_on) | ((with_reducible refine wpM_skip ?_ ?_); exact rfl; simp only [Act.put, List.setIfInBounds_toArray, List.set_cons_succ, List.set_cons_zero]))
      refine wpM_nil ?_
      intro w9 hw9 hF
      obtain ⟨w8, ⟨A2, n2, c2, e8, hk8⟩, hb8⟩ := Fct.put_at (hF 4)
      have hk9 : KidsP (fun b => Wb.heap.size ≤ b ∧ b < w9.heap.size) w9 A' n' ef := by
        have e9 : Value.slice A' n' c' = Value.slice A2 n2 c2 := by simpa using e8
        simp only [Value.slice.injEq] at e9
        obtain ⟨rfl, rfl, rfl⟩ := e9
        exact hk8.to (fun b hb => ⟨hb.1, Nat.lt_of_lt_of_le hb.2 hb8.size⟩) fun b hb o v hv => kept hb8 hv
      have row9 := own_on hrb hw9
      have X9 := (hX.on hbb).on hw9
      have Y9 := (hY.on hbb).on hw9
      have b9 := on (on hb hbb) hw9
      have br9 := on hbb hw9
      have hc9 : ∀ j v, (El.cells ⟨eh, eA, en, ec, ef⟩)[j]? = some v → w9.cell? ⟨g, i * 14 + j, none⟩ = some v := fun j v hj => by
        have h14 : j < 14 := (List.getElem?_eq_some_iff.1 hj).1
        rw [World.ownsRow.cellAt row9 (i * 14 + j) (by omega)]
        exact flatE_at L i _ he j v hj
      clear hF hb8 hk8 e8 Q Z0 Z1 Z2 Z3 Z4 Z5 Z6 Z7 Z8 Z9 Z10 Z11 Z12 Z13
      have s0 : w9.cell? ⟨g, i * 14, none⟩ = some (.int .i64 eh.k) := hc9 0 _ rfl
      have f0 : w9.frozen? ⟨g, i * 14, none⟩ = false := World.ownsRow.frozenAt row9 _
      have s1 : w9.cell? ⟨g, i * 14 + 1, none⟩ = some _ := hc9 1 _ rfl
      have f1 : w9.frozen? ⟨g, i * 14 + 1, none⟩ = false := World.ownsRow.frozenAt row9 _
      have s2 : w9.cell? ⟨g, i * 14 + 2, none⟩ = some _ := hc9 2 _ rfl
      have f2 : w9.frozen? ⟨g, i * 14 + 2, none⟩ = false := World.ownsRow.frozenAt row9 _
      have s3 : w9.cell? ⟨g, i * 14 + 3, none⟩ = some _ := hc9 3 _ rfl
      have f3 : w9.frozen? ⟨g, i * 14 + 3, none⟩ = false := World.ownsRow.frozenAt row9 _
      have s4 : w9.cell? ⟨g, i * 14 + 4, none⟩ = some _ := hc9 4 _ rfl
      have f4 : w9.frozen? ⟨g, i * 14 + 4, none⟩ = false := World.ownsRow.frozenAt row9 _
      have s5 : w9.cell? ⟨g, i * 14 + 5, none⟩ = some _ := hc9 5 _ rfl
      have f5 : w9.frozen? ⟨g, i * 14 + 5, none⟩ = false := World.ownsRow.frozenAt row9 _
      have s6 : w9.cell? ⟨g, i * 14 + 6, none⟩ = some _ := hc9 6 _ rfl
      have f6 : w9.frozen? ⟨g, i * 14 + 6, none⟩ = false := World.ownsRow.frozenAt row9 _
      have s7 : w9.cell? ⟨g, i * 14 + 7, none⟩ = some _ := hc9 7 _ rfl
      have f7 : w9.frozen? ⟨g, i * 14 + 7, none⟩ = false := World.ownsRow.frozenAt row9 _
      have s8 : w9.cell? ⟨g, i * 14 + 8, none⟩ = some _ := hc9 8 _ rfl
      have f8 : w9.frozen? ⟨g, i * 14 + 8, none⟩ = false := World.ownsRow.frozenAt row9 _
      have s9 : w9.cell? ⟨g, i * 14 + 9, none⟩ = some _ := hc9 9 _ rfl
      have f9 : w9.frozen? ⟨g, i * 14 + 9, none⟩ = false := World.ownsRow.frozenAt row9 _
      have s10 : w9.cell? ⟨g, i * 14 + 10, none⟩ = some _ := hc9 10 _ rfl
      have f10 : w9.frozen? ⟨g, i * 14 + 10, none⟩ = false := World.ownsRow.frozenAt row9 _
      have s11 : w9.cell? ⟨g, i * 14 + 11, none⟩ = some _ := hc9 11 _ rfl
      have f11 : w9.frozen? ⟨g, i * 14 + 11, none⟩ = false := World.ownsRow.frozenAt row9 _
      have s12 : w9.cell? ⟨g, i * 14 + 12, none⟩ = some _ := hc9 12 _ rfl
      have f12 : w9.frozen? ⟨g, i * 14 + 12, none⟩ = false := World.ownsRow.frozenAt row9 _
      have s13 : w9.cell? ⟨g, i * 14 + 13, none⟩ = some _ := hc9 13 _ rfl
      have f13 : w9.frozen? ⟨g, i * 14 + 13, none⟩ = false := World.ownsRow.frozenAt row9 _
      clear hc9
      go_wp2_with fail
      clear s0 s1 s2 s3 s4 s5 s6 s7 s8 s9 s10 s11 s12 s13 f0 f1 f2 f3 f4 f5 f6 f7 f8 f9 f10 f11 f12 f13
      have row10 := own_putL (El.cells ⟨eh, A', n', c', ef⟩) (i * 14) row9
      rw [setL_flat L i _ (by omega)] at row10
      have g10 := putL_grown (El.cells ⟨eh, A', n', c', ef⟩) (i * 14) row9
      have X10 := cells_putL_far (show g ≠ w.heap.size by omega) (El.cells ⟨eh, A', n', c', ef⟩) (i * 14) X9
      have Y10 := cells_putL_far (show g ≠ w.heap.size + 1 by omega) (El.cells ⟨eh, A', n', c', ef⟩) (i * 14) Y9
      have b10 := putL_below (show w.heap.size ≤ g by omega) (El.cells ⟨eh, A', n', c', ef⟩) (i * 14) b9
      have hm10 : Hid ((L.set i ⟨eh, A', n', c', ef⟩).map El.nd = tops F) := Lib.hid (by
        rw [List.map_set, HLm.out]
        show (tops F).set i (eh, ef) = tops F
        rw [← HLm.out]
        refine List.ext_getElem? fun k => ?_
        rw [List.getElem?_set]
        split
        · rename_i hk
          subst hk
          rw [List.getElem?_map, he]
          simp [El.nd, hLn, hlt]
        · rfl)
      have p10 : PartIs w g (i + 1) (putL w9 g (i * 14) (El.cells ⟨eh, A', n', c', ef⟩)) (L.set i ⟨eh, A', n', c', ef⟩) := fun j e hj => by
        have keep : ∀ b, b ≠ g → ∀ o v, w9.cell? ⟨b, o, none⟩ = some v → (putL w9 g (i * 14) (El.cells ⟨eh, A', n', c', ef⟩)).cell? ⟨b, o, none⟩ = some v := fun b hb o v hv => (putL_cell (p := ⟨b, o, none⟩) hb _ _ _).trans hv
        rw [putL_size]
        by_cases hji : i = j
        · subst hji
          rw [List.getElem?_set_self (by omega)] at hj
          obtain rfl : El.mk eh A' n' c' ef = e := by simpa using hj
          have := hbb.size
          exact hk9.to (fun b hb => ⟨.inl ⟨by omega, by omega⟩, hb.2⟩) fun b hb => keep b (by omega)
        · rw [List.getElem?_set_ne hji] at hj
          have h1 := hpart j e hj
          have h2 := h1.to (p := _) (q := fun b => ((j < i + 1 ∧ g < b) ∨ (i + 1 ≤ j ∧ b < w.heap.size)) ∧ b < w9.heap.size) (w' := w9) (fun b hb => ⟨by have := hb.1; omega, Nat.lt_of_lt_of_le hb.2 br9.size⟩) fun b hb o v hv => kept br9 hv
          exact h2.to (fun b hb => hb) fun b hb => keep b (by have := hb.1; omega)
      clear row9 X9 Y9 b9 br9 hpart hk9 HH he hX hY hb hrow hbb hrb hw9
      go_wp2_with fail
      go_roundw
      case rel => exact ⟨i + 1, by omega, by go_num, ⟨L.set i ⟨eh, A', n', c', ef⟩, row10, by rw [List.length_set, hLn], hm10, p10⟩, b10, X10, Y10⟩
      case measure => simp [intOf]; omega
    · obtain rfl : n = i := by omega
      have x0 := (hX.2 0 _ rfl).1
      obtain ⟨u0, f0⟩ := hY.2 0 _ rfl
      have x1 := (hX.2 1 _ rfl).1
      obtain ⟨u1, f1⟩ := hY.2 1 _ rfl
      have x2 := (hX.2 2 _ rfl).1
      obtain ⟨u2, f2⟩ := hY.2 2 _ rfl
      have x3 := (hX.2 3 _ rfl).1
      obtain ⟨u3, f3⟩ := hY.2 3 _ rfl
      have x4 := (hX.2 4 _ rfl).1
      obtain ⟨u4, f4⟩ := hY.2 4 _ rfl
      have x5 := (hX.2 5 _ rfl).1
      obtain ⟨u5, f5⟩ := hY.2 5 _ rfl
      have x6 := (hX.2 6 _ rfl).1
      obtain ⟨u6, f6⟩ := hY.2 6 _ rfl
      have x7 := (hX.2 7 _ rfl).1
      obtain ⟨u7, f7⟩ := hY.2 7 _ rfl
      have x8 := (hX.2 8 _ rfl).1
      obtain ⟨u8, f8⟩ := hY.2 8 _ rfl
      have x9 := (hX.2 9 _ rfl).1
      obtain ⟨u9, f9⟩ := hY.2 9 _ rfl
      have x10 := (hX.2 10 _ rfl).1
      obtain ⟨u10, f10⟩ := hY.2 10 _ rfl
      have x11 := (hX.2 11 _ rfl).1
      obtain ⟨u11, f11⟩ := hY.2 11 _ rfl
      have x12 := (hX.2 12 _ rfl).1
      obtain ⟨u12, f12⟩ := hY.2 12 _ rfl
      have x13 := (hX.2 13 _ rfl).1
      obtain ⟨u13, f13⟩ := hY.2 13 _ rfl
      have slt := hX.1
      have slt2 := hY.1
      go_wp2_with fail
      have Y11 := cells_putL [.int .i64 h.k, .int .i64 h.op, .int .i64 h.vk, .int .i64 h.vn, .string h.vt, .int .i64 h.ar, .int .i64 h.ac, .bool h.ah, .bool h.al, .int .i64 h.br, .int .i64 h.bc, .bool h.bh, .bool h.bl, .slice A1 n c1] 0 (by simp) hY
      have b11 := putL_below (show w.heap.size ≤ w.heap.size + 1 by omega) [.int .i64 h.k, .int .i64 h.op, .int .i64 h.vk, .int .i64 h.vn, .string h.vt, .int .i64 h.ar, .int .i64 h.ac, .bool h.ah, .bool h.al, .int .i64 h.br, .int .i64 h.bc, .bool h.bh, .bool h.bl, .slice A1 n c1] 0 hb
      have k11 : ∀ cs, KidsP (fun b => w.heap.size ≤ b ∧ b < (putL wr (w.heap.size + 1) 0 cs).heap.size) (putL wr (w.heap.size + 1) 0 cs) A1 n F := by
        intro cs
        by_cases h0 : n = 0
        · subst h0
          exact ⟨⟨HN.out, Nat.zero_le _⟩, fun h => absurd rfl h⟩
        · obtain ⟨rfl, hgB⟩ := HGG.out h0
          have r11 := own_putL_far (show w.heap.size + 1 < w.heap.size + 2 by omega) cs 0 hrow
          refine kids_of_row HLm.out hLn (by unfold maxLen; omega) ⟨by omega, (World.ownsRow.lt r11 g rfl).2⟩ (fun k e he j x hj => ?_) fun e he => ?_
          · have h14 : j < 14 := (List.getElem?_eq_some_iff.1 hj).1
            have hk := (List.getElem?_eq_some_iff.1 he).1
            rw [World.ownsRow.cellAt r11 (k * 14 + j) (by omega)]
            exact flatE_at L k _ he j x hj
          · obtain ⟨k, hk⟩ := List.getElem?_of_mem he
            have hkl := (List.getElem?_eq_some_iff.1 hk).1
            rw [putL_size]
            exact (hpart k e hk).to (fun b hb => ⟨by have := hb.1; omega, hb.2⟩) fun b hb o v hv => (putL_cell (p := ⟨b, o, none⟩) (show b ≠ w.heap.size + 1 by have := hb.1; omega) _ _ _).trans hv
      have k12 := k11 [.int .i64 h.k, .int .i64 h.op, .int .i64 h.vk, .int .i64 h.vn, .string h.vt, .int .i64 h.ar, .int .i64 h.ac, .bool h.ah, .bool h.al, .int .i64 h.br, .int .i64 h.bc, .bool h.bh, .bool h.bl, .slice A1 n c1]
      generalize hW11 : World.setCell _ ⟨w.heap.size + 1, 13, none⟩ _ = W11
      have e11 : putL wr (w.heap.size + 1) 0 [.int .i64 h.k, .int .i64 h.op, .int .i64 h.vk, .int .i64 h.vn, .string h.vt, .int .i64 h.ar, .int .i64 h.ac, .bool h.ah, .bool h.al, .int .i64 h.br, .int .i64 h.bc, .bool h.bh, .bool h.bl, .slice A1 n c1] = W11 := hW11
      rw [e11] at Y11 b11 k12
      clear hW11 e11 k11
      have Y12 : CellsAt W11 (w.heap.size + 1) [.int .i64 h.k, .int .i64 h.op, .int .i64 h.vk, .int .i64 h.vn, .string h.vt, .int .i64 h.ar, .int .i64 h.ac, .bool h.ah, .bool h.al, .int .i64 h.br, .int .i64 h.bc, .bool h.bh, .bool h.bl, .slice A1 n c1] := Y11
      have e0 := (Y12.2 0 _ rfl).1
      have e1 := (Y12.2 1 _ rfl).1
      have e2 := (Y12.2 2 _ rfl).1
      have e3 := (Y12.2 3 _ rfl).1
      have e4 := (Y12.2 4 _ rfl).1
      have e5 := (Y12.2 5 _ rfl).1
      have e6 := (Y12.2 6 _ rfl).1
      have e7 := (Y12.2 7 _ rfl).1
      have e8 := (Y12.2 8 _ rfl).1
      have e9 := (Y12.2 9 _ rfl).1
      have e10 := (Y12.2 10 _ rfl).1
      have e11 := (Y12.2 11 _ rfl).1
      have e12 := (Y12.2 12 _ rfl).1
      have e13 := (Y12.2 13 _ rfl).1
      exact bodyPost_ret (v := .agg #[.int .i64 h.k, .int .i64 h.op, .int .i64 h.vk, .int .i64 h.vn, .string h.vt, .int .i64 h.ar, .int .i64 h.ac, .bool h.ah, .bool h.al, .int .i64 h.br, .int .i64 h.bc, .bool h.bh, .bool h.bl, .slice A1 n c1]) (by simp [results, Tryd.results26, go_sem, e0, e1, e2, e3, e4, e5, e6, e7, e8, e9, e10, e11, e12, e13]) rfl ⟨A1, n, c1, rfl, k12, b11⟩
theorem copied_c : ∀ (N : Nat) (h : Hd) (A : Option Addr) (n c : Nat) (F : Fo), count F ≤ 1000 → count F ≤ N → ∀ (w : World), KidsR w A n F → Calls Tryd.prog 26 #[.agg #[.int .i64 h.k, .int .i64 h.op, .int .i64 h.vk, .int .i64 h.vn, .string h.vt, .int .i64 h.ar, .int .i64 h.ac, .bool h.ah, .bool h.al, .int .i64 h.br, .int .i64 h.bc, .bool h.bh, .bool h.bl, .slice A n c]] w (CopyIs h F w)
  | 0, h, A, n, c, F, hF, hN, w, hz => copied_step h A n c F hF (fun x hx => absurd (top_count hx) (by omega)) w hz
  | N + 1, h, A, n, c, F, hF, hN, w, hz => copied_step h A n c F hF (fun x hx A' n' c' w' hF' hz' => copied_c N x.1 A' n' c' x.2 hF' (by have := top_count hx; omega) w' hz') w hz

end Go.Proofs.YtcgpggknmhlnkaaDoor.Nod
