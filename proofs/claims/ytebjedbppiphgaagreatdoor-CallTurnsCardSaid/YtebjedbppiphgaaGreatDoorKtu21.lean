/- Rows of one's own: behind calls, behind appends; and 'append' of what came in, nil too. No function of the program is named here.
   Rows of bytes of one's own, and such a row as a text. No function of the program is named here.
   What the program's isGreat, isSmall, isLetter, turned, fits and the reference's letter, up, down, room answer (over the landed text of package text).
   What the program's written, Upper, Lower, Proper and Trim answer (over the landed text of package text): for every text of at most a million bytes.
   What the program's Trim and the reference's Turn, Trim answer: for every text of at most a million bytes. -/
import Derived.Test.YtebjedbppiphgaaGreatDoorKtu09
import Derived.Laws.OwnMore
import Derived.Maps.AppendAt
import Derived.Deep.Onto
import Derived.Laws.AppendOwnNone
import Derived.Lib.UnsafeStr
import Derived.Laws.IdiomStrings
import Derived.Test.YtebjedbppiphgaaGreatDoorKtu16
import Derived.WalkSmall
import Derived.LoopTactic
namespace Go.Proofs.YtebjedbppiphgaaGreatDoor.Kit
open Go.RowKit Reg
theorem below_none {A B : World} (hb : Below A.heap.size A B) : A.grownBy B none := ⟨hb.os, hb.tape, hb.output, hb.size, fun k hk _ => hb.block k hk⟩
theorem own_on {w w' : World} {B : Nat} {e : TypeId} {size : Nat} {v : Value} {n : Nat} {xs : List Value} (h : w.ownsRow B e size v n xs) (hb : Below w.heap.size w w') : w'.ownsRow B e size v n xs := World.ownsRow.kept h (below_none hb) (by
  rcases h.2 with ⟨rfl, _⟩ | ⟨g, cap, cur, rfl, _⟩
  · exact .inl rfl
  · exact .inr (by simp [Value.ownBlock]))
/-- cells stay where another block turns -/
theorem cells_grown {A B : World} {b : Nat} {cs : List Value} {row : Option Nat} (h : CellsAt A b cs) (hg : A.grownBy B row) (hne : some b ≠ row) : CellsAt B b cs := by
  have hb := hg.block b h.1 hne
  exact ⟨Nat.lt_of_lt_of_le h.1 hg.size, fun i v hi => ⟨(World.cell?_of_block (a := ⟨b, i, none⟩) hb).trans (h.2 i v hi).1, (World.frozen?_of_block (a := ⟨b, i, none⟩) hb).trans (h.2 i v hi).2⟩⟩
/-- where a row's own block is -/
theorem own_far {w : World} {B : Nat} {e : TypeId} {size : Nat} {v : Value} {n : Nat} {xs : List Value} (h : w.ownsRow B e size v n xs) {b : Nat} (hb : b < B) : some b ≠ v.ownBlock := fun e => by
  have := (World.ownsRow.lt h b e.symm).1
  omega
end Go.Proofs.YtebjedbppiphgaaGreatDoor.Kit
namespace Go.Proofs.YtebjedbppiphgaaGreatDoor.Kit
open Go.RowKit Reg
theorem infoB : (Tryz.prog.info? 5).map (fun i => (i.zero, i.size, i.bytes)) = some (some (.int .u8 0), 1, 1) := by kernel_rfl
/-- a row of bytes of one's own, in a block at B or above -/
def OwnB (B : Nat) (v : Value) (l : List UInt8) (w : World) : Prop := w.ownsRow B 5 1 v l.length (Lib.byteCells l)
theorem OwnB.lit {B : Nat} {w : World} (hB : B ≤ w.heap.size) (b : UInt8) (x : Int) (hx : x = (b.toNat : Int)) : OwnB B (.slice (some ⟨w.heap.size, 0, none⟩) 1 1) [b] (w.alloc (.cells #[.int .u8 x] 5)) := by
  subst hx
  exact World.ownsRow_lit w #[.int .u8 (b.toNat : Int)] 1 hB (by decide) rfl
theorem OwnB.snoc {B : Nat} {w : World} {v : Value} {l : List UInt8} (b : UInt8) (x : Int) (hx : x = (b.toNat : Int)) (h : w.ownsRow B 5 1 v (l.length + 1) (Lib.byteCells l ++ [.int .u8 x])) : OwnB B v (l ++ [b]) w := by
  subst hx
  unfold OwnB
  rw [Lib.byteCells_append, List.length_append]
  exact h
theorem OwnB.on {B : Nat} {w w' : World} {v : Value} {l : List UInt8} (h : OwnB B v l w) (hb : Below w.heap.size w w') : OwnB B v l w' := own_on h hb
set_option maxRecDepth 100000 in
/-- such a row as a text -/
theorem OwnB.conv {B : Nat} {w : World} {v : Value} {l : List UInt8} (h : OwnB B v l w) : (convert 50 9 v).run Tryz.prog w = .ok (.string ⟨l.toArray⟩) w := by
  rcases h.2 with ⟨rfl, h0⟩ | ⟨g, cap, cur, rfl, _⟩
  · obtain rfl : l = [] := List.eq_nil_of_length_eq_zero h0
    rw [run_convert_bytes_string w _ _ _ _ 0 0 Tryz.underlying50 Tryz.underlying5 Tryz.underlying9]
    rfl
  · refine run_convert_bytes_back w _ _ _ ⟨g, 0, none⟩ cap l Tryz.underlying50 Tryz.underlying5 Tryz.underlying9 (fun j hj => ?_)
    exact World.ownsRow.cells h rfl j _ (by simp [Lib.byteCells, hj])
/-- what stays behind an append to such a row -/
theorem OwnB.below {B : Nat} {w0 w w' : World} {v : Value} {n : Nat} {xs : List Value} {o : Obj} (h : w.ownsRow B 5 1 v n xs) (hb : Below w0.heap.size w0 w) (hB : w0.heap.size ≤ B) (hg : (w.alloc o).grownBy w' v.ownBlock) : Below w0.heap.size w0 w' :=
  (on_alloc hb _).grown hg (by have := hb.size; simp; omega) (fun b e => Nat.le_trans hB (World.ownsRow.lt h b e).1)
end Go.Proofs.YtebjedbppiphgaaGreatDoor.Kit
namespace Go.Proofs.YtebjedbppiphgaaGreatDoor.Txt
open Go.RowKit Kit Reg
theorem len (t : ByteArray) : t.data.toList.length = t.size := (Lib.size_eq t).symm
theorem bytes_eq {a b : ByteArray} (h : a.data.toList = b.data.toList) : a = b := ByteArray.ext (Array.toList_inj.1 h)
theorem str_is {t : ByteArray} {l : List UInt8} (h : t.data.toList = l) : t = ⟨l.toArray⟩ := bytes_eq (by simp [h])
/-- do they fit? -/
def fitsB (s : Nat) (n left : Int) : Bool := decide (0 ≤ left) && (decide (n = 0) || decide ((s : Int) * n ≤ left))
theorem fits_div (s : Nat) (n l : Int) (hn : 0 < n) (hl : 0 ≤ l) : decide ((s : Int) ≤ l.tdiv n) = decide ((s : Int) * n ≤ l) := by
  rw [Int.tdiv_eq_ediv_of_nonneg hl]
  by_cases h : (s : Int) * n ≤ l
  · rw [decide_eq_true h, decide_eq_true ((Int.le_ediv_iff_mul_le hn).2 h)]
  · rw [decide_eq_false h, decide_eq_false (fun e => h ((Int.le_ediv_iff_mul_le hn).1 e))]
set_option maxRecDepth 100000 in
set_option maxHeartbeats 400000 in
theorem fits_c (s : Nat) (n left : Int) (b : Bool) (hb : fitsB s n left = b) (n0 : 0 ≤ n) (n9 : n ≤ 9223372036854775807) (l9 : left ≤ 9223372036854775807) (w : World) :
    Calls Tryz.prog 190 #[.int .i64 (s : Int), .int .i64 n, .int .i64 left] w fun e w' => e = .returned (.bool b) ∧ w = w' := by
  unfold fitsB at hb
  by_cases h1 : 0 ≤ left
  · rw [decide_eq_true h1, Bool.true_and] at hb
    by_cases h2 : n = 0
    · subst h2
      rw [decide_eq_true rfl, Bool.true_or] at hb
      subst hb
      go_enter Tryz.func190, Tryz.ntmps190
      go_wp2
      go_ret
      exact ⟨rfl, rfl⟩
    · rw [decide_eq_false h2, Bool.false_or, ← fits_div s n left (by omega) h1] at hb
      have hz : (n == 0) = false := by simpa using h2
      obtain ⟨q, hq⟩ : ∃ q, left.tdiv n = q := ⟨_, rfl⟩
      rw [hq] at hb
      have hq1 : 0 ≤ q := by rw [← hq]; exact Int.tdiv_nonneg h1 n0
      have hq2 : q ≤ left := by
        rw [← hq, Int.tdiv_eq_ediv_of_nonneg h1]
        exact Int.ediv_le_self n h1
      go_enter Tryz.func190, Tryz.ntmps190
      go_wp2
      go_ret
      exact ⟨rfl, rfl⟩
  · rw [decide_eq_false h1, Bool.false_and] at hb
    subst hb
    go_enter Tryz.func190, Tryz.ntmps190
    go_wp2
    go_ret
    exact ⟨rfl, rfl⟩

end Go.Proofs.YtebjedbppiphgaaGreatDoor.Txt
namespace Go.Proofs.YtebjedbppiphgaaGreatDoor.Txt
open Go.RowKit Kit Reg
theorem byteCells_at (l : List UInt8) (k : Nat) (c : UInt8) (h : l[k]? = some c) : (Lib.byteCells l)[k]? = some (.int .u8 (c.toNat : Int)) := by
  simp [Lib.byteCells, h]
/-- a text as bytes: new memory -/
theorem bytes_of (t : ByteArray) (w : World) : ∃ cap w1, (convert 9 50 (.string t)).run Tryz.prog w = .ok (.slice (some ⟨w.heap.size, 0, none⟩) t.size cap) w1 ∧ t.size ≤ cap ∧
    CellsAt w1 w.heap.size (Lib.byteCells t.data.toList) ∧ Below w.heap.size w w1 := by
  refine ⟨_, _, run_bytes_of_string w _ _ _ t Tryz.underlying9 Tryz.underlying50 Tryz.underlying5, grownCap_ge _ _ _ _, ⟨by show w.drew.heap.size < (w.drew.alloc _).heap.size; simp, fun i x hx => ?_⟩, ?_⟩
  · have hi : i < t.data.size := by
      have h := (List.getElem?_eq_some_iff.1 hx).1
      rw [Lib.byteCells_length, len] at h
      exact h
    have hx2 : x = .int .u8 (t.data[i].toNat : Int) := by
      have h := byteCells_at t.data.toList i t.data[i] (by rw [List.getElem?_eq_getElem (by simpa using hi)]; simp)
      rw [hx] at h
      exact Option.some.inj h
    subst hx2
    have e : w.heap.size = w.drew.heap.size := rfl
    rw [e, World.cell?_alloc_mark, World.frozen?_alloc_mark]
    refine ⟨bytesRow_at t _ i hi, ?_⟩
    have hge := grownCap_ge w t.size 0 5
    have : i < (bytesRow t (grownCap w t.size 0 5)).size := by
      unfold bytesRow
      have e2 : t.size = t.data.size := rfl
      simp
      omega
    simp
    omega
  · exact on_alloc (drew_below (n := 1) rfl) _
theorem drop_at {l : List UInt8} {k : Nat} (h : k < l.length) : ∃ c, l[k]? = some c ∧ l.drop k = c :: l.drop (k + 1) := ⟨l[k], List.getElem?_eq_getElem h, List.drop_eq_getElem_cons h⟩
end Go.Proofs.YtebjedbppiphgaaGreatDoor.Txt
namespace Go.Proofs.YtebjedbppiphgaaGreatDoor.Txt
open Go.RowKit Kit Reg
theorem own_lit (w : World) (o : Value) (B : Nat) (hB : B ≤ w.heap.size) (ho : o = .slice (some ⟨w.heap.size, 0, none⟩) 0 0) : OwnB B o [] (w.alloc (.cells #[] 5)) := by
  subst ho
  exact World.ownsRow_lit w #[] 0 hB (by decide) rfl
theorem one_cell (x : Value) (h : x.oneCell' = true) : ∀ u ∈ [x], u.oneCell' = true := fun u hu => by
  simp only [List.mem_singleton] at hu
  subst hu
  exact h
/-- what strings.TrimSuffix has to answer at one blank -/
def CutsBlank : Prop := ∀ (s : ByteArray) (w : World), s.size ≤ 1000000 → Calls Tryz.prog 217 #[.string s, .string ⟨#[32]⟩] w fun e w' => e = .returned (.string ⟨(Lib.trimSuffix s.data.toList [32]).toArray⟩) ∧ w = w'
set_option maxRecDepth 100000 in
set_option maxHeartbeats 4000000 in
theorem trim_c (HTS : CutsBlank) (t : ByteArray) (l : List UInt8) (hs : t.data.toList = l) (h9 : t.size ≤ 1000000) (w : World) :
    Calls Tryz.prog 106 #[.string t] w fun e w' => e = .returned (.string ⟨(trimL l).toArray⟩) ∧ Below w.heap.size w w' := by
  obtain ⟨i0, hi, hz0, hz1, hz2⟩ := info_parts infoB
  obtain ⟨w0, hw0⟩ : ∃ w0, w0 = w.alloc (.cells #[] 5) := ⟨_, rfl⟩
  have hs0 : w0.heap.size = w.heap.size + 1 := by rw [hw0]; simp
  obtain ⟨cap, w1, hcv, hcap, hcells, hb1⟩ := bytes_of t w0
  have h1 : OwnB w.heap.size (.slice (some ⟨w.heap.size, 0, none⟩) 0 0) [] w0 := by rw [hw0]; exact own_lit w _ _ (Nat.le_refl _) rfl
  rw [hs, hs0] at hcells
  rw [hs0] at hcv
  have hb0 : Below w.heap.size w w0 := by rw [hw0]; exact below1 _ _
  have hb2 := Lib.hid (on hb0 hb1)
  have H1 := Lib.hid (h1.on hb1)
  have HC := Lib.hid hcells
  rw [hw0] at hcv
  have hl : l.length = t.size := by rw [← hs, len]
  have hlt : w.heap.size + 1 < w1.heap.size := hcells.1
  have HTS := Lib.hid HTS
  have HE := Lib.hid (trim_eq l 32)
  have HPL := Lib.hid (trP_len l 32)
  clear hcells hs hb1 hb0 h1
  have H32 : Hid (((32 : UInt8).toNat : Int) = 32) := Lib.hid rfl
  go_enter Tryz.func106, Tryz.ntmps106
  go_wp2
  go_loopw [3, 4, 11] (fun v av i wr => ∃ (k : Nat) (x : UInt8) (y : Int) (acc : List UInt8), k ≤ t.size ∧ i = .int .i64 k ∧ av = .int .u8 y ∧ Hid ((x.toNat : Int) = y) ∧ OwnB w.heap.size v acc wr ∧ Hid (some (w.heap.size + 1) ≠ v.ownBlock) ∧
    Hid (CellsAt wr (w.heap.size + 1) (Lib.byteCells l)) ∧ Hid (acc ++ trP x (l.drop k) = trP 32 l) ∧ Below w.heap.size w wr) (fun _ _ i _ => t.size - (intOf i).toNat)
  case atStart => exact ⟨0, 32, 32, [], Nat.zero_le _, rfl, rfl, H32, H1.out, Lib.hid (by simp [Value.ownBlock]), HC, Lib.hid rfl, hb2.out⟩
  case round =>
    clear H1 HC hcv hb2 H32 hw0 hs0
    obtain ⟨k, x, y, acc, hk, rfl, rfl, hx, hrow, hne, hc, hw, hb⟩ := hrel
    have hbs := hb.size
    have hal : acc.length ≤ 1000000 := by
      have h1 := HPL.out
      rw [← hw.out, List.length_append] at h1
      omega
    by_cases hlt2 : k < t.size
    · obtain ⟨c, hc1, hc2⟩ := drop_at (l := l) (k := k) (by omega)
      obtain ⟨p1, p2⟩ := hc.out.2 k _ (byteCells_at _ _ _ hc1)
      have p3 := hc.out.1
      by_cases hcc : (c.toNat : Int) = 32
      · have hc32 : c = 32 := UInt8.toNat_inj.1 (by have : (32 : UInt8).toNat = 32 := rfl
                                                    omega)
        by_cases hy : y = 32
        · have hx32 : x = 32 := UInt8.toNat_inj.1 (by have : (32 : UInt8).toNat = 32 := rfl
                                                      have := hx.out
                                                      omega)
          have HN : Hid (acc ++ trP c (l.drop (k + 1)) = trP 32 l) := Lib.hid (by rw [← hw.out, hc2, trP_cons, if_pos ⟨hc32, hx32⟩]; rfl)
          have HX := Lib.hid (show (c.toNat : Int) = 32 from hcc)
          have q1 : ((c.toNat : Int) == 32) = true := by simpa using hcc
          have q2 : ((c.toNat : Int) != 32) = false := by simp [bne, q1]
          subst hy
          clear hcc hc32 hx32 hx hw hc1 hc2
          go_wp2
          go_roundw
          case rel => exact ⟨k + 1, c, _, acc, by omega, by go_num, rfl, by first | exact HX | exact Lib.hid rfl, hrow, hne, hc, HN, hb⟩
          case measure => simp [intOf]; omega
        · have hx32 : x ≠ 32 := fun e => hy (by rw [← hx.out, e]; rfl)
          have HN : Hid ((acc ++ [c]) ++ trP c (l.drop (k + 1)) = trP 32 l) := Lib.hid (by rw [← hw.out, hc2, trP_cons, if_neg (fun e => hx32 e.2)]; simp)
          have HX : Hid ((c.toNat : Int) = c.toNat) := Lib.hid rfl
          have q1 : ((c.toNat : Int) == 32) = true := by simpa using hcc
          have q2 : ((c.toNat : Int) != 32) = false := by simp [bne, q1]
          have q3 : (y == 32) = false := by simpa using hy
          have q4 : (y != 32) = true := by simp [bne, q3]
          clear hcc hc32 hx32 hx hw hc1 hc2
          go_wp2_with (at_builtin; refine wpList_append_own_at _ rfl _ _ 50 rfl w.heap.size 5 i0 (.int .u8 0) 1 1 Tryz.underlying50 hi hz0 hz1 hz2 rfl (by decide) _ _ _ rfl (hrow.alloc _) ⟨_, 0, none⟩ 1 1 [.int .u8 (c.toNat : Int)] rfl rfl (cell_one_new _ _ _) (one_cell _ rfl) (by unfold maxLen; omega) (by omega) (by simp; omega) ?_)
          intro v1 w2 hown1 hg1 _ hloc1
          have hb3 := OwnB.below hrow hb (Nat.le_refl _) hg1
          have hrow1 := OwnB.snoc c _ rfl hown1
          have hc3 := Lib.hid (cells_grown (hc.out.on_alloc _) hg1 hne.out)
          have hne1 : Hid (some (w.heap.size + 1) ≠ v1.ownBlock) := Lib.hid (by
            rcases hloc1 with h | h
            · rw [h]; exact hne.out
            · rw [h]; simp; omega)
          clear hown1 hg1 hrow hb hc hne hloc1
          go_wp2
          go_roundw
          case rel => exact ⟨k + 1, c, _, acc ++ [c], by omega, by go_num, rfl, by first | exact HX | exact Lib.hid rfl, hrow1, hne1, hc3, HN, hb3⟩
          case measure => simp [intOf]; omega
      · have hc32 : c ≠ 32 := fun e => hcc (by rw [e]; rfl)
        have HN : Hid ((acc ++ [c]) ++ trP c (l.drop (k + 1)) = trP 32 l) := Lib.hid (by rw [← hw.out, hc2, trP_cons, if_neg (fun e => hc32 e.1)]; simp)
        have HX : Hid ((c.toNat : Int) = c.toNat) := Lib.hid rfl
        have q1 : ((c.toNat : Int) == 32) = false := by simpa using hcc
        have q2 : ((c.toNat : Int) != 32) = true := by simp [bne, q1]
        clear hcc hc32 hx hw hc1 hc2
        go_wp2_with (at_builtin; refine wpList_append_own_at _ rfl _ _ 50 rfl w.heap.size 5 i0 (.int .u8 0) 1 1 Tryz.underlying50 hi hz0 hz1 hz2 rfl (by decide) _ _ _ rfl (hrow.alloc _) ⟨_, 0, none⟩ 1 1 [.int .u8 (c.toNat : Int)] rfl rfl (cell_one_new _ _ _) (one_cell _ rfl) (by unfold maxLen; omega) (by omega) (by simp; omega) ?_)
        intro v1 w2 hown1 hg1 _ hloc1
        have hb3 := OwnB.below hrow hb (Nat.le_refl _) hg1
        have hrow1 := OwnB.snoc c _ rfl hown1
        have hc3 := Lib.hid (cells_grown (hc.out.on_alloc _) hg1 hne.out)
        have hne1 : Hid (some (w.heap.size + 1) ≠ v1.ownBlock) := Lib.hid (by
          rcases hloc1 with h | h
          · rw [h]; exact hne.out
          · rw [h]; simp; omega)
        clear hown1 hg1 hrow hb hc hne hloc1
        go_wp2
        go_roundw
        case rel => exact ⟨k + 1, c, _, acc ++ [c], by omega, by go_num, rfl, by first | exact HX | exact Lib.hid rfl, hrow1, hne1, hc3, HN, hb3⟩
        case measure => simp [intOf]; omega
    · obtain rfl : k = t.size := by omega
      rw [← hl, List.drop_length] at hw
      have hx2 : acc = trP 32 l := by rw [← hw.out]; exact (List.append_nil _).symm
      subst hx2
      have hconv := hrow.conv
      have HT := Lib.hid (HTS.out ⟨(trP 32 l).toArray⟩)
      have hsz : (⟨(trP 32 l).toArray⟩ : ByteArray).size ≤ 1000000 := by rw [ByteArray.size, List.size_toArray]; exact hal
      have HTE : Hid (Lib.trimSuffix ((⟨(trP 32 l).toArray⟩ : ByteArray).data.toList) [32] = trimL l) := Lib.hid HE.out
      clear hw hrow hc hne HPL
      generalize (⟨(trP 32 l).toArray⟩ : ByteArray) = z at *
      go_wp2_with fail
      refine (HT.out _ hsz).mono ?_
      rintro e w3 ⟨rfl, rfl⟩
      rw [HTE.out]
      go_wp2
      go_ret
      exact ⟨rfl, hb⟩
end Go.Proofs.YtebjedbppiphgaaGreatDoor.Txt
