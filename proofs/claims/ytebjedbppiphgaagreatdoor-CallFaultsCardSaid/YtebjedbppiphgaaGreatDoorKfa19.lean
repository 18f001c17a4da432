/- Lists of numbers, in order: what is sorted, which number has which place, how often each is there. Lists alone: no function of the program is named here.
   What operators and functions of values answer, in plain words: how values are taken, what each function makes of them. No function of the program is named here.
   Rows of one's own: behind calls, behind appends; and 'append' of what came in, nil too. No function of the program is named here.
   Rows of bytes of one's own, and such a row as a text. No function of the program is named here. -/
import Derived.Test.YtebjedbppiphgaaGreatDoorKfa03
import Derived.Maps.Views
import Derived.Test.YtebjedbppiphgaaGreatDoorKfa13
import Derived.Test.YtebjedbppiphgaaGreatDoorKfa14
import Derived.Test.YtebjedbppiphgaaGreatDoorKfa07
import Derived.Test.YtebjedbppiphgaaGreatDoorKfa16
import Derived.Test.YtebjedbppiphgaaGreatDoorKfa18
import Derived.Laws.OwnMore
import Derived.Maps.AppendAt
import Derived.Deep.Onto
import Derived.Laws.AppendOwnNone
import Derived.Lib.UnsafeStr
import Derived.Laws.IdiomStrings
namespace Go.Proofs.YtebjedbppiphgaaGreatDoor.Odr
open Dec
/-- what is sorted -/
def srt (l : List Int) : List Int := l.mergeSort fun x y => decide (x ≤ y)
theorem srt_perm (l : List Int) : (srt l).Perm l := List.mergeSort_perm _ _
theorem srt_len (l : List Int) : (srt l).length = l.length := List.length_mergeSort _
theorem srt_up (l : List Int) : (srt l).Pairwise (· ≤ ·) := by
  have h := List.pairwise_mergeSort (le := fun x y : Int => decide (x ≤ y)) (fun a b c h1 h2 => by simp at *; omega) (fun a b => by simp; omega) l
  exact h.imp fun h => by simpa using h
theorem srt_one {l s : List Int} (hp : s.Perm l) (hs : s.Pairwise (· ≤ ·)) : srt l = s :=
  List.Perm.eq_of_pairwise (le := (· ≤ ·)) (fun _ _ _ _ h1 h2 => Int.le_antisymm h1 h2) (srt_up l) hs ((srt_perm l).trans hp.symm)
theorem srt_nil : srt [] = [] := by simp [srt]
theorem srt_mem {l : List Int} {x : Int} : x ∈ srt l ↔ x ∈ l := (srt_perm l).mem_iff
/-- the number at a place, counted from 1 on, from either end -/
def placeB (l : List Int) (k : Int) : Bool := decide (1 ≤ k) && decide (k ≤ (l.length : Int))
def smallD (l : List Int) (k : Int) : Int × Bool := if placeB l k = true then ((srt l).getD (k - 1).toNat 0, true) else (0, false)
def largeD (l : List Int) (k : Int) : Int × Bool := if placeB l k = true then ((srt l).getD ((l.length : Int) - k).toNat 0, true) else (0, false)
theorem placeB_yes {l : List Int} {k : Int} (h1 : 1 ≤ k) (h2 : k ≤ (l.length : Int)) : placeB l k = true := by simp [placeB, h1, h2]
theorem placeB_no {l : List Int} {k : Int} (h : k < 1 ∨ (l.length : Int) < k) : placeB l k = false := by simp [placeB]; omega
theorem smallD_no {l : List Int} {k : Int} (h : k < 1 ∨ (l.length : Int) < k) : smallD l k = (0, false) := by rw [smallD, placeB_no h]; rfl
theorem largeD_no {l : List Int} {k : Int} (h : k < 1 ∨ (l.length : Int) < k) : largeD l k = (0, false) := by rw [largeD, placeB_no h]; rfl
theorem smallD_yes {l : List Int} {j : Nat} {x : Int} (h : (srt l)[j]? = some x) : smallD l ((j : Int) + 1) = (x, true) := by
  have hl := (List.getElem?_eq_some_iff.1 h).1
  rw [srt_len] at hl
  rw [smallD, placeB_yes (by omega) (by omega), if_pos rfl, show ((j : Int) + 1 - 1).toNat = j by omega, List.getD, h]
  rfl
theorem largeD_yes {l : List Int} {j : Nat} {x : Int} (h : (srt l)[j]? = some x) : largeD l ((l.length : Int) - (j : Int)) = (x, true) := by
  have hl := (List.getElem?_eq_some_iff.1 h).1
  rw [srt_len] at hl
  rw [largeD, placeB_yes (by omega) (by omega), if_pos rfl, show ((l.length : Int) - ((l.length : Int) - (j : Int))).toNat = j by omega, List.getD, h]
  rfl
/-- the middle -/
def medD (l : List Int) : Int × Bool :=
  if l.length = 0 then (0, false)
  else if l.length % 2 = 1 then ((srt l).getD (l.length / 2) 0, true)
  else if (addD ((srt l).getD (l.length / 2 - 1) 0) ((srt l).getD (l.length / 2) 0)).2 = true then scaledD (addD ((srt l).getD (l.length / 2 - 1) 0) ((srt l).getD (l.length / 2) 0)).1 1 2 else (0, false)
theorem medD_nil {l : List Int} (h : l.length = 0) : medD l = (0, false) := by rw [medD, if_pos h]
theorem medD_odd {l : List Int} {x : Int} (h : l.length % 2 = 1) (hx : (srt l)[l.length / 2]? = some x) : medD l = (x, true) := by
  rw [medD, if_neg (by omega), if_pos h, List.getD, hx]
  rfl
theorem medD_none {l : List Int} {x y s : Int} (h0 : ¬ l.length = 0) (h : l.length % 2 = 0) (hx : (srt l)[l.length / 2 - 1]? = some x) (hy : (srt l)[l.length / 2]? = some y) (hs : addD x y = (s, false)) : medD l = (0, false) := by
  rw [medD, if_neg h0, if_neg (by omega), List.getD, List.getD, hx, hy, Option.getD_some, Option.getD_some, hs]
  rfl
theorem medD_even {l : List Int} {x y s : Int} (h0 : ¬ l.length = 0) (h : l.length % 2 = 0) (hx : (srt l)[l.length / 2 - 1]? = some x) (hy : (srt l)[l.length / 2]? = some y) (hs : addD x y = (s, true)) : medD l = scaledD s 1 2 := by
  rw [medD, if_neg h0, if_neg (by omega), List.getD, List.getD, hx, hy, Option.getD_some, Option.getD_some, hs, if_pos rfl]
theorem take_one {α : Type} {l : List α} {i : Nat} {x : α} (h : l[i]? = some x) : l.take (i + 1) = l.take i ++ [x] := by rw [List.take_add_one, h]; rfl
theorem cnt_hit {x y : Int} {l : List Int} {i : Nat} (h : l[i]? = some y) (hy : y = x) : (l.take (i + 1)).count x = (l.take i).count x + 1 := by rw [take_one h, List.count_append, hy]; simp
theorem cnt_miss {x y : Int} {l : List Int} {i : Nat} (h : l[i]? = some y) (hy : ¬ y = x) : (l.take (i + 1)).count x = (l.take i).count x := by rw [take_one h, List.count_append]; simp [hy]
/-- the number that is there most often, of several the first one; and how often (1: none is there twice) -/
def modeN (l : List Int) (st : Int × Nat) (x : Int) : Int × Nat := if st.2 < l.count x then (x, l.count x) else st
def modeAt (l : List Int) (k : Nat) : Int × Nat := (l.take k).foldl (modeN l) (0, 1)
def modeD (l : List Int) : Int × Bool := ((modeAt l l.length).1, decide (1 < (modeAt l l.length).2))
theorem modeAt_step {l : List Int} {k : Nat} {x : Int} (h : l[k]? = some x) : modeAt l (k + 1) = modeN l (modeAt l k) x := by rw [modeAt, take_one h, List.foldl_append]; rfl
theorem modeAt_hit {l : List Int} {k : Nat} {x m : Int} {b : Nat} (h : l[k]? = some x) (e : modeAt l k = (m, b)) (hc : b < l.count x) : modeAt l (k + 1) = (x, l.count x) := by rw [modeAt_step h, e, modeN, if_pos hc]
theorem modeAt_miss {l : List Int} {k : Nat} {x m : Int} {b : Nat} (h : l[k]? = some x) (e : modeAt l k = (m, b)) (hc : ¬ b < l.count x) : modeAt l (k + 1) = (m, b) := by rw [modeAt_step h, e, modeN, if_neg hc]
structure ModeIs (l : List Int) (k : Nat) (m : Int) (b : Nat) : Prop where
  one : 1 ≤ b
  all : ∀ i x, i < k → l[i]? = some x → l.count x ≤ b
  is : (b = 1 ∧ m = 0) ∨ (1 < b ∧ l.count m = b)
/-- a map that reads as how often each number is there -/
def IsCnt {H : Type} (D : DataW H) (p : List Int) : Prop := Go.Maps.IsMap D ∧ ∀ x, D.atKey (.int .i64 x) (.lit (.int .i64 0)) = .lit (.int .i64 (p.count x : Nat))
theorem IsCnt.start {H : Type} : IsCnt (H := H) (.map []) [] := ⟨Go.Maps.isMap_empty, fun _ => rfl⟩
theorem IsCnt.step {H : Type} {D : DataW H} {p : List Int} (h : IsCnt D p) (x : Int) : IsCnt (D.put (.int .i64 x) (.lit (.int .i64 ((p.count x : Nat) + 1)))) (p ++ [x]) := by
  refine ⟨h.1.put _ _, fun y => ?_⟩
  by_cases e : y = x
  · subst e
    rw [Go.Maps.atKey_put_same (k := .int .i64 y) h.1 trivial, List.count_append]
    simp
  · rw [Go.Maps.atKey_put_other (by intro he; exact e (by injection he)), h.2 y, List.count_append]
    congr 3
    have : ¬ x = y := fun he => e he.symm
    simp [this]
end Go.Proofs.YtebjedbppiphgaaGreatDoor.Odr
namespace Go.Proofs.YtebjedbppiphgaaGreatDoor.Cal
open Dec Dig Val Fld
/-- values: a number, a fault, a truth, a text; what comes of a number that is there or not; of a text; of a whole number -/
def nV (x : Int) : Vl := ⟨1, x, ⟨#[]⟩⟩
def fV (c : Int) : Vl := ⟨4, c, ⟨#[]⟩⟩
def bV (b : Bool) : Vl := ⟨3, if b then 1 else 0, ⟨#[]⟩⟩
def sV (l : List UInt8) : Vl := ⟨2, 0, ⟨l.toArray⟩⟩
def gV (p : Int × Bool) : Vl := ⟨(gotV p.1 p.2).1, (gotV p.1 p.2).2, ⟨#[]⟩⟩
def tV (p : List UInt8 × Bool) : Vl := if p.2 = true then sV p.1 else fV 2
def cV (n : Int) : Vl := nV (n * 10000)

/-- a value that may be, and holds in 64 bits -/
def Ok (v : Vl) : Prop := v.may ∧ v.fits
theorem fV_ok {c : Int} (h1 : 1 ≤ c) (h2 : c ≤ 7) : Ok (fV c) := by
  refine ⟨?_, by show -9223372036854775808 ≤ c; omega, by show c ≤ _; omega⟩
  show mayV 4 c ⟨#[]⟩ = true
  have e : (⟨#[]⟩ : ByteArray).size = 0 := rfl
  simp [mayV, h1, h2, e]
theorem gV_in {x : Int} (h : mayD x = true) : gV (x, true) = nV x := by
  unfold gV gotV numV
  simp [h, nV]
theorem gV_out {x : Int} : gV (x, false) = fV 4 := by
  unfold gV gotV
  simp [fV]
/-- taken as a number, as a text, as a truth -/
def numT (v : Vl) : Vl := if v.k = 0 then nV 0 else if v.k = 1 then nV v.n else if v.k = 2 then (if (readD v.t.data.toList).2 = true then nV (readD v.t.data.toList).1 else fV 2) else if v.k = 3 then nV (v.n * 10000) else fV v.n
def txtT (v : Vl) : Vl := if v.k = 4 then fV v.n else sV (wordsF v)
def truT (v : Vl) : Vl := ⟨(truthF v).1, (truthF v).2, ⟨#[]⟩⟩
theorem num_ways {v : Vl} (hv : Ok v) : (∃ x, numT v = nV x ∧ -9223372036854775807 ≤ x ∧ x ≤ 9223372036854775807) ∨ ∃ c, numT v = fV c ∧ 1 ≤ c ∧ c ≤ 7 := by
  obtain ⟨hm, hf1, hf2⟩ := hv
  rcases may_ways hm with rfl | ⟨n, rfl, h⟩ | ⟨t, rfl, h⟩ | rfl | rfl | ⟨n, rfl, h1, h2⟩
  · exact .inl ⟨0, rfl, by decide, by decide⟩
  · exact .inl ⟨n, rfl, h, hf2⟩
  · obtain ⟨x, b, e⟩ : ∃ x b, readD t.data.toList = (x, b) := ⟨_, _, rfl⟩
    have hr := readD_room e
    cases b
    · exact .inr ⟨2, by show (if (readD t.data.toList).2 = true then _ else _) = _; rw [e]; rfl, by decide, by decide⟩
    · exact .inl ⟨x, by show (if (readD t.data.toList).2 = true then _ else _) = _; rw [e]; rfl, hr.1.1, hr.1.2⟩
  · exact .inl ⟨0, rfl, by decide, by decide⟩
  · exact .inl ⟨10000, rfl, by decide, by decide⟩
  · exact .inr ⟨n, rfl, h1, h2⟩
theorem txt_ways {v : Vl} (hv : Ok v) : (∃ l, txtT v = sV l ∧ l.length ≤ 256 ∧ l = wordsF v ∧ ¬ v.k = 4) ∨ ∃ c, txtT v = fV c ∧ 1 ≤ c ∧ c ≤ 7 := by
  by_cases h : v.k = 4
  · obtain ⟨hm, _⟩ := hv
    have e : txtT v = fV v.n := if_pos h
    rcases may_ways hm with rfl | ⟨n, rfl, _⟩ | ⟨t, rfl, _⟩ | rfl | rfl | ⟨n, rfl, h1, h2⟩
    · simp at h
    · simp at h
    · simp at h
    · simp at h
    · simp at h
    · exact .inr ⟨n, e, h1, h2⟩
  · exact .inl ⟨wordsF v, if_neg h, words_len hv.1 hv.2, rfl, h⟩
theorem tru_ways {v : Vl} (hv : Ok v) : (∃ b, truT v = bV b) ∨ ∃ c, truT v = fV c ∧ 1 ≤ c ∧ c ≤ 7 := by
  obtain ⟨hm, _⟩ := hv
  unfold truT truthF
  rcases may_ways hm with rfl | ⟨n, rfl, h⟩ | ⟨t, rfl, h⟩ | rfl | rfl | ⟨n, rfl, h1, h2⟩
  · exact .inl ⟨false, rfl⟩
  · by_cases h0 : n = 0
    · exact .inl ⟨false, by simp [h0, bV]⟩
    · exact .inl ⟨true, by simp [h0, bV]⟩
  · by_cases h1 : t = yesT
    · exact .inl ⟨true, by simp [h1, bV]⟩
    · by_cases h2 : t = noT
      · exact .inl ⟨false, by subst h2; rw [show (if (2 : Int) = 0 then ((3 : Int), (0 : Int)) else if (2 : Int) = 1 then (3, if (0 : Int) = 0 then 0 else 1) else if (2 : Int) = 2 then (if noT = yesT then (3, 1) else if noT = noT then (3, 0) else (4, 2)) else (2, 0)) = (3, 0) from by rw [if_neg (by decide), if_neg (by decide), if_pos rfl, if_neg h1, if_pos rfl]]; rfl⟩
      · exact .inr ⟨2, by simp [h1, h2, fV], by decide, by decide⟩
  · exact .inl ⟨false, rfl⟩
  · exact .inl ⟨true, rfl⟩
  · exact .inr ⟨n, rfl, h1, h2⟩

/-- taken as the letter says -/
def takeV (k : Nat) (v : Vl) : Vl := if k = 110 then numT v else if k = 115 then txtT v else if k = 98 then truT v else v
/-- the whole number of a number -/
def unI (x : Int) : Int := x.tdiv 10000
theorem un_room {x : Int} (h1 : -9223372036854775808 ≤ x) (h2 : x ≤ 9223372036854775807) : -922337203685479 ≤ unI x - 1 ∧ unI x + 1 ≤ 922337203685479 := by
  unfold unI
  have h3 := Int.mul_tdiv_add_tmod x 10000
  have h4 := Int.tmod_lt_of_pos x (show (0 : Int) < 10000 by decide)
  have h5 : -10000 < x.tmod 10000 := by
    rcases Int.le_total 0 x with h | h
    · have := Int.tmod_nonneg 10000 h; omega
    · have := Int.tmod_lt_of_pos (-x) (show (0 : Int) < 10000 by decide)
      rw [Int.neg_tmod] at this
      omega
  omega
/-- the greatest number whose square is not above another one -/
noncomputable def rootN (N : Nat) : Nat := Classical.choose (Pow.root_some N)
theorem rootN_is (N : Nat) : Pow.RootOf (rootN N) N := Classical.choose_spec (Pow.root_some N)
def absI (x : Int) : Int := (x.natAbs : Int)
def sgnI (x : Int) : Int := if x < 0 then -1 else if 0 < x then 1 else 0
/-- where a text is found in another one -/
noncomputable def findO (n l : List UInt8) : Option Nat := open Classical in if h : ∃ r, Run.FindIs n l r then Classical.choose h else none
theorem find_one {n l : List UInt8} {r : Option Nat} (h : Run.FindIs n l r) : findO n l = r := by
  have he : ∃ r, Run.FindIs n l r := ⟨r, h⟩
  unfold findO
  rw [dif_pos he]
  exact Run.FindIs.unique (Classical.choose_spec he) h
theorem find_lt {n l : List UInt8} {k : Nat} (h : findO n l = some k) : k ≤ (Run.ps l).length := by
  unfold findO at h
  split at h
  · rename_i he
    have h1 := Classical.choose_spec he
    rw [h] at h1
    rcases h1 with ⟨_, rfl⟩ | ⟨_, h2, _⟩
    · exact Nat.zero_le _
    · exact Nat.le_of_lt h2
  · cases h
noncomputable def findV (n l : List UInt8) : Vl := match findO n l with
  | some k => cV ((k : Int) + 1)
  | none => fV 2
theorem findV_some {n l : List UInt8} {k : Nat} (h : findO n l = some k) : findV n l = cV ((k : Int) + 1) := by unfold findV; rw [h]
theorem findV_none {n l : List UInt8} (h : findO n l = none) : findV n l = fV 2 := by unfold findV; rw [h]
theorem val_room (l : List UInt8) : Run.valL l ≤ 2097151 := by
  unfold Run.valL Run.valN
  repeat' split
  all_goals omega
/-- operators of two numbers -/
def opV (op : Int) (x y : Int) : Vl :=
  if op = 1 then gV (addD x y) else if op = 2 then gV (subD x y) else if op = 3 then gV (scaledD x y 10000) else if op = 4 then (if y = 0 then fV 1 else gV (scaledD x 10000 y)) else gV (Pow.powerD x y)
end Go.Proofs.YtebjedbppiphgaaGreatDoor.Cal
namespace Go.Proofs.YtebjedbppiphgaaGreatDoor.Kit
open Go.RowKit Reg
theorem below_none {A B : World} (hb : Below A.heap.size A B) : A.grownBy B none := ⟨hb.os, hb.tape, hb.output, hb.size, fun k hk _ => hb.block k hk⟩
theorem own_on {w w' : World} {B : Nat} {e : TypeId} {size : Nat} {v : Value} {n : Nat} {xs : List Value} (h : w.ownsRow B e size v n xs) (hb : Below w.heap.size w w') : w'.ownsRow B e size v n xs := World.ownsRow.kept h (below_none hb) (by
  rcases h.2 with ⟨rfl, _⟩ | ⟨g, cap, cur, rfl, _⟩
  · exact .inl rfl
  · exact .inr (by simp [Value.ownBlock]))
/-- cells stay where another block turns -/
theorem cells_grown {A B : World} {b : Nat} {cs : List Value} {row : Option Nat} (h : CellsAt A b cs) (hg : A.grownBy B row) (hne : some b ≠ row) : CellsAt B b cs := by
  have hb := hg.block b h.1 hne
  exact ⟨Nat.lt_of_lt_of_le h.1 hg.size, fun i v hi => ⟨(World.cell?_of_block (a := ⟨b, i, none⟩) hb).trans (h.2 i v hi).1, (World.frozen?_of_block (a := ⟨b, i, none⟩) hb).trans (h.2 i v hi).2⟩⟩
/-- where a row's own block is -/
theorem own_far {w : World} {B : Nat} {e : TypeId} {size : Nat} {v : Value} {n : Nat} {xs : List Value} (h : w.ownsRow B e size v n xs) {b : Nat} (hb : b < B) : some b ≠ v.ownBlock := fun e => by
  have := (World.ownsRow.lt h b e.symm).1
  omega
end Go.Proofs.YtebjedbppiphgaaGreatDoor.Kit
namespace Go.Proofs.YtebjedbppiphgaaGreatDoor.Kit
open Go.RowKit Reg
theorem infoB : (Tryz.prog.info? 5).map (fun i => (i.zero, i.size, i.bytes)) = some (some (.int .u8 0), 1, 1) := by kernel_rfl
/-- a row of bytes of one's own, in a block at B or above -/
def OwnB (B : Nat) (v : Value) (l : List UInt8) (w : World) : Prop := w.ownsRow B 5 1 v l.length (Lib.byteCells l)
theorem OwnB.lit {B : Nat} {w : World} (hB : B ≤ w.heap.size) (b : UInt8) (x : Int) (hx : x = (b.toNat : Int)) : OwnB B (.slice (some ⟨w.heap.size, 0, none⟩) 1 1) [b] (w.alloc (.cells #[.int .u8 x] 5)) := by
  subst hx
  exact World.ownsRow_lit w #[.int .u8 (b.toNat : Int)] 1 hB (by decide) rfl
theorem OwnB.snoc {B : Nat} {w : World} {v : Value} {l : List UInt8} (b : UInt8) (x : Int) (hx : x = (b.toNat : Int)) (h : w.ownsRow B 5 1 v (l.length + 1) (Lib.byteCells l ++ [.int .u8 x])) : OwnB B v (l ++ [b]) w := by
  subst hx
  unfold OwnB
  rw [Lib.byteCells_append, List.length_append]
  exact h
theorem OwnB.on {B : Nat} {w w' : World} {v : Value} {l : List UInt8} (h : OwnB B v l w) (hb : Below w.heap.size w w') : OwnB B v l w' := own_on h hb
set_option maxRecDepth 100000 in
/-- such a row as a text -/
theorem OwnB.conv {B : Nat} {w : World} {v : Value} {l : List UInt8} (h : OwnB B v l w) : (convert 50 9 v).run Tryz.prog w = .ok (.string ⟨l.toArray⟩) w := by
  rcases h.2 with ⟨rfl, h0⟩ | ⟨g, cap, cur, rfl, _⟩
  · obtain rfl : l = [] := List.eq_nil_of_length_eq_zero h0
    rw [run_convert_bytes_string w _ _ _ _ 0 0 Tryz.underlying50 Tryz.underlying5 Tryz.underlying9]
    rfl
  · refine run_convert_bytes_back w _ _ _ ⟨g, 0, none⟩ cap l Tryz.underlying50 Tryz.underlying5 Tryz.underlying9 (fun j hj => ?_)
    exact World.ownsRow.cells h rfl j _ (by simp [Lib.byteCells, hj])
/-- what stays behind an append to such a row -/
theorem OwnB.below {B : Nat} {w0 w w' : World} {v : Value} {n : Nat} {xs : List Value} {o : Obj} (h : w.ownsRow B 5 1 v n xs) (hb : Below w0.heap.size w0 w) (hB : w0.heap.size ≤ B) (hg : (w.alloc o).grownBy w' v.ownBlock) : Below w0.heap.size w0 w' :=
  (on_alloc hb _).grown hg (by have := hb.size; simp; omega) (fun b e => Nat.le_trans hB (World.ownsRow.lt h b e).1)
end Go.Proofs.YtebjedbppiphgaaGreatDoor.Kit
