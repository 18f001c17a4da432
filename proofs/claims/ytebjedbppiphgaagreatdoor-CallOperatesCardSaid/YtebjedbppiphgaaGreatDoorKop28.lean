/- Values as truths, and what Xor answers: the program's and the reference's.
   The first fault and the numbers of a list: what the program's Numbers, the reference's Fault and Numbers answer, for every list of values that reads as one.
   Values as texts, and what Concat answers: the program's and the reference's.
   Any value that may be, taken as a number, a text, a truth: the program's and the reference's. -/
import Derived.Test.YtebjedbppiphgaaGreatDoorKop22
import Derived.Test.YtebjedbppiphgaaGreatDoorKop14
import Derived.Test.YtebjedbppiphgaaGreatDoorKop27
import Derived.Laws.OwnMore
import Derived.Test.YtebjedbppiphgaaGreatDoorKop21
import Derived.Test.YtebjedbppiphgaaGreatDoorKop19
namespace Go.Proofs.YtebjedbppiphgaaGreatDoor.Fld
open Go.RowKit Kit Reg Dec Dig Val Txt
theorem rtruth_c (v : Vl) (hm : v.may) (k n : Int) (h : truthF v = (k, n)) (w : World) : Calls Tryz.prog 89 #[.agg #[.int .i64 v.k, .int .i64 v.n, .string v.t]] w (ValIs k n ⟨#[]⟩ w) := by
  rcases may_ways hm with rfl | ⟨x, rfl, _⟩ | ⟨t, rfl, _⟩ | rfl | rfl | ⟨x, rfl, _⟩
  · obtain ⟨rfl, rfl⟩ := Prod.mk.inj h
    exact rastruth_e w
  · by_cases h0 : x = 0
    · subst h0
      obtain ⟨rfl, rfl⟩ := Prod.mk.inj h
      exact rastruth_n0 w
    · obtain ⟨rfl, rfl⟩ := Prod.mk.inj (show ((3 : Int), (1 : Int)) = (k, n) by rw [← h]; simp [truthF, h0])
      exact rastruth_n1 x h0 w
  · by_cases h1 : t = yesT
    · subst h1
      obtain ⟨rfl, rfl⟩ := Prod.mk.inj (show ((3 : Int), (1 : Int)) = (k, n) by rw [← h]; simp [truthF])
      exact rastruth_tyes w
    · by_cases h2 : t = noT
      · subst h2
        obtain ⟨rfl, rfl⟩ := Prod.mk.inj (show ((3 : Int), (0 : Int)) = (k, n) from h)
        exact rastruth_tno w
      · obtain ⟨rfl, rfl⟩ := Prod.mk.inj (show ((4 : Int), (2 : Int)) = (k, n) by rw [← h]; simp [truthF, h1, h2])
        exact rastruth_telse t h1 h2 w
  · obtain ⟨rfl, rfl⟩ := Prod.mk.inj h
    exact rastruth_b 0 w
  · obtain ⟨rfl, rfl⟩ := Prod.mk.inj h
    exact rastruth_b 1 w
  · obtain ⟨rfl, rfl⟩ := Prod.mk.inj h
    exact rastruth_f x w
end Go.Proofs.YtebjedbppiphgaaGreatDoor.Fld
namespace Go.Proofs.YtebjedbppiphgaaGreatDoor.Fld
open Go.RowKit Kit Reg Dec Dig Val Txt
theorem infoI : (Tryz.prog.info? 2).map (fun i => (i.zero, i.size, i.bytes)) = some (some (.int .i64 0), 1, 8) := by kernel_rfl
theorem one_new {w : World} {g : Nat} (hg : g = w.heap.size) (x : Value) (ty : TypeId) : ∀ j u, [x][j]? = some u → (w.alloc (.cells #[x] ty)).cell? ((⟨g, 0, none⟩ : Addr).add j) = some u := by
  intro j u hj
  rw [show ((⟨g, 0, none⟩ : Addr).add j) = ⟨g, j, none⟩ by unfold Addr.add; split <;> simp_all, hg]
  exact ((CellsAt.new w [x] ty).2 j u hj).1
theorem one_cells (x : Value) (h : x.oneCell' = true) : ∀ u ∈ [x], u.oneCell' = true := fun u hu => by
  simp only [List.mem_singleton] at hu
  subst hu
  exact h
/-- what stays behind an append to a row of one's own -/
theorem own_below {B : Nat} {e : TypeId} {size : Nat} {w0 w w' : World} {v : Value} {n : Nat} {xs : List Value} {o : Obj} (h : w.ownsRow B e size v n xs) (hb : Below w0.heap.size w0 w) (hB : w0.heap.size ≤ B) (hg : (w.alloc o).grownBy w' v.ownBlock) : Below w0.heap.size w0 w' :=
  (on_alloc hb _).grown hg (by have := hb.size; simp; omega) (fun b e => Nat.le_trans hB (World.ownsRow.lt h b e).1)
theorem OwnI.snoc {B : Nat} {w : World} {v : Value} {xs : List Int} (x : Int) (h : w.ownsRow B 2 1 v (xs.length + 1) (xs.map (Value.int .i64) ++ [.int .i64 x])) : OwnI B v (xs ++ [x]) w := by
  unfold OwnI
  rw [List.map_append, List.length_append]
  exact h
/-- a list's numbers, and the empty value -/
def NumsEnd (xs : List Int) (w : World) (e : Ending) (w' : World) : Prop := ∃ A c, e = .returned (.tuple #[.slice A xs.length c, .agg #[.int .i64 0, .int .i64 0, .string ⟨#[]⟩]]) ∧ IntsR w' A xs ∧ Below w.heap.size w w'
/-- .. and where there is no memory there is none to spare -/
def NumsCap (xs : List Int) (w : World) (e : Ending) (w' : World) : Prop := ∃ A c, e = .returned (.tuple #[.slice A xs.length c, .agg #[.int .i64 0, .int .i64 0, .string ⟨#[]⟩]]) ∧ (IntsR w' A xs ∧ (A = none → c = 0)) ∧ Below w.heap.size w w'
theorem OwnI.none_ {B n c : Nat} {A : Option Addr} {xs : List Int} {w : World} (h : OwnI B (.slice A n c) xs w) (hA : A = none) : c = 0 := by
  rcases h.2 with ⟨h1, _⟩ | ⟨g, cap, cur, h1, _⟩
  · simp only [Value.slice.injEq] at h1
    exact h1.2.2
  · subst hA
    simp only [Value.slice.injEq] at h1
    cases h1.1
set_option maxRecDepth 100000 in
set_option maxHeartbeats 2000000 in
theorem numbers_cap (A : Option Addr) (n cap : Nat) (L : List Vl) (hf : NoF L) (w : World) (hz : ValsR w A n L) :
    Calls Tryz.prog 128 #[.slice A n cap] w (NumsCap (numsF L) w) := by
  obtain ⟨i0, hi, hz0, hz1, hz2⟩ := info_parts infoI
  have HZ := Lib.hid hz
  have HF := Lib.hid hf
  have hn9 := hz.2.1
  have hb0 := below1 w (.cells #[.int .i64 0, .int .i64 0, .string ⟨#[]⟩] 23)
  have hr := CellsAt.new w [.int .i64 0, .int .i64 0, .string ⟨#[]⟩] 23
  have hrow := World.ownsRow_lit (base := w.heap.size + 1) (e := 2) (size := 1) (w.alloc (.cells #[.int .i64 0, .int .i64 0, .string ⟨#[]⟩] 23)) #[] 0 (by simp) (by simp [maxLen]) rfl
  rw [show (w.alloc (.cells #[.int .i64 0, .int .i64 0, .string ⟨#[]⟩] 23)).heap.size = w.heap.size + 1 by simp] at hrow
  replace hb0 := on_alloc hb0 (.cells #[] 2)
  replace hr := hr.on_alloc (.cells #[] 2)
  clear hz hf
  go_enter Tryz.func128, Tryz.ntmps128
  go_wp2_with fail
  generalize (w.alloc (.cells #[.int .i64 0, .int .i64 0, .string ⟨#[]⟩] 23)).alloc (.cells #[] 2) = W at *
  go_loopw [4, 10] (fun o i wr => ∃ k : Nat, k ≤ n ∧ i = .int .i64 k ∧ OwnI (w.heap.size + 1) o (numsF (L.take k)) wr ∧ Below w.heap.size w wr ∧ CellsAt wr w.heap.size [.int .i64 0, .int .i64 0, .string ⟨#[]⟩]) (fun _ i _ => n - (intOf i).toNat)
  case atStart => exact ⟨0, Nat.zero_le _, rfl, hrow, hb0, hr⟩
  case round =>
    clear hb0 hr hrow
    obtain ⟨k, hk, rfl, hrow, hb0, hr⟩ := hrel
    have hlen : (numsF (L.take k)).length ≤ k := Nat.le_trans (numsF_len _) (by rw [List.length_take]; omega)
    by_cases hlt : k < n
    · obtain ⟨v, hv⟩ := HZ.out.get hlt
      obtain ⟨b, o, rfl, hb, c0, c1, c2⟩ := (HZ.out.on hb0).at hv
      have h4 := HF.out.at hv
      obtain ⟨vk, vn, vt⟩ := v
      dsimp only at c0 c1 c2 h4
      have q4 : (vk == 4) = false := by simpa using h4
      clear h4
      have HV := Lib.hid hv
      have hls : (wr.alloc (.cells #[.int .i64 vk, .int .i64 vn, .string vt] 23)).heap.size = wr.heap.size + 1 := by simp
      have hbx := below1 wr (.cells #[.int .i64 vk, .int .i64 vn, .string vt] 23)
      replace hb0 := on_alloc hb0 (.cells #[.int .i64 vk, .int .i64 vn, .string vt] 23)
      replace hr := hr.on_alloc (.cells #[.int .i64 vk, .int .i64 vn, .string vt] 23)
      replace hrow := hrow.on hbx
      have hx := CellsAt.new wr [.int .i64 vk, .int .i64 vn, .string vt] 23
      obtain ⟨x0, x1, x2, _⟩ := hx.three
      have hs0 := hb0.size
      clear hv hbx
      by_cases h1 : vk = 1
      · have HN : Hid (numsF (L.take (k + 1)) = numsF (L.take k) ++ [vn]) := Lib.hid (numsF_hit HV.out h1)
        subst h1
        clear HV
        generalize numsF (L.take k) = xs at *
        unfold OwnI at hrow
        go_wp2_with (at_builtin; refine wpList_append_own _ rfl _ _ 85 rfl (w.heap.size + 1) 2 i0 (.int .i64 0) 1 8 Tryz.underlying85 hi hz0 hz1 hz2 rfl (by decide) _ _ _ rfl (hrow.alloc _) ⟨_, 0, none⟩ 1 1 [.int .i64 vn] rfl rfl (one_new (by simp) _ _) (one_cells _ rfl) (by unfold maxLen; omega) (by omega) (by simp; omega) ?_)
        intro v1 w2 hown1 hg1 _
        have hb3 := own_below hrow hb0 (by omega) hg1
        have hrow1 := OwnI.snoc vn hown1
        replace hr := cells_grown (hr.on_alloc _) hg1 (own_far hrow (by omega))
        clear hown1 hg1 hrow hb0 c0 c1 c2 x0 x1 x2
        go_wp2
        go_roundw
        case rel => exact ⟨k + 1, by omega, by go_num, by rw [HN.out]; exact hrow1, hb3, hr⟩
        case measure => simp [intOf]; omega
      · have HN : Hid (numsF (L.take (k + 1)) = numsF (L.take k)) := Lib.hid (numsF_miss HV.out h1)
        have q1 : (vk == 1) = false := by simpa using h1
        clear HV
        go_wp2_with fail
        go_roundw
        case rel => exact ⟨k + 1, by omega, by go_num, by rw [HN.out]; exact hrow, hb0, hr⟩
        case measure => simp [intOf]; omega
    · obtain rfl : k = n := by omega
      rw [List.take_of_length_le (by rw [HZ.out.1]; omega)] at hrow hlen
      obtain ⟨A2, c2, rfl, hread⟩ := hrow.reads
      have hcap := hrow.none_
      obtain ⟨p0, p1, p2, f0, f1, f2⟩ := hr.three
      obtain ⟨z0, z1, z2⟩ := three_set (u := .int .i64 0) (v := .int .i64 0) (r := .string ⟨#[]⟩) p0 p1 p2
      have hb3 := set3 hb0 (Nat.le_refl _) (.int .i64 0) (.int .i64 0) (.string ⟨#[]⟩)
      have hl := hr.1
      have HR : Hid (IntsR (((wr.setCell ⟨w.heap.size, 0, none⟩ (.int .i64 0)).setCell ⟨w.heap.size, 1, none⟩ (.int .i64 0)).setCell ⟨w.heap.size, 2, none⟩ (.string ⟨#[]⟩)) A2 (numsF L)) := Lib.hid (by
        have h2 := hrow
        obtain ⟨A3, c3, e3, h3⟩ := OwnI.reads (show OwnI (w.heap.size + 1) (.slice A2 (numsF L).length c2) (numsF L) (((wr.setCell ⟨w.heap.size, 0, none⟩ (.int .i64 0)).setCell ⟨w.heap.size, 1, none⟩ (.int .i64 0)).setCell ⟨w.heap.size, 2, none⟩ (.string ⟨#[]⟩)) from
          ownsRow_setCell_below (ownsRow_setCell_below (ownsRow_setCell_below h2 (by simp) _) (by simp) _) (by simp) _)
        simp only [Value.slice.injEq] at e3
        obtain ⟨rfl, _, _⟩ := e3
        exact h3)
      clear hrow hread
      go_wp2_with fail
      exact bodyPost_ret (v := .tuple #[.slice A2 (numsF L).length c2, .agg #[.int .i64 0, .int .i64 0, .string ⟨#[]⟩]]) (by simp [results, Tryz.results128, go_sem, z0, z1, z2]) rfl ⟨A2, c2, rfl, ⟨HR.out, hcap⟩, hb3⟩
theorem numbers_no (A : Option Addr) (n cap : Nat) (L : List Vl) (hf : NoF L) (w : World) (hz : ValsR w A n L) :
    Calls Tryz.prog 128 #[.slice A n cap] w (NumsEnd (numsF L) w) :=
  (numbers_cap A n cap L hf w hz).mono fun _ _ ⟨A2, c2, he, hr, hb⟩ => ⟨A2, c2, he, hr.1, hb⟩
end Go.Proofs.YtebjedbppiphgaaGreatDoor.Fld
namespace Go.Proofs.YtebjedbppiphgaaGreatDoor.Fld
open Go.RowKit Kit Reg Dec Dig Val Txt
theorem infoT : (Tryz.prog.info? 9).map (fun i => (i.zero, i.size, i.bytes)) = some (some (.string ⟨#[]⟩), 1, 16) := by kernel_rfl
theorem OwnT.snoc {B : Nat} {w : World} {v : Value} {xs : List (List UInt8)} {x : List UInt8} {y : ByteArray} (hy : Hid (y = ⟨x.toArray⟩)) (h : w.ownsRow B 9 1 v (xs.length + 1) ((xs.map fun l => Value.string ⟨l.toArray⟩) ++ [.string y])) : OwnT B v (xs ++ [x]) w := by
  unfold OwnT
  rw [List.map_append, List.length_append]
  rw [hy.out] at h
  exact h
theorem text_is {t : ByteArray} {l : List UInt8} (h : t.data.toList = l) : t = ⟨l.toArray⟩ := Dig.bytes_eq (by simp [h])
theorem text_c (v : Vl) (hm : v.may) (hf : v.fits) (h4 : ¬ v.k = 4) (w : World) (hL : Dig.Libs w) : Calls Tryz.prog 112 #[.agg #[.int .i64 v.k, .int .i64 v.n, .string v.t]] w (ValIs 2 0 ⟨(wordsF v).toArray⟩ w) := by
  rcases may_ways hm with rfl | ⟨x, rfl, _⟩ | ⟨t, rfl, _⟩ | rfl | rfl | ⟨x, rfl, _⟩
  · exact astext_e w
  · exact (astext_n x hf.1 hf.2 w hL).mono fun e w' ⟨s, he, hs, hb⟩ => by
      obtain rfl := text_is hs
      exact ⟨he, hb⟩
  · show Calls Tryz.prog 112 #[.agg #[.int .i64 2, .int .i64 0, .string t]] w (ValIs 2 0 ⟨t.data.toList.toArray⟩ w)
    have e : (⟨t.data.toList.toArray⟩ : ByteArray) = t := (text_is rfl).symm
    rw [e]
    exact astext_t t w
  · exact astext_b0 w
  · exact astext_b1 w
  · exact absurd rfl h4
theorem text_bad (v : Vl) (hm : v.may) (h4 : v.k = 4) (w : World) : Calls Tryz.prog 112 #[.agg #[.int .i64 v.k, .int .i64 v.n, .string v.t]] w (ValIs 4 v.n ⟨#[]⟩ w) := by
  rw [may_fault hm h4]
  exact astext_f v.n w
theorem rtext_c (v : Vl) (hm : v.may) (hf : v.fits) (h4 : ¬ v.k = 4) (w : World) : Calls Tryz.prog 196 #[.agg #[.int .i64 v.k, .int .i64 v.n, .string v.t]] w fun e w' => e = .returned (.string ⟨(wordsF v).toArray⟩) ∧ Below w.heap.size w w' := by
  rcases may_ways hm with rfl | ⟨x, rfl, _⟩ | ⟨t, rfl, _⟩ | rfl | rfl | ⟨x, rfl, _⟩
  · exact rwords_e w
  · exact (rwords_n x hf.2 w).mono fun e w' ⟨s, he, hs, hb⟩ => by
      obtain rfl := text_is hs
      exact ⟨he, hb⟩
  · show Calls Tryz.prog 196 #[.agg #[.int .i64 2, .int .i64 0, .string t]] w fun e w' => e = .returned (.string ⟨t.data.toList.toArray⟩) ∧ Below w.heap.size w w'
    have e : (⟨t.data.toList.toArray⟩ : ByteArray) = t := (text_is rfl).symm
    rw [e]
    exact rwords_t t w
  · exact rwords_b0 w
  · exact rwords_b1 w
  · exact absurd rfl h4
end Go.Proofs.YtebjedbppiphgaaGreatDoor.Fld
namespace Go.Proofs.YtebjedbppiphgaaGreatDoor.Cal
open Go.RowKit Kit Reg Dec Dig Val Fld
/-- a call answers a value -/
def IsV (v : Vl) (w : World) : Ending → World → Prop := ValIs v.k v.n v.t w
theorem num_c (v : Vl) (hv : Ok v) (w : World) (hL : Dig.Libs w) : Calls Tryz.prog 19 #[.agg #[.int .i64 v.k, .int .i64 v.n, .string v.t]] w (IsV (numT v) w) := by
  rcases may_ways hv.1 with rfl | ⟨n, rfl, h⟩ | ⟨t, rfl, h⟩ | rfl | rfl | ⟨n, rfl, h1, h2⟩
  · exact asnum_e w
  · exact asnum_n n w
  · obtain ⟨x, b, e⟩ : ∃ x b, readD t.data.toList = (x, b) := ⟨_, _, rfl⟩
    cases b
    · rw [show numT ⟨2, 0, t⟩ = fV 2 by show (if (readD t.data.toList).2 = true then _ else _) = _; rw [e]; rfl]
      exact asnum_tno t (by omega) x e w hL
    · rw [show numT ⟨2, 0, t⟩ = nV x by show (if (readD t.data.toList).2 = true then _ else _) = _; rw [e]; rfl]
      exact asnum_tyes t (by omega) x e w hL
  · exact asnum_b0 w
  · exact asnum_b1 w
  · exact asnum_f n w
theorem rnum_t (v : Vl) (hv : Ok v) (w : World) : Calls Tryz.prog 16 #[.agg #[.int .i64 v.k, .int .i64 v.n, .string v.t]] w (IsV (numT v) w) := by
  rcases may_ways hv.1 with rfl | ⟨n, rfl, h⟩ | ⟨t, rfl, h⟩ | rfl | rfl | ⟨n, rfl, h1, h2⟩
  · exact rasnum_e w
  · exact rasnum_n n w
  · obtain ⟨x, b, e⟩ : ∃ x b, readD t.data.toList = (x, b) := ⟨_, _, rfl⟩
    cases b
    · rw [show numT ⟨2, 0, t⟩ = fV 2 by show (if (readD t.data.toList).2 = true then _ else _) = _; rw [e]; rfl]
      exact rasnum_tno t x e w
    · rw [show numT ⟨2, 0, t⟩ = nV x by show (if (readD t.data.toList).2 = true then _ else _) = _; rw [e]; rfl]
      exact rasnum_tyes t x e w
  · exact rasnum_b0 w
  · exact rasnum_b1 w
  · exact rasnum_f n w
theorem txt_c (v : Vl) (hv : Ok v) (w : World) (hL : Dig.Libs w) : Calls Tryz.prog 112 #[.agg #[.int .i64 v.k, .int .i64 v.n, .string v.t]] w (IsV (txtT v) w) := by
  by_cases h : v.k = 4
  · rw [show txtT v = fV v.n from if_pos h]
    exact text_bad v hv.1 h w
  · rw [show txtT v = sV (wordsF v) from if_neg h]
    exact text_c v hv.1 hv.2 h w hL
theorem rtxt_t (v : Vl) (hv : Ok v) (w : World) : Calls Tryz.prog 88 #[.agg #[.int .i64 v.k, .int .i64 v.n, .string v.t]] w (IsV (txtT v) w) := by
  rcases may_ways hv.1 with rfl | ⟨n, rfl, h⟩ | ⟨t, rfl, h⟩ | rfl | rfl | ⟨n, rfl, h1, h2⟩
  · exact rastext_e w
  · exact (rastext_n n hv.2.1 hv.2.2 w).mono fun e w' ⟨s, he, hs, hb⟩ => by
      obtain rfl := text_is hs
      exact ⟨he, hb⟩
  · show Calls Tryz.prog 88 #[.agg #[.int .i64 2, .int .i64 0, .string t]] w (ValIs 2 0 ⟨t.data.toList.toArray⟩ w)
    rw [show (⟨t.data.toList.toArray⟩ : ByteArray) = t from (text_is rfl).symm]
    exact rastext_t t h w
  · exact rastext_b0 w
  · exact rastext_b1 w
  · exact rastext_f n w
theorem rtru_t (v : Vl) (hv : Ok v) (w : World) : Calls Tryz.prog 89 #[.agg #[.int .i64 v.k, .int .i64 v.n, .string v.t]] w (IsV (truT v) w) := rtruth_c v hv.1 _ _ rfl w
end Go.Proofs.YtebjedbppiphgaaGreatDoor.Cal
