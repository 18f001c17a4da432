/- Two lists of values, one behind the other: slices.Concat at two slices of values.
   The sum of the products: package look's number and Products. Written by wip/gen18i.py. -/
import Derived.Test.YtbjomidkeignjaaGreatDoorL4
import Derived.Test.YtbjomidkeignjaaGreatDoorGrow
import Derived.Test.YtbjomidkeignjaaGreatDoorL1
import Derived.Test.YtbjomidkeignjaaGreatDoorGb
import Derived.Test.YtbjomidkeignjaaGreatDoorGa
namespace Go.Proofs.YtbjomidkeignjaaGreatDoor.Lok
open Go.RowKit Kit Reg Dec Dig Val Fld

theorem last_new (w : World) (o : Obj) : (w.alloc o).heap[w.heap.size]? = some o := by
  show (w.heap.push o)[w.heap.size]? = some o
  simp
theorem own_empty {B cap : Nat} {cur : Array Value} (w : World) (hB : B ≤ w.heap.size) (hc : cap ≤ maxLen) (hs : cur.size = cap * 3) : OwnV B (.slice (some ⟨w.heap.size, 0, none⟩) 0 cap) [] (w.drew.alloc (.cells cur 26)) :=
  ⟨rfl, .inr ⟨w.heap.size, cap, cur, rfl, hB, last_new w.drew _, Nat.zero_le _, hc, hs, by simp [flatV]⟩⟩
theorem grow_c (m : Nat) (h1 : 1 ≤ m) (h9 : m ≤ 1000) (B : Nat) (w : World) (hB : B ≤ w.heap.size) :
    Calls Tryz.prog 75 #[.slice none 0 0, .int .i64 m] w fun e w' => ∃ v, e = .returned v ∧ OwnV B v [] w' ∧ Below w.heap.size w w' := by
  obtain ⟨i0, hi, hz0, hz1, hz2⟩ := info_parts infoV
  refine (Any8.slices_Grow_grow Tryz.growV i0 _ hi hz0 (by rw [hz1]; decide) none 0 0 m [] w (Nat.le_refl _) (by omega) (by rw [hz2]; omega) (by omega) (by simp) (fun _ => rfl) (fun a h => by cases h)).mono ?_
  rintro e w' ⟨rfl, rfl⟩
  refine ⟨_, rfl, own_empty w hB ?_ ?_, on_alloc (drewB w) _⟩
  · exact grownCap_le_maxLen _ _ _ _ (by unfold maxLen; omega)
  · have h := grownCap_ge w (0 + m) 0 26
    have hz : (Value.agg #[Value.int IntKind.i64 0, Value.int IntKind.i64 0, Value.string ⟨#[]⟩]).cells.size = 3 := rfl
    have hs : (([] : List Value).toArray).size = 0 := rfl
    have ht : Tryz.growV_ren.t 25 = 26 := rfl
    rw [Array.size_append, Array.size_append, size_zeroCells, size_zeroCells, hz, hs, ht]
    generalize grownCap w (0 + m) 0 26 = q at *
    omega
theorem flatV_append : ∀ L M : List Vl, flatV (L ++ M) = flatV L ++ flatV M
  | [], M => rfl
  | v :: r, M => by rw [List.cons_append, flatV, flatV, flatV_append r M, List.append_assoc]
theorem own_more {B : Nat} {w : World} {v : Value} {L M : List Vl} (h : w.ownsRow B 26 3 v (L.length + M.length) (flatV L ++ flatV M)) : OwnV B v (L ++ M) w := by
  unfold OwnV
  rw [flatV_append, List.length_append]
  exact h
theorem flatV_one : ∀ (L : List Vl), ∀ u ∈ flatV L, u.oneCell' = true
  | [], u, h => by cases h
  | v :: r, u, h => by
    rw [flatV] at h
    rcases List.mem_append.1 h with h | h
    · simp only [Vl.cells, List.mem_cons, List.not_mem_nil, or_false] at h
      rcases h with rfl | rfl | rfl <;> rfl
    · exact flatV_one r u h
/-- the cells of a slice that reads as values -/
theorem flatV_parts : ∀ (L : List Vl) (q : Nat) (u : Value), (flatV L)[q]? = some u → ∃ k j v, q = k * 3 + j ∧ L[k]? = some v ∧ v.cells[j]? = some u
  | [], q, u, h => by simp [flatV] at h
  | v :: r, q, u, h => by
    rw [flatV] at h
    by_cases hq : q < 3
    · rw [List.getElem?_append_left (by show q < 3; exact hq)] at h
      exact ⟨0, q, v, by omega, rfl, h⟩
    · rw [List.getElem?_append_right (by show 3 ≤ q; omega)] at h
      obtain ⟨k, j, x, h1, h2, h3⟩ := flatV_parts r (q - 3) u h
      exact ⟨k + 1, j, x, by omega, by simpa using h2, h3⟩
theorem vals_cells {w : World} {b o n : Nat} {L : List Vl} (h : ValsR w (some ⟨b, o, none⟩) n L) : ∀ j u, (flatV L)[j]? = some u → w.cell? ((⟨b, o, none⟩ : Addr).add j) = some u := by
  intro q u hq
  obtain ⟨k, j, v, rfl, hk, hj⟩ := flatV_parts L q u hq
  obtain ⟨h1, _, _, h3⟩ := h
  have hlt := (List.getElem?_eq_some_iff.1 hk).1
  obtain ⟨b', o', e, hb, hc⟩ := h3 (by omega)
  simp only [Option.some.injEq, Addr.mk.injEq, and_true] at e
  obtain ⟨rfl, rfl⟩ := e
  have := hc k v hk j u hj
  rw [show ((⟨b, o, none⟩ : Addr).add (k * 3 + j)) = ⟨b, o + k * 3 + j, none⟩ by unfold Addr.add; split <;> simp_all [Nat.add_assoc]]
  exact this
theorem vals_addr {w : World} {A : Option Addr} {n : Nat} {L : List Vl} (h : ValsR w A n L) (hn : 1 ≤ n) : ∃ b o, A = some ⟨b, o, none⟩ := by
  obtain ⟨b, o, e, _⟩ := h.2.2.2 (by omega)
  exact ⟨b, o, e⟩
set_option maxRecDepth 100000 in
set_option maxHeartbeats 4000000 in
theorem concat_c (g : Nat) (A1 A2 : Option Addr) (n1 d1 n2 d2 : Nat) (L1 L2 : List Vl) (h1 : 1 ≤ n1) (h2 : 1 ≤ n2) (h9 : n1 + n2 ≤ 1000) (w : World) (hc0 : w.cell? ⟨g, 0, none⟩ = some (.slice A1 n1 d1)) (hc1 : w.cell? ⟨g, 1, none⟩ = some (.slice A2 n2 d2))
    (hz1 : ValsR w A1 n1 L1) (hz2 : ValsR w A2 n2 L2) : Calls Tryz.prog 52 #[.slice (some ⟨g, 0, none⟩) 2 2] w (RowIs (L1 ++ L2) (n1 + n2) w) := by
  obtain ⟨i0, hi, hi0, hi1, hi2⟩ := info_parts infoV
  have HG := Lib.hid (fun w1 hB => grow_c (n1 + n2) (by omega) h9 w.heap.size w1 hB)
  obtain ⟨b1, o1, rfl⟩ := vals_addr hz1 h1
  obtain ⟨b2, o2, rfl⟩ := vals_addr hz2 h2
  have H1 := Lib.hid hz1
  have H2 := Lib.hid hz2
  have e1 : decide ((n1 : Int) < 0) = false := decide_eq_false (by omega)
  have e2 : decide ((n1 : Int) + (n2 : Int) < 0) = false := decide_eq_false (by omega)
  have C0 := Lib.hid hc0
  have C1 := Lib.hid hc1
  have hg := block_lt_of_cell hc0
  have HL1 := Lib.hid hz1.1
  have HL2 := Lib.hid hz2.1
  have HF := Lib.hid (show ∀ x ∈ L1 ++ L2, x.fits from fun x hx => (List.mem_append.1 hx).elim (hz1.2.2.1 x) (hz2.2.2.1 x))
  dsimp only at hg
  clear hz1 hz2
  go_enter Tryz.func52, Tryz.ntmps52
  go_wp2
  go_loopw [3, 11] (fun s i wr => ∃ k m : Nat, ((k = 0 ∧ m = 0) ∨ (k = 1 ∧ m = n1) ∨ (k = 2 ∧ m = n1 + n2)) ∧ s = .int .i64 m ∧ i = .int .i64 k ∧ w = wr) (fun _ i _ => 2 - (intOf i).toNat)
  case atStart => exact ⟨0, 0, .inl ⟨rfl, rfl⟩, rfl, rfl, rfl⟩
  case round =>
    obtain ⟨k, m, hkm, rfl, rfl, rfl⟩ := hrel
    rcases hkm with ⟨rfl, rfl⟩ | ⟨rfl, rfl⟩ | ⟨rfl, rfl⟩
    · clear HG H1 H2
      go_wp2
      go_roundw
      case rel => exact ⟨1, n1, .inr (.inl ⟨rfl, rfl⟩), by go_num, by go_num, by first | rfl | trivial⟩
      case measure => simp [intOf]
    · clear HG H1 H2
      go_wp2
      go_roundw
      case rel => exact ⟨2, m + n2, .inr (.inr ⟨rfl, rfl⟩), by go_num, by go_num, by first | rfl | trivial⟩
      case measure => simp [intOf]
    · clear e1 e2
      go_wp2_with fail
      have hcast : (n1 : Int) + (n2 : Int) = ((n1 + n2 : Nat) : Int) := by omega
      refine (HG.out _ (Nat.le_refl _)).mono ?_
      rintro e w1 ⟨v0, rfl, hrow, hb1⟩
      clear HG hcast
      replace C0 := Lib.hid (kept hb1 C0.out)
      replace C1 := Lib.hid (kept hb1 C1.out)
      go_wp2_with fail
      go_loopw [6, 27] (fun s i wr => ∃ (k : Nat) (M : List Vl), ((k = 0 ∧ M = []) ∨ (k = 1 ∧ M = L1) ∨ (k = 2 ∧ M = L1 ++ L2)) ∧ OwnV w.heap.size s M wr ∧ i = .int .i64 k ∧ Below w.heap.size w wr) (fun _ i _ => 2 - (intOf i).toNat)
      case atStart => exact ⟨0, [], .inl ⟨rfl, rfl⟩, hrow, rfl, hb1⟩
      case round =>
        clear hrow
        obtain ⟨k, M, hkm, hrow, rfl, hb0⟩ := hrel
        have hs0 := hb0.size
        have x0 := kept hb0 hc0
        have x1 := kept hb0 hc1
        rcases hkm with ⟨rfl, rfl⟩ | ⟨rfl, rfl⟩ | ⟨rfl, rfl⟩
        · have hcells := vals_cells (H1.out.on hb0)
          have hlen : (flatV L1).length = n1 * 3 := by rw [flatV_length, HL1.out]
          unfold OwnV at hrow
          go_wp2_with (at_builtin; refine wpList_append_own _ rfl _ _ 22 rfl w.heap.size 26 i0 _ 3 32 Tryz.underlying22 hi hi0 hi1 hi2 rfl (by decide) _ _ _ rfl hrow ⟨b1, o1, none⟩ n1 d1 (flatV L1) rfl hlen hcells (flatV_one L1) (by unfold maxLen; simp; omega) (by simp; omega) hs0 ?_)
          intro v1 w3 hown1 hg1 _
          have hb3 : Below w.heap.size w w3 := hb0.grown hg1 hs0 (fun b e => (World.ownsRow.lt hrow b e).1)
          have hrow1 : OwnV w.heap.size v1 L1 w3 := by
            have h := own_more (L := []) (M := L1) (by rw [HL1.out]; show w3.ownsRow _ _ 3 v1 (0 + n1) _; rw [Nat.zero_add]; exact hown1)
            simpa using h
          clear hown1 hg1 hrow hb0 hcells hlen
          go_wp2
          go_roundw
          case rel => exact ⟨1, L1, .inr (.inl ⟨rfl, rfl⟩), hrow1, by go_num, hb3⟩
          case measure => simp [intOf]
        · have hcells := vals_cells (H2.out.on hb0)
          have hlen : (flatV L2).length = n2 * 3 := by rw [flatV_length, HL2.out]
          have hl1 := HL1.out
          unfold OwnV at hrow
          go_wp2_with (at_builtin; refine wpList_append_own _ rfl _ _ 22 rfl w.heap.size 26 i0 _ 3 32 Tryz.underlying22 hi hi0 hi1 hi2 rfl (by decide) _ _ _ rfl hrow ⟨b2, o2, none⟩ n2 d2 (flatV L2) rfl hlen hcells (flatV_one L2) (by unfold maxLen; omega) (by omega) hs0 ?_)
          intro v1 w3 hown1 hg1 _
          have hb3 : Below w.heap.size w w3 := hb0.grown hg1 hs0 (fun b e => (World.ownsRow.lt hrow b e).1)
          have hrow1 : OwnV w.heap.size v1 (M ++ L2) w3 := own_more (by rw [HL2.out]; first | exact hown1 | (rw [hl1]; exact hown1))
          clear hown1 hg1 hrow hb0 hcells hlen
          go_wp2
          go_roundw
          case rel => exact ⟨2, M ++ L2, .inr (.inr ⟨rfl, rfl⟩), hrow1, by go_num, hb3⟩
          case measure => simp [intOf]
        · obtain ⟨A3, c3, rfl, hZ⟩ := hrow.reads (n := n1 + n2) (by rw [List.length_append, HL1.out, HL2.out]) h9 HF.out
          have HZ := Lib.hid hZ
          clear hrow hZ
          go_wp2_with fail
          go_ret
          exact ⟨A3, c3, rfl, HZ.out, hb0⟩
end Go.Proofs.YtbjomidkeignjaaGreatDoor.Lok
namespace Go.Proofs.YtbjomidkeignjaaGreatDoor.Lok
open Go.RowKit Kit Reg Dec Dig Val Fld

theorem number_c (v : Vl) (w : World) : Calls Tryz.prog 54 #[.agg #[.int .i64 v.k, .int .i64 v.n, .string v.t]] w fun e w' => e = .returned (.int .i64 (numN v)) ∧ Below w.heap.size w w' := by
  obtain ⟨vk, vn, vt⟩ := v
  by_cases h : vk = 1
  · subst h
    go_enter Tryz.func54, Tryz.ntmps54
    go_wp2
    go_ret
    exact ⟨rfl, below1 _ _⟩
  · have e : numN ⟨vk, vn, vt⟩ = 0 := if_neg h
    have u4 : (vk == 1) = false := by rw [beq_eq_false_iff_ne]; exact h
    have u5 : (vk != 1) = true := by simp only [bne, u4]; rfl
    rw [e]
    clear e
    go_enter Tryz.func54, Tryz.ntmps54
    go_wp2
    go_ret
    exact ⟨rfl, below1 _ _⟩
theorem news_at {w : World} {b : Nat} {cs : List Value} (h : CellsAt w b cs) : ∀ j u, cs[j]? = some u → w.cell? ((⟨b, 0, none⟩ : Addr).add j) = some u := by
  intro j u hj
  rw [show ((⟨b, 0, none⟩ : Addr).add j) = ⟨b, j, none⟩ by unfold Addr.add; split <;> simp_all]
  exact (h.2 j u hj).1
/-- a new slice of one value -/
def NewV (cs : List Value) (v : Value) (w : World) : Prop := ∃ b, v = .slice (some ⟨b, 0, none⟩) 1 1 ∧ CellsAt w b cs
theorem NewV.up {cs : List Value} {v : Value} {w : World} (h : Up (NewV cs v) w) : NewV cs v w := by
  obtain ⟨w1, ⟨b, e, h1⟩, hb⟩ := h
  exact ⟨b, e, h1.on hb⟩
theorem prod_snoc {Z : List (Vl × Vl)} {k : Nat} {a b : Vl} (h : Z[k]? = some (a, b)) : prodL (Z.take (k + 1)) = prodL (Z.take k) ++ [prodV a b] := by
  rw [List.take_add_one, h]
  simp [prodL]
theorem prods_may (Z : List (Vl × Vl)) : ∀ v ∈ prodL Z, v.may := fun v hv => by
  obtain ⟨p, _, rfl⟩ := List.mem_map.1 hv
  exact (prod_may p.1 p.2).1
theorem prods_fit (Z : List (Vl × Vl)) : ∀ v ∈ prodL Z, v.fits := fun v hv => by
  obtain ⟨p, _, rfl⟩ := List.mem_map.1 hv
  exact (prod_may p.1 p.2).2
theorem zip_at {L M : List Vl} {k : Nat} {a b : Vl} (h1 : L[k]? = some a) (h2 : M[k]? = some b) : (L.zip M)[k]? = some (a, b) := by
  rw [List.getElem?_zip_eq_some]
  exact ⟨h1, h2⟩

set_option maxRecDepth 100000 in
set_option maxHeartbeats 4000000 in
theorem products_rows (ra ca : Int) (A : Option Addr) (n1 d1 : Nat) (rb cb : Int) (B : Option Addr) (n2 d2 : Nat) (hA : Good ra ca n1) (hB : Good rb cb n2) (hne : ¬ ra = rb) (w : World) :
    Calls Tryz.prog 28 #[.agg #[.int .i64 ra, .int .i64 ca, .slice A n1 d1], .agg #[.int .i64 rb, .int .i64 cb, .slice B n2 d2]] w (ValIs 4 2 ⟨#[]⟩ w) := by
  have qura4 : (ra == rb) = false := by rw [beq_eq_false_iff_ne]; exact hne
  have qura5 : (ra != rb) = true := by simp only [bne, qura4]; rfl
  have HS1 := Lib.hid (fun w1 => shaped_yes ra ca A n1 d1 hA w1)
  have HS2 := Lib.hid (fun w1 => shaped_yes rb cb B n2 d2 hB w1)
  have HB : Hid (∀ w1, Calls Tryz.prog 37 #[.int .i64 2] w1 (ValIs 4 2 ⟨#[]⟩ w1)) := Lib.hid (fun w1 => bad_c 2 w1)
  have ha0 := ((CellsAt.new w [.int .i64 ra, .int .i64 ca, .slice A n1 d1] 24).on_alloc (.cells #[.int .i64 rb, .int .i64 cb, .slice B n2 d2] 24)).on_alloc (.cells #[.int .i64 0, .int .i64 0, .string ⟨#[]⟩] 26)
  have ht0 := (newAt (w0 := w.alloc (.cells #[.int .i64 ra, .int .i64 ca, .slice A n1 d1] 24)) (g := w.heap.size + 1) (by simp) [.int .i64 rb, .int .i64 cb, .slice B n2 d2] 24).on_alloc (.cells #[.int .i64 0, .int .i64 0, .string ⟨#[]⟩] 26)
  have hr0 := newAt (w0 := (w.alloc (.cells #[.int .i64 ra, .int .i64 ca, .slice A n1 d1] 24)).alloc (.cells #[.int .i64 rb, .int .i64 cb, .slice B n2 d2] 24)) (g := w.heap.size + 2) (by simp) [.int .i64 0, .int .i64 0, .string ⟨#[]⟩] 26
  have hb0 := below3 w (.cells #[.int .i64 ra, .int .i64 ca, .slice A n1 d1] 24) (.cells #[.int .i64 rb, .int .i64 cb, .slice B n2 d2] 24) (.cells #[.int .i64 0, .int .i64 0, .string ⟨#[]⟩] 26)
  obtain ⟨a0, a1, a2, _⟩ := ha0.three
  obtain ⟨t0, t1, t2, _⟩ := ht0.three
  clear hA hB
  go_enter Tryz.func28, Tryz.ntmps28
  go_wp2_with fail
  generalize ((w.alloc (.cells #[.int .i64 ra, .int .i64 ca, .slice A n1 d1] 24)).alloc (.cells #[.int .i64 rb, .int .i64 cb, .slice B n2 d2] 24)).alloc (.cells #[.int .i64 0, .int .i64 0, .string ⟨#[]⟩] 26) = W at *
  refine (HS1.out _).mono ?_
  rintro e w1 ⟨rfl, hb1⟩
  clear a0 a1 a2 t0 t1 t2
  replace ha0 := ha0.on hb1
  replace ht0 := ht0.on hb1
  replace hr0 := hr0.on hb1
  replace hb0 := on hb0 hb1
  obtain ⟨a0, a1, a2, _⟩ := ha0.three
  obtain ⟨t0, t1, t2, _⟩ := ht0.three
  clear HS1 hb1
  go_wp2_with fail
  refine (HS2.out _).mono ?_
  rintro e w2 ⟨rfl, hb2⟩
  clear a0 a1 a2 t0 t1 t2
  replace ha0 := ha0.on hb2
  replace ht0 := ht0.on hb2
  replace hr0 := hr0.on hb2
  replace hb0 := on hb0 hb2
  obtain ⟨a0, a1, a2, _⟩ := ha0.three
  obtain ⟨t0, t1, t2, _⟩ := ht0.three
  clear HS2 hb2
  go_wp2_with fail
  refine (HB.out _).mono ?_
  rintro e w3 ⟨rfl, hb3⟩
  clear a0 a1 a2 t0 t1 t2
  replace ha0 := ha0.on hb3
  replace ht0 := ht0.on hb3
  replace hr0 := hr0.on hb3
  replace hb0 := on hb0 hb3
  clear HB hb3
  obtain ⟨p0, p1, p2, f0, f1, f2⟩ := hr0.three
  have hl := hr0.1
  obtain ⟨z0, z1, z2⟩ := three_set (u := .int .i64 4) (v := .int .i64 2) (r := .string ⟨#[]⟩) p0 p1 p2
  have hb5 := set3 hb0 (b := w.heap.size + 2) (by omega) (.int .i64 4) (.int .i64 2) (.string ⟨#[]⟩)
  clear hb0 hr0 ha0 ht0
  go_wp2_with fail
  exact bodyPost_ret (v := .agg #[.int .i64 4, .int .i64 2, .string ⟨#[]⟩]) (by simp [results, Tryz.results28, go_sem, z0, z1, z2]) rfl ⟨rfl, hb5⟩
set_option maxRecDepth 100000 in
set_option maxHeartbeats 4000000 in
theorem products_cols (ra ca : Int) (A : Option Addr) (n1 d1 : Nat) (cb : Int) (B : Option Addr) (n2 d2 : Nat) (hA : Good ra ca n1) (hB : Good ra cb n2) (hne : ¬ ca = cb) (w : World) :
    Calls Tryz.prog 28 #[.agg #[.int .i64 ra, .int .i64 ca, .slice A n1 d1], .agg #[.int .i64 ra, .int .i64 cb, .slice B n2 d2]] w (ValIs 4 2 ⟨#[]⟩ w) := by
  have quca4 : (ca == cb) = false := by rw [beq_eq_false_iff_ne]; exact hne
  have quca5 : (ca != cb) = true := by simp only [bne, quca4]; rfl
  have HS1 := Lib.hid (fun w1 => shaped_yes ra ca A n1 d1 hA w1)
  have HS2 := Lib.hid (fun w1 => shaped_yes ra cb B n2 d2 hB w1)
  have HB : Hid (∀ w1, Calls Tryz.prog 37 #[.int .i64 2] w1 (ValIs 4 2 ⟨#[]⟩ w1)) := Lib.hid (fun w1 => bad_c 2 w1)
  have ha0 := ((CellsAt.new w [.int .i64 ra, .int .i64 ca, .slice A n1 d1] 24).on_alloc (.cells #[.int .i64 ra, .int .i64 cb, .slice B n2 d2] 24)).on_alloc (.cells #[.int .i64 0, .int .i64 0, .string ⟨#[]⟩] 26)
  have ht0 := (newAt (w0 := w.alloc (.cells #[.int .i64 ra, .int .i64 ca, .slice A n1 d1] 24)) (g := w.heap.size + 1) (by simp) [.int .i64 ra, .int .i64 cb, .slice B n2 d2] 24).on_alloc (.cells #[.int .i64 0, .int .i64 0, .string ⟨#[]⟩] 26)
  have hr0 := newAt (w0 := (w.alloc (.cells #[.int .i64 ra, .int .i64 ca, .slice A n1 d1] 24)).alloc (.cells #[.int .i64 ra, .int .i64 cb, .slice B n2 d2] 24)) (g := w.heap.size + 2) (by simp) [.int .i64 0, .int .i64 0, .string ⟨#[]⟩] 26
  have hb0 := below3 w (.cells #[.int .i64 ra, .int .i64 ca, .slice A n1 d1] 24) (.cells #[.int .i64 ra, .int .i64 cb, .slice B n2 d2] 24) (.cells #[.int .i64 0, .int .i64 0, .string ⟨#[]⟩] 26)
  obtain ⟨a0, a1, a2, _⟩ := ha0.three
  obtain ⟨t0, t1, t2, _⟩ := ht0.three
  clear hA hB
  go_enter Tryz.func28, Tryz.ntmps28
  go_wp2_with fail
  generalize ((w.alloc (.cells #[.int .i64 ra, .int .i64 ca, .slice A n1 d1] 24)).alloc (.cells #[.int .i64 ra, .int .i64 cb, .slice B n2 d2] 24)).alloc (.cells #[.int .i64 0, .int .i64 0, .string ⟨#[]⟩] 26) = W at *
  refine (HS1.out _).mono ?_
  rintro e w1 ⟨rfl, hb1⟩
  clear a0 a1 a2 t0 t1 t2
  replace ha0 := ha0.on hb1
  replace ht0 := ht0.on hb1
  replace hr0 := hr0.on hb1
  replace hb0 := on hb0 hb1
  obtain ⟨a0, a1, a2, _⟩ := ha0.three
  obtain ⟨t0, t1, t2, _⟩ := ht0.three
  clear HS1 hb1
  go_wp2_with fail
  refine (HS2.out _).mono ?_
  rintro e w2 ⟨rfl, hb2⟩
  clear a0 a1 a2 t0 t1 t2
  replace ha0 := ha0.on hb2
  replace ht0 := ht0.on hb2
  replace hr0 := hr0.on hb2
  replace hb0 := on hb0 hb2
  obtain ⟨a0, a1, a2, _⟩ := ha0.three
  obtain ⟨t0, t1, t2, _⟩ := ht0.three
  clear HS2 hb2
  go_wp2_with fail
  refine (HB.out _).mono ?_
  rintro e w3 ⟨rfl, hb3⟩
  clear a0 a1 a2 t0 t1 t2
  replace ha0 := ha0.on hb3
  replace ht0 := ht0.on hb3
  replace hr0 := hr0.on hb3
  replace hb0 := on hb0 hb3
  clear HB hb3
  obtain ⟨p0, p1, p2, f0, f1, f2⟩ := hr0.three
  have hl := hr0.1
  obtain ⟨z0, z1, z2⟩ := three_set (u := .int .i64 4) (v := .int .i64 2) (r := .string ⟨#[]⟩) p0 p1 p2
  have hb5 := set3 hb0 (b := w.heap.size + 2) (by omega) (.int .i64 4) (.int .i64 2) (.string ⟨#[]⟩)
  clear hb0 hr0 ha0 ht0
  go_wp2_with fail
  exact bodyPost_ret (v := .agg #[.int .i64 4, .int .i64 2, .string ⟨#[]⟩]) (by simp [results, Tryz.results28, go_sem, z0, z1, z2]) rfl ⟨rfl, hb5⟩
set_option maxRecDepth 100000 in
set_option maxHeartbeats 4000000 in
theorem products_fault (r c : Int) (n : Nat) (A : Option Addr) (d1 : Nat) (B : Option Addr) (d2 : Nat) (L M : List Vl) (hG : Good r c n) (h9 : n + n ≤ 1000) (p : Nat) (x : Vl) (hf : FirstF (L ++ M) p x) (w : World) (hz1 : ValsR w A n L) (hz2 : ValsR w B n M) :
    Calls Tryz.prog 28 #[.agg #[.int .i64 r, .int .i64 c, .slice A n d1], .agg #[.int .i64 r, .int .i64 c, .slice B n d2]] w (ValIs x.k x.n x.t w) := by
  have h1 : 1 ≤ n := by obtain ⟨R, C, e1, e2, _, _, _, _, h5, _⟩ := hG.nat; omega
  have HS1 := Lib.hid (fun w1 => shaped_yes r c A n d1 hG w1)
  have HS2 := Lib.hid (fun w1 => shaped_yes r c B n d2 hG w1)
  have HC := Lib.hid (fun g w1 s0 s1 z1 z2 => concat_c g A B n d1 n d2 L M h1 h1 h9 w1 s0 s1 z1 z2)
  have HZ1 := Lib.hid hz1
  have HZ2 := Lib.hid hz2
  have HN := Lib.hid (fun A3 c3 w1 hz => numbers_yes A3 (n + n) c3 (L ++ M) p x hf w1 hz)
  have hx4 := hf.2.1
  obtain ⟨xk, xn, xt⟩ := x
  obtain rfl : xk = 4 := hx4
  dsimp only at HN ⊢
  have ha0 := ((CellsAt.new w [.int .i64 r, .int .i64 c, .slice A n d1] 24).on_alloc (.cells #[.int .i64 r, .int .i64 c, .slice B n d2] 24)).on_alloc (.cells #[.int .i64 0, .int .i64 0, .string ⟨#[]⟩] 26)
  have ht0 := (newAt (w0 := w.alloc (.cells #[.int .i64 r, .int .i64 c, .slice A n d1] 24)) (g := w.heap.size + 1) (by simp) [.int .i64 r, .int .i64 c, .slice B n d2] 24).on_alloc (.cells #[.int .i64 0, .int .i64 0, .string ⟨#[]⟩] 26)
  have hr0 := newAt (w0 := (w.alloc (.cells #[.int .i64 r, .int .i64 c, .slice A n d1] 24)).alloc (.cells #[.int .i64 r, .int .i64 c, .slice B n d2] 24)) (g := w.heap.size + 2) (by simp) [.int .i64 0, .int .i64 0, .string ⟨#[]⟩] 26
  have hb0 := below3 w (.cells #[.int .i64 r, .int .i64 c, .slice A n d1] 24) (.cells #[.int .i64 r, .int .i64 c, .slice B n d2] 24) (.cells #[.int .i64 0, .int .i64 0, .string ⟨#[]⟩] 26)
  obtain ⟨a0, a1, a2, _⟩ := ha0.three
  obtain ⟨t0, t1, t2, _⟩ := ht0.three
  clear hG hz1 hz2 hf
  go_enter Tryz.func28, Tryz.ntmps28
  go_wp2_with fail
  generalize ((w.alloc (.cells #[.int .i64 r, .int .i64 c, .slice A n d1] 24)).alloc (.cells #[.int .i64 r, .int .i64 c, .slice B n d2] 24)).alloc (.cells #[.int .i64 0, .int .i64 0, .string ⟨#[]⟩] 26) = W at *
  refine (HS1.out _).mono ?_
  rintro e w1 ⟨rfl, hb1⟩
  clear a0 a1 a2 t0 t1 t2
  replace ha0 := ha0.on hb1
  replace ht0 := ht0.on hb1
  replace hr0 := hr0.on hb1
  replace hb0 := on hb0 hb1
  obtain ⟨a0, a1, a2, _⟩ := ha0.three
  obtain ⟨t0, t1, t2, _⟩ := ht0.three
  clear HS1 hb1
  go_wp2_with fail
  refine (HS2.out _).mono ?_
  rintro e w2 ⟨rfl, hb2⟩
  clear a0 a1 a2 t0 t1 t2
  replace ha0 := ha0.on hb2
  replace ht0 := ht0.on hb2
  replace hr0 := hr0.on hb2
  replace hb0 := on hb0 hb2
  obtain ⟨a0, a1, a2, _⟩ := ha0.three
  obtain ⟨t0, t1, t2, _⟩ := ht0.three
  clear HS2 hb2
  have hS := CellsAt.new w2 [.slice A n d1, .slice B n d2] 22
  replace ha0 := ha0.on_alloc (.cells #[.slice A n d1, .slice B n d2] 22)
  replace ht0 := ht0.on_alloc (.cells #[.slice A n d1, .slice B n d2] 22)
  replace hr0 := hr0.on_alloc (.cells #[.slice A n d1, .slice B n d2] 22)
  have hbs := on_alloc hb0 (.cells #[.slice A n d1, .slice B n d2] 22)
  obtain ⟨s0, s1, _⟩ := hS.two
  have hC := Lib.hid (HC.out w2.heap.size _ s0 s1 (HZ1.out.on hbs) (HZ2.out.on hbs))
  replace hb0 := hbs
  clear hbs HC
  go_wp2_with fail
  generalize w2.alloc (.cells #[.slice A n d1, .slice B n d2] 22) = X at *
  refine hC.out.mono ?_
  rintro e w3 ⟨A3, c3, rfl, hz3, hb3⟩
  clear a0 a1 a2 t0 t1 t2
  replace ha0 := ha0.on hb3
  replace ht0 := ht0.on hb3
  replace hr0 := hr0.on hb3
  replace hb0 := on hb0 hb3
  have HN2 := Lib.hid (HN.out A3 c3 w3 hz3)
  clear hb3 hC s0 s1 hS hz3 HN
  go_wp2_with fail
  refine HN2.out.mono ?_
  rintro e w4 ⟨rfl, hb4⟩
  replace ha0 := ha0.on hb4
  replace ht0 := ht0.on hb4
  replace hr0 := hr0.on hb4
  replace hb0 := on hb0 hb4
  clear HN2 hb4 ha0 ht0
  have hX := CellsAt.new w4 [.int .i64 4, .int .i64 xn, .string xt] 26
  obtain ⟨x0, x1, x2, _⟩ := hX.three
  obtain ⟨p0, p1, p2, f0, f1, f2⟩ := hr0.three
  have hl := hr0.1
  obtain ⟨z0, z1, z2⟩ := three_set (u := .int .i64 4) (v := .int .i64 xn) (r := .string xt) p0 p1 p2
  replace z0 := kept_alloc (.cells #[.int .i64 4, .int .i64 xn, .string xt] 26) z0
  replace z1 := kept_alloc (.cells #[.int .i64 4, .int .i64 xn, .string xt] 26) z1
  replace z2 := kept_alloc (.cells #[.int .i64 4, .int .i64 xn, .string xt] 26) z2
  have hb5 := on_alloc (set3 hb0 (b := w.heap.size + 2) (by omega) (.int .i64 4) (.int .i64 xn) (.string xt)) (.cells #[.int .i64 4, .int .i64 xn, .string xt] 26)
  clear hb0 hr0 hX
  go_wp2_with fail
  exact bodyPost_ret (v := .agg #[.int .i64 4, .int .i64 xn, .string xt]) (by simp [results, Tryz.results28, go_sem, z0, z1, z2]) rfl ⟨rfl, hb5⟩
set_option maxRecDepth 100000 in
set_option maxHeartbeats 4000000 in
theorem products_sum (r c : Int) (n : Nat) (A : Option Addr) (d1 : Nat) (B : Option Addr) (d2 : Nat) (L M : List Vl) (hG : Good r c n) (h9 : n + n ≤ 1000) (hf : NoF (L ++ M)) (k0 n0 : Int) (hv : allV addD 0 (prodL (L.zip M)) = (k0, n0)) (w : World) (hz1 : ValsR w A n L) (hz2 : ValsR w B n M) :
    Calls Tryz.prog 28 #[.agg #[.int .i64 r, .int .i64 c, .slice A n d1], .agg #[.int .i64 r, .int .i64 c, .slice B n d2]] w (ValIs k0 n0 ⟨#[]⟩ w) := by
  have h1 : 1 ≤ n := by obtain ⟨R, C, e1, e2, _, _, _, _, h5, _⟩ := hG.nat; omega
  have HS1 := Lib.hid (fun w1 => shaped_yes r c A n d1 hG w1)
  have HS2 := Lib.hid (fun w1 => shaped_yes r c B n d2 hG w1)
  have HC := Lib.hid (fun g w1 s0 s1 z1 z2 => concat_c g A B n d1 n d2 L M h1 h1 h9 w1 s0 s1 z1 z2)
  have HZ1 := Lib.hid hz1
  have HZ2 := Lib.hid hz2
  obtain ⟨i0, hi, hi0, hi1, hi2⟩ := info_parts infoV
  have HN := Lib.hid (fun A3 c3 w1 hz => numbers_no A3 (n + n) c3 (L ++ M) hf w1 hz)
  have HD := Lib.hid (fun A3 c3 w1 hz => sum_c A3 n c3 (prodL (L.zip M)) (prods_may _) k0 n0 hv w1 hz)
  have hlz : Hid ((L.zip M).length = n) := Lib.hid (by rw [List.length_zip, hz1.1, hz2.1, Nat.min_self])
  have ha0 := ((CellsAt.new w [.int .i64 r, .int .i64 c, .slice A n d1] 24).on_alloc (.cells #[.int .i64 r, .int .i64 c, .slice B n d2] 24)).on_alloc (.cells #[.int .i64 0, .int .i64 0, .string ⟨#[]⟩] 26)
  have ht0 := (newAt (w0 := w.alloc (.cells #[.int .i64 r, .int .i64 c, .slice A n d1] 24)) (g := w.heap.size + 1) (by simp) [.int .i64 r, .int .i64 c, .slice B n d2] 24).on_alloc (.cells #[.int .i64 0, .int .i64 0, .string ⟨#[]⟩] 26)
  have hr0 := newAt (w0 := (w.alloc (.cells #[.int .i64 r, .int .i64 c, .slice A n d1] 24)).alloc (.cells #[.int .i64 r, .int .i64 c, .slice B n d2] 24)) (g := w.heap.size + 2) (by simp) [.int .i64 0, .int .i64 0, .string ⟨#[]⟩] 26
  have hb0 := below3 w (.cells #[.int .i64 r, .int .i64 c, .slice A n d1] 24) (.cells #[.int .i64 r, .int .i64 c, .slice B n d2] 24) (.cells #[.int .i64 0, .int .i64 0, .string ⟨#[]⟩] 26)
  obtain ⟨a0, a1, a2, _⟩ := ha0.three
  obtain ⟨t0, t1, t2, _⟩ := ht0.three
  clear hG hz1 hz2 hf hv
  go_enter Tryz.func28, Tryz.ntmps28
  go_wp2_with fail
  generalize ((w.alloc (.cells #[.int .i64 r, .int .i64 c, .slice A n d1] 24)).alloc (.cells #[.int .i64 r, .int .i64 c, .slice B n d2] 24)).alloc (.cells #[.int .i64 0, .int .i64 0, .string ⟨#[]⟩] 26) = W at *
  refine (HS1.out _).mono ?_
  rintro e w1 ⟨rfl, hb1⟩
  clear a0 a1 a2 t0 t1 t2
  replace ha0 := ha0.on hb1
  replace ht0 := ht0.on hb1
  replace hr0 := hr0.on hb1
  replace hb0 := on hb0 hb1
  obtain ⟨a0, a1, a2, _⟩ := ha0.three
  obtain ⟨t0, t1, t2, _⟩ := ht0.three
  clear HS1 hb1
  go_wp2_with fail
  refine (HS2.out _).mono ?_
  rintro e w2 ⟨rfl, hb2⟩
  clear a0 a1 a2 t0 t1 t2
  replace ha0 := ha0.on hb2
  replace ht0 := ht0.on hb2
  replace hr0 := hr0.on hb2
  replace hb0 := on hb0 hb2
  obtain ⟨a0, a1, a2, _⟩ := ha0.three
  obtain ⟨t0, t1, t2, _⟩ := ht0.three
  clear HS2 hb2
  have hS := CellsAt.new w2 [.slice A n d1, .slice B n d2] 22
  replace ha0 := ha0.on_alloc (.cells #[.slice A n d1, .slice B n d2] 22)
  replace ht0 := ht0.on_alloc (.cells #[.slice A n d1, .slice B n d2] 22)
  replace hr0 := hr0.on_alloc (.cells #[.slice A n d1, .slice B n d2] 22)
  have hbs := on_alloc hb0 (.cells #[.slice A n d1, .slice B n d2] 22)
  obtain ⟨s0, s1, _⟩ := hS.two
  have hC := Lib.hid (HC.out w2.heap.size _ s0 s1 (HZ1.out.on hbs) (HZ2.out.on hbs))
  replace hb0 := hbs
  clear hbs HC
  go_wp2_with fail
  generalize w2.alloc (.cells #[.slice A n d1, .slice B n d2] 22) = X at *
  refine hC.out.mono ?_
  rintro e w3 ⟨A3, c3, rfl, hz3, hb3⟩
  clear a0 a1 a2 t0 t1 t2
  replace ha0 := ha0.on hb3
  replace ht0 := ht0.on hb3
  replace hr0 := hr0.on hb3
  replace hb0 := on hb0 hb3
  have HN2 := Lib.hid (HN.out A3 c3 w3 hz3)
  clear hb3 hC s0 s1 hS hz3 HN
  go_wp2_with fail
  refine HN2.out.mono ?_
  rintro e w4 ⟨A4, c4, rfl, _, hb4⟩
  replace ha0 := ha0.on hb4
  replace ht0 := ht0.on hb4
  replace hr0 := hr0.on hb4
  replace hb0 := on hb0 hb4
  clear HN2 hb4
  have hw4 := hr0.1
  have hX := CellsAt.new w4 [.int .i64 0, .int .i64 0, .string ⟨#[]⟩] 26
  obtain ⟨x0, x1, x2, _⟩ := hX.three
  replace ha0 := (ha0.on_alloc (.cells #[.int .i64 0, .int .i64 0, .string ⟨#[]⟩] 26)).on_alloc (.cells #[] 26)
  replace ht0 := (ht0.on_alloc (.cells #[.int .i64 0, .int .i64 0, .string ⟨#[]⟩] 26)).on_alloc (.cells #[] 26)
  replace hr0 := (hr0.on_alloc (.cells #[.int .i64 0, .int .i64 0, .string ⟨#[]⟩] 26)).on_alloc (.cells #[] 26)
  have hs4 := hb0.size
  have hrow := World.ownsRow_lit (base := w4.heap.size + 1) (e := 26) (size := 3) (w4.alloc (.cells #[.int .i64 0, .int .i64 0, .string ⟨#[]⟩] 26)) #[] 0 (by simp) (by simp [maxLen]) rfl
  rw [show (w4.alloc (.cells #[.int .i64 0, .int .i64 0, .string ⟨#[]⟩] 26)).heap.size = w4.heap.size + 1 by simp] at hrow
  replace hb0 := on_alloc (on_alloc hb0 (.cells #[.int .i64 0, .int .i64 0, .string ⟨#[]⟩] 26)) (.cells #[] 26)
  have hB0 : w4.heap.size + 1 ≤ ((w4.alloc (.cells #[.int .i64 0, .int .i64 0, .string ⟨#[]⟩] 26)).alloc (.cells #[] 26)).heap.size := by simp
  obtain ⟨a0, a1, a2, _⟩ := ha0.three
  obtain ⟨t0, t1, t2, _⟩ := ht0.three
  go_wp2_with fail
  clear a0 a1 a2 t0 t1 t2
  clear x0 x1 x2 hX
  generalize (w4.alloc (.cells #[.int .i64 0, .int .i64 0, .string ⟨#[]⟩] 26)).alloc (.cells #[] 26) = W2 at *
  go_loopw [7, 50] (fun o i wr => ∃ k : Nat, k ≤ n ∧ i = .int .i64 k ∧ OwnV (w4.heap.size + 1) o (prodL ((L.zip M).take k)) wr ∧ Below w.heap.size w wr ∧ w4.heap.size + 1 ≤ wr.heap.size ∧ CellsAt wr w.heap.size [.int .i64 r, .int .i64 c, .slice A n d1] ∧ CellsAt wr (w.heap.size + 1) [.int .i64 r, .int .i64 c, .slice B n d2] ∧ CellsAt wr (w.heap.size + 2) [.int .i64 0, .int .i64 0, .string ⟨#[]⟩]) (fun _ i _ => n - (intOf i).toNat)
  case atStart => exact ⟨0, Nat.zero_le _, rfl, hrow, hb0, hB0, ha0, ht0, hr0⟩
  case round =>
    clear hb0 hrow ha0 ht0 hr0 hB0
    obtain ⟨k, hk, rfl, hrow, hb0, hB0, ha0, ht0, hr0⟩ := hrel
    have hlen : (prodL ((L.zip M).take k)).length = k := by unfold prodL; rw [List.length_map, List.length_take, hlz.out]; omega
    have hs0 := hb0.size
    by_cases hlt : k < n
    · obtain ⟨u, hu⟩ := HZ1.out.get hlt
      obtain ⟨v, hv⟩ := HZ2.out.get hlt
      obtain ⟨g1, o1, rfl, hg1, u0, u1, u2⟩ := (HZ1.out.on hb0).at hu
      obtain ⟨g2, o2, rfl, hg2, v0, v1, v2⟩ := (HZ2.out.on hb0).at hv
      have HP : Hid (prodL ((L.zip M).take (k + 1)) = prodL ((L.zip M).take k) ++ [prodV u v]) := Lib.hid (prod_snoc (zip_at hu hv))
      have HU := Lib.hid (fun w1 => number_c u w1)
      have HV := Lib.hid (fun w1 => number_c v w1)
      obtain ⟨xa, hxa⟩ : ∃ x, numN u = x := ⟨_, rfl⟩
      obtain ⟨xb, hxb⟩ : ∃ x, numN v = x := ⟨_, rfl⟩
      have ra9 : xa ≤ 9223372036854775807 := by have h := (HZ1.out.2.2.1 u (List.mem_of_getElem? hu)).2; rw [← hxa]; unfold numN; split <;> omega
      have rb9 : xb ≤ 9223372036854775807 := by have h := (HZ2.out.2.2.1 v (List.mem_of_getElem? hv)).2; rw [← hxb]; unfold numN; split <;> omega
      rcases hsc : scaledD xa xb 10000 with ⟨m, ok⟩
      rcases hgv : gotV m ok with ⟨pk, pn⟩
      have HX : Hid (prodV u v = ⟨pk, pn, ⟨#[]⟩⟩) := Lib.hid (by unfold prodV; rw [hxa, hxb, hsc]; dsimp only; rw [hgv])
      have HM := Lib.hid (fun w1 => (mul_c xa xb ra9 rb9 m ok hsc w1).mono (fun e w' h => (⟨h.1, drawn_below h.2⟩ : _ ∧ Below w1.heap.size w1 w')))
      have HGo := Lib.hid (fun w1 => got_c m ok pk pn hgv w1)
      rw [hxa] at HU
      rw [hxb] at HV
      obtain ⟨uk, un, ut⟩ := u
      obtain ⟨vk, vn, vt⟩ := v
      dsimp only at u0 u1 u2 v0 v1 v2 HU HV
      rw [HX.out] at HP
      obtain ⟨a0, a1, a2, _⟩ := ha0.three
      obtain ⟨t0, t1, t2, _⟩ := ht0.three
      clear hu hv hsc hgv hxa hxb ra9 rb9 HX
      go_wp2_with fail
      have A0 := fun d os => cell_regrown a0 d os
      have A1 := fun d os => cell_regrown a1 d os
      have A2 := fun d os => cell_regrown a2 d os
      have T0 := fun d os => cell_regrown t0 d os
      have T1 := fun d os => cell_regrown t1 d os
      have T2 := fun d os => cell_regrown t2 d os
      have U0 := fun d os => cell_regrown u0 d os
      have U1 := fun d os => cell_regrown u1 d os
      have U2 := fun d os => cell_regrown u2 d os
      have V0 := fun d os => cell_regrown v0 d os
      have V1 := fun d os => cell_regrown v1 d os
      have V2 := fun d os => cell_regrown v2 d os
      clear a0 a1 a2 t0 t1 t2 u0 u1 u2 v0 v1 v2
      refine wp_region_mem 18 (fun d => match d with
        | 59 => some (Is (.int .i64 xa))
        | 65 => some (Is (.int .i64 xb))
        | 66 => some (Is (.tuple #[.int .i64 m, .bool ok]))
        | 69 => some (Is (.agg #[.int .i64 pk, .int .i64 pn, .string ⟨#[]⟩]))
        | 70 => some (NewV [.int .i64 pk, .int .i64 pn, .string ⟨#[]⟩])
        | _ => none) (by kernel_rfl) (by kernel_rfl) ?_
      simp only [List.take_succ_cons, List.take_zero, List.drop_succ_cons, List.drop_zero]
      repeat (first | ((with_reducible refine wpM_calm ?_ ?_ ?_ ?_); exact rfl; exact rfl; exact rfl; intro K hK; go_big_quiet_op; go_big_quiet_on) | ((with_reducible refine wpM_skip ?_ ?_); exact rfl; simp only [Act.put, List.setIfInBounds_toArray, List.set_cons_succ, List.set_cons_zero]))
      refine wpM_exact rfl rfl rfl Tryz.func54 (by kernel_rfl) (by kernel_rfl) (fun w1 _ _ => HU.out w1) rfl (by simp only [Act.put, List.setIfInBounds_toArray, List.set_cons_succ, List.set_cons_zero]; rfl) ?_
      repeat (first | ((with_reducible refine wpM_calm ?_ ?_ ?_ ?_); exact rfl; exact rfl; exact rfl; intro K hK; go_big_quiet_op; go_big_quiet_on) | ((with_reducible refine wpM_skip ?_ ?_); exact rfl; simp only [Act.put, List.setIfInBounds_toArray, List.set_cons_succ, List.set_cons_zero]))
      refine wpM_exact rfl rfl rfl Tryz.func54 (by kernel_rfl) (by kernel_rfl) (fun w1 _ _ => HV.out w1) rfl (by simp only [Act.put, List.setIfInBounds_toArray, List.set_cons_succ, List.set_cons_zero]; rfl) ?_
      refine wpM_exact rfl rfl rfl Tryz.func53 (by kernel_rfl) (by kernel_rfl) (fun w1 _ _ => HM.out w1) rfl (by simp only [Act.put, List.setIfInBounds_toArray, List.set_cons_succ, List.set_cons_zero]; rfl) ?_
      repeat (first | ((with_reducible refine wpM_calm ?_ ?_ ?_ ?_); exact rfl; exact rfl; exact rfl; intro K hK; go_big_quiet_op; go_big_quiet_on) | ((with_reducible refine wpM_skip ?_ ?_); exact rfl; simp only [Act.put, List.setIfInBounds_toArray, List.set_cons_succ, List.set_cons_zero]))
      refine wpM_exact rfl rfl rfl Tryz.func43 (by kernel_rfl) (by kernel_rfl) (fun w1 _ _ => HGo.out w1) rfl (by simp only [Act.put, List.setIfInBounds_toArray, List.set_cons_succ, List.set_cons_zero]; rfl) ?_
      refine wpM_makes _ rfl rfl (fun w5 hw5 _ => ?_) ?_
      · simp [go_sem, variesUpon]
        exact ⟨below1 _ _, w5.heap.size, rfl, CellsAt.new w5 [.int .i64 pk, .int .i64 pn, .string ⟨#[]⟩] _⟩
      rintro v9 ⟨_, b9, rfl, _⟩ a9 ha9
      simp only [Act.put, List.setIfInBounds_toArray, List.set_cons_succ, List.set_cons_zero] at ha9
      subst ha9
      refine wpM_nil ?_
      intro w5 hw5 hF
      obtain ⟨b8, e8, hN8⟩ := NewV.up ((hF 17).2 rfl)
      obtain rfl : b9 = b8 := by simpa using e8
      have hnews := news_at hN8
      have hsz5 := hw5.size
      replace hrow := hrow.on hw5
      replace ha0 := ha0.on hw5
      replace ht0 := ht0.on hw5
      replace hr0 := hr0.on hw5
      replace hb0 := on hb0 hw5
      have hs5 := hb0.size
      clear A0 A1 A2 T0 T1 T2 U0 U1 U2 V0 V1 V2 HU HV HM HGo hF hw5 e8
      generalize prodL ((L.zip M).take k) = K at *
      unfold OwnV at hrow
      go_wp2_with (at_builtin; refine wpList_append_own _ rfl _ _ 22 rfl (w4.heap.size + 1) 26 i0 _ 3 32 Tryz.underlying22 hi hi0 hi1 hi2 rfl (by decide) _ _ _ rfl hrow ⟨b9, 0, none⟩ 1 1 [.int .i64 pk, .int .i64 pn, .string ⟨#[]⟩] rfl rfl hnews (by simp [Value.oneCell']) (by unfold maxLen; omega) (by omega) (by omega) ?_)
      intro v1 w6 hown1 hg9 _
      have hb6 : Below w.heap.size w w6 := hb0.grown hg9 hs5 (fun b e => Nat.le_trans (by omega) (World.ownsRow.lt hrow b e).1)
      have ha6 := cells_grown ha0 hg9 (own_far hrow (by omega))
      have ht6 := cells_grown ht0 hg9 (own_far hrow (by omega))
      have hr6 := cells_grown hr0 hg9 (own_far hrow (by omega))
      have hB6 : w4.heap.size + 1 ≤ w6.heap.size := Nat.le_trans (by omega) hg9.size
      have hrow1 := own_snoc (L := K) ⟨pk, pn, ⟨#[]⟩⟩ (by rw [hlen]; exact hown1)
      clear hown1 hg9 hrow hb0 ha0 ht0 hr0 hnews hN8
      go_wp2
      go_roundw
      case rel => exact ⟨k + 1, by omega, by go_num, by rw [HP.out]; exact hrow1, hb6, hB6, ha6, ht6, hr6⟩
      case measure => simp [intOf]; omega
    · obtain rfl : k = n := by omega
      rw [List.take_of_length_le (by rw [hlz.out]; omega)] at hrow hlen
      obtain ⟨A5, c5, rfl, hz5⟩ := hrow.reads (n := k) hlen (by omega) (prods_fit _)
      have hz5' := Lib.hid hz5
      clear hrow hz5 ha0 ht0
      go_wp2_with fail
      refine (HD.out _ _ _ hz5'.out).mono ?_
      rintro e w5 ⟨rfl, hb5'⟩
      replace hr0 := hr0.on hb5'
      replace hb0 := on hb0 hb5'
      clear HD hz5' hb5'
      obtain ⟨p0, p1, p2, f0, f1, f2⟩ := hr0.three
      have hl := hr0.1
      obtain ⟨z0, z1, z2⟩ := three_set (u := .int .i64 k0) (v := .int .i64 n0) (r := .string ⟨#[]⟩) p0 p1 p2
      have hb5 := set3 hb0 (b := w.heap.size + 2) (by omega) (.int .i64 k0) (.int .i64 n0) (.string ⟨#[]⟩)
      clear hb0 hr0
      go_wp2_with fail
      exact bodyPost_ret (v := .agg #[.int .i64 k0, .int .i64 n0, .string ⟨#[]⟩]) (by simp [results, Tryz.results28, go_sem, z0, z1, z2]) rfl ⟨rfl, hb5⟩
theorem products_c (r c : Int) (n : Nat) (A : Option Addr) (d1 : Nat) (B : Option Addr) (d2 : Nat) (L M : List Vl) (hL : ∀ v ∈ L, v.may) (hM : ∀ v ∈ M, v.may) (hG : Good r c n) (h9 : n + n ≤ 1000) (k0 n0 : Int) (hv : sumP L M = (k0, n0)) (w : World) (hz1 : ValsR w A n L) (hz2 : ValsR w B n M) :
    Calls Tryz.prog 28 #[.agg #[.int .i64 r, .int .i64 c, .slice A n d1], .agg #[.int .i64 r, .int .i64 c, .slice B n d2]] w (ValIs k0 n0 ⟨#[]⟩ w) := by
  rcases fault_ways L with ha | ⟨p, x, ha⟩
  · rcases fault_ways M with hb | ⟨p, x, hb⟩
    · rw [sumP_in ha hb] at hv
      exact products_sum r c n A d1 B d2 L M hG h9 (noF_app ha hb) k0 n0 hv w hz1 hz2
    · rw [sumP_b ha hb] at hv
      obtain ⟨rfl, rfl⟩ := Prod.mk.inj hv
      have h := products_fault r c n A d1 B d2 L M hG h9 _ x (firstF_behind ha hb) w hz1 hz2
      have hx := may_fault (hM x (List.mem_of_getElem? hb.1)) hb.2.1
      rw [hx] at h
      exact h
  · rw [sumP_a M ha] at hv
    obtain ⟨rfl, rfl⟩ := Prod.mk.inj hv
    have h := products_fault r c n A d1 B d2 L M hG h9 _ x (firstF_app M ha) w hz1 hz2
    have hx := may_fault (hL x (List.mem_of_getElem? ha.1)) ha.2.1
    rw [hx] at h
    exact h
end Go.Proofs.YtbjomidkeignjaaGreatDoor.Lok
