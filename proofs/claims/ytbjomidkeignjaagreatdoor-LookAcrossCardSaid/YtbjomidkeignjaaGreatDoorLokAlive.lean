/- The hits of any values; and the laws' check of life. Written by wip/gen18l.py. -/
import Derived.Test.YtbjomidkeignjaaGreatDoorL4
import Derived.Test.YtbjomidkeignjaaGreatDoorL5
import Derived.Test.YtbjomidkeignjaaGreatDoorL6
namespace Go.Proofs.YtbjomidkeignjaaGreatDoor.Lok
open Go.RowKit Kit Reg Dec Dig Val Fld
open Crt (CLibs CritIs RCritIs hitsV of_fault trims_stars hits_c rhits_c of_any of_words LawEnd)

theorem hitsC_c (op k2 n2 : Int) (t2 : ByteArray) (o1 : 7 ≤ op) (o2 : op ≤ 12) (h2 : mayV k2 n2 t2 = true) (hk2 : k2 = 1 ∨ k2 = 2 ∨ k2 = 3) (L : List Vl) (hm : ∀ v ∈ L, v.may) : HitsC 65 op k2 n2 t2 L := fun k v w1 hv =>
  hits_c trims_stars op k2 n2 v.k v.n t2 v.t o1 o2 h2 hk2 (hm v (List.mem_of_getElem? hv)) (by have := may_size (hm v (List.mem_of_getElem? hv)); omega) _ rfl w1
theorem rhitsC_c (op k2 n2 : Int) (t2 : ByteArray) (o1 : 7 ≤ op) (o2 : op ≤ 12) (h2 : mayV k2 n2 t2 = true) (hk2 : k2 = 1 ∨ k2 = 2 ∨ k2 = 3) (L : List Vl) (hm : ∀ v ∈ L, v.may) : HitsC 68 op k2 n2 t2 L := fun k v w1 hv =>
  rhits_c op k2 n2 v.k v.n t2 v.t o1 o2 h2 hk2 (hm v (List.mem_of_getElem? hv)) (by have := may_size (hm v (List.mem_of_getElem? hv)); omega) _ rfl w1
theorem hit_may {op k2 n2 : Int} {t2 : ByteArray} {L : List Vl} (hm : ∀ v ∈ L, v.may) : ∀ v ∈ hitL op k2 n2 t2 L, v.may := fun v hv => hm v (hit_mem hv)
/-- a block that holds the cells of values reads as them -/
theorem vals_of_cells {w : World} {b n : Nat} {L : List Vl} (h : CellsAt w b (flatV L)) (hl : L.length = n) (hn : n ≤ 1000) (hf : ∀ v ∈ L, v.fits) : ValsR w (some ⟨b, 0, none⟩) n L :=
  ⟨hl, hn, hf, fun _ => ⟨b, 0, rfl, h.1, fun k v hk j x hj => by
    rw [Nat.zero_add]
    exact (h.2 _ x (flatV_at L k v hk j x hj)).1⟩⟩
/-- the table of the check of life -/
def L4 : List Vl := [⟨2, 0, ⟨#[97]⟩⟩, ⟨1, 10000, ⟨#[]⟩⟩, ⟨2, 0, ⟨#[98]⟩⟩, ⟨1, 25000, ⟨#[]⟩⟩]
theorem L4_may : ∀ v ∈ L4, v.may := fun v hv => by
  simp only [L4, List.mem_cons, List.not_mem_nil, or_false] at hv
  rcases hv with rfl | rfl | rfl | rfl <;> (unfold Vl.may; decide +kernel)
theorem L4_fits : ∀ v ∈ L4, v.fits := fun v hv => by
  simp only [L4, List.mem_cons, List.not_mem_nil, or_false] at hv
  rcases hv with rfl | rfl | rfl | rfl <;> (unfold Vl.fits; decide)
theorem first_of {x : Vl} {K : List Vl} {p : Nat} {v : Vl} (h : K[p]? = some v) (h1 : hitS x v = true) (h2 : (List.range p).all (fun i => (K[i]?).all fun u => !hitS x u) = true) : FirstS x K p v := ⟨h, h1, fun i u hi hu => by
  have := List.all_eq_true.1 h2 i (List.mem_range.2 hi)
  rw [hu] at this
  simpa using this⟩
theorem L4_match : MatchIs ⟨2, 0, ⟨#[98]⟩⟩ L4 3 true := .inr (.inr ⟨by decide, 2, ⟨2, 0, ⟨#[98]⟩⟩, first_of rfl (by decide +kernel) (by decide +kernel), rfl, rfl⟩)
theorem L4_down : DownIs ⟨2, 0, ⟨#[98]⟩⟩ L4 2 2 2 ⟨1, 25000, ⟨#[]⟩⟩ := .inl ⟨1, by decide, rfl, .inr (.inr (.inr ⟨by decide, rfl, 1, ⟨2, 0, ⟨#[98]⟩⟩, first_of rfl (by decide +kernel) (by decide +kernel), rfl⟩))⟩
theorem L4_across : AcrossIs ⟨1, 10000, ⟨#[]⟩⟩ L4 2 2 2 ⟨1, 25000, ⟨#[]⟩⟩ := .inl ⟨1, by decide, rfl, .inr (.inr (.inr ⟨by decide, rfl, 1, ⟨1, 10000, ⟨#[]⟩⟩, first_of rfl (by decide +kernel) (by decide +kernel), rfl⟩))⟩
theorem L4_count : (hitL 12 1 10000 ⟨#[]⟩ L4).length = 2 := by decide +kernel
theorem L4_sum : allV addD 0 (hitL 9 1 20000 ⟨#[]⟩ L4) = (1, 10000) := by decide +kernel
theorem L4_prod : sumP L4 L4 = (1, 72500) := by decide +kernel
theorem L4_good : Good 2 2 4 := ⟨by decide, by decide, by decide, by decide⟩

theorem life_match (g : Nat) (w1 : World) (hz : ValsR w1 (some ⟨g, 0, none⟩) 4 L4) : Calls Tryz.prog 14 #[.agg #[.int .i64 2, .int .i64 0, .string ⟨#[98]⟩], .agg #[.int .i64 2, .int .i64 2, .slice (some ⟨g, 0, none⟩) 4 4]] w1 (PlaceIs 3 true w1) :=
  matchAny_c ⟨2, 0, ⟨#[98]⟩⟩ (by unfold Vl.may; decide +kernel) 2 2 _ 4 4 L4 L4_may 3 true L4_match w1 hz
theorem life_down (g : Nat) (w1 : World) (hz : ValsR w1 (some ⟨g, 0, none⟩) 4 L4) : Calls Tryz.prog 17 #[.agg #[.int .i64 2, .int .i64 0, .string ⟨#[98]⟩], .agg #[.int .i64 2, .int .i64 2, .slice (some ⟨g, 0, none⟩) 4 4], .int .i64 2] w1 (ValIs 1 25000 ⟨#[]⟩ w1) :=
  down_c (R := 2) (C := 2) (n := 4) (by decide) (by decide) (by decide) rfl ⟨2, 0, ⟨#[98]⟩⟩ (by unfold Vl.may; decide +kernel) _ 4 L4 L4_may 2 ⟨1, 25000, ⟨#[]⟩⟩ L4_down w1 hz
theorem life_across (g : Nat) (w1 : World) (hz : ValsR w1 (some ⟨g, 0, none⟩) 4 L4) : Calls Tryz.prog 18 #[.agg #[.int .i64 1, .int .i64 10000, .string ⟨#[]⟩], .agg #[.int .i64 2, .int .i64 2, .slice (some ⟨g, 0, none⟩) 4 4], .int .i64 2] w1 (ValIs 1 25000 ⟨#[]⟩ w1) :=
  across_c (R := 2) (C := 2) (n := 4) (by decide) (by decide) (by decide) rfl ⟨1, 10000, ⟨#[]⟩⟩ (by unfold Vl.may; decide +kernel) _ 4 L4 L4_may 2 ⟨1, 25000, ⟨#[]⟩⟩ L4_across w1 hz
theorem life_hit (by_ : ByteArray) (hs : by_.size ≤ 256) (op : Int) (m : Nat) (n2 : Int) (h1 : Crt.splitL by_.data.toList = (op, m)) (h2 : Crt.meantV (by_.extract m by_.size) = (1, n2, ⟨#[]⟩)) (o1 : 7 ≤ op) (o2 : op ≤ 12) (g : Nat) (w1 : World) (hL : CLibs w1) (hz : ValsR w1 (some ⟨g, 0, none⟩) 4 L4) :
    Calls Tryz.prog 42 #[.agg #[.int .i64 2, .int .i64 2, .slice (some ⟨g, 0, none⟩) 4 4], .agg #[.int .i64 2, .int .i64 0, .string by_]] w1 (HitEnd (hitL op 1 n2 ⟨#[]⟩ L4) true w1) :=
  hit_in 2 2 _ 4 4 2 0 by_ op 1 n2 ⟨#[]⟩ L4 w1 (fun w2 hb => of_words by_ hs op m h1 1 n2 ⟨#[]⟩ h2 w2 (hL.grown hb)) (hitsC_c op 1 n2 ⟨#[]⟩ o1 o2 (Crt.meant_may (by rw [ByteArray.size_extract]; omega) h2).1 (.inl rfl) L4 L4_may) hz
theorem life_count (g : Nat) (w1 : World) (hL : CLibs w1) (hz : ValsR w1 (some ⟨g, 0, none⟩) 4 L4) : Calls Tryz.prog 21 #[.agg #[.int .i64 2, .int .i64 2, .slice (some ⟨g, 0, none⟩) 4 4], .agg #[.int .i64 2, .int .i64 0, .string ⟨#[62, 61, 49]⟩]] w1 (ValIs 1 20000 ⟨#[]⟩ w1) := by
  have h := countif_in 2 2 (some ⟨g, 0, none⟩) 4 4 2 0 ⟨#[62, 61, 49]⟩ _ w1 (fun w2 hb => life_hit ⟨#[62, 61, 49]⟩ (by decide) 12 2 10000 (by decide +kernel) (by decide +kernel) (by decide) (by decide) g w2 (hL.grown hb) (hz.on hb))
  rw [L4_count] at h
  exact h
theorem life_sum (g : Nat) (w1 : World) (hL : CLibs w1) (hz : ValsR w1 (some ⟨g, 0, none⟩) 4 L4) : Calls Tryz.prog 23 #[.agg #[.int .i64 2, .int .i64 2, .slice (some ⟨g, 0, none⟩) 4 4], .agg #[.int .i64 2, .int .i64 0, .string ⟨#[60, 50]⟩]] w1 (ValIs 1 10000 ⟨#[]⟩ w1) :=
  sumif_in 2 2 (some ⟨g, 0, none⟩) 4 4 2 0 ⟨#[60, 50]⟩ _ (hit_may L4_may) 1 10000 L4_sum w1 (fun w2 hb => life_hit ⟨#[60, 50]⟩ (by decide) 9 1 20000 (by decide +kernel) (by decide +kernel) (by decide) (by decide) g w2 (hL.grown hb) (hz.on hb))
theorem life_prod (g : Nat) (w1 : World) (hz : ValsR w1 (some ⟨g, 0, none⟩) 4 L4) : Calls Tryz.prog 28 #[.agg #[.int .i64 2, .int .i64 2, .slice (some ⟨g, 0, none⟩) 4 4], .agg #[.int .i64 2, .int .i64 2, .slice (some ⟨g, 0, none⟩) 4 4]] w1 (ValIs 1 72500 ⟨#[]⟩ w1) :=
  products_c 2 2 4 _ 4 _ 4 L4 L4 L4_may L4_may L4_good (by decide) 1 72500 L4_prod w1 hz hz
set_option maxRecDepth 100000 in
set_option maxHeartbeats 8000000 in
theorem life_c (w : World) (hL : CLibs w) : Calls Tryz.prog 7 #[] w (LawEnd w) := by
  have SA : Hid (∀ w1, Calls Tryz.prog 27 #[.string ⟨#[97]⟩] w1 (ValIs 2 0 ⟨#[97]⟩ w1)) := Lib.hid (fun w1 => str_c _ 2 0 _ (str_in (by decide)) w1)
  have SB : Hid (∀ w1, Calls Tryz.prog 27 #[.string ⟨#[98]⟩] w1 (ValIs 2 0 ⟨#[98]⟩ w1)) := Lib.hid (fun w1 => str_c _ 2 0 _ (str_in (by decide)) w1)
  have SG : Hid (∀ w1, Calls Tryz.prog 27 #[.string ⟨#[62, 61, 49]⟩] w1 (ValIs 2 0 ⟨#[62, 61, 49]⟩ w1)) := Lib.hid (fun w1 => str_c _ 2 0 _ (str_in (by decide)) w1)
  have SL : Hid (∀ w1, Calls Tryz.prog 27 #[.string ⟨#[60, 50]⟩] w1 (ValIs 2 0 ⟨#[60, 50]⟩ w1)) := Lib.hid (fun w1 => str_c _ 2 0 _ (str_in (by decide)) w1)
  have N10 : Hid (∀ w1, Calls Tryz.prog 30 #[.int .i64 10000] w1 (ValIs 1 10000 ⟨#[]⟩ w1)) := Lib.hid (fun w1 => num_c 10000 1 10000 (num_in (by decide)) w1)
  have N25 : Hid (∀ w1, Calls Tryz.prog 30 #[.int .i64 25000] w1 (ValIs 1 25000 ⟨#[]⟩ w1)) := Lib.hid (fun w1 => num_c 25000 1 25000 (num_in (by decide)) w1)
  have N20 : Hid (∀ w1, Calls Tryz.prog 30 #[.int .i64 20000] w1 (ValIs 1 20000 ⟨#[]⟩ w1)) := Lib.hid (fun w1 => num_c 20000 1 20000 (num_in (by decide)) w1)
  have N72 : Hid (∀ w1, Calls Tryz.prog 30 #[.int .i64 72500] w1 (ValIs 1 72500 ⟨#[]⟩ w1)) := Lib.hid (fun w1 => num_c 72500 1 72500 (num_in (by decide)) w1)
  have HL := Lib.hid hL
  clear hL
  go_enter Tryz.func7, Tryz.ntmps7
  go_wp2_with fail
  refine (SA.out _).mono ?_
  rintro e w1 ⟨rfl, hb0⟩
  go_wp2_with fail
  refine (N10.out _).mono ?_
  rintro e w2 ⟨rfl, hb1⟩
  replace hb0 := on hb0 hb1
  go_wp2_with fail
  refine (SB.out _).mono ?_
  rintro e w3 ⟨rfl, hb1⟩
  replace hb0 := on hb0 hb1
  go_wp2_with fail
  refine (N25.out _).mono ?_
  rintro e w4 ⟨rfl, hb1⟩
  replace hb0 := on hb0 hb1
  clear hb1
  have hV := CellsAt.new w4 [.int .i64 2, .int .i64 0, .string ⟨#[97]⟩, .int .i64 1, .int .i64 10000, .string ⟨#[]⟩, .int .i64 2, .int .i64 0, .string ⟨#[98]⟩, .int .i64 1, .int .i64 25000, .string ⟨#[]⟩] 26
  have hT := newAt (w0 := w4.alloc (.cells #[.int .i64 2, .int .i64 0, .string ⟨#[97]⟩, .int .i64 1, .int .i64 10000, .string ⟨#[]⟩, .int .i64 2, .int .i64 0, .string ⟨#[98]⟩, .int .i64 1, .int .i64 25000, .string ⟨#[]⟩] 26)) (g := w4.heap.size + 1) (by simp) [.int .i64 2, .int .i64 2, .slice (some ⟨w4.heap.size, 0, none⟩) 4 4] 24
  have hb2 := on_alloc hb0 (.cells #[.int .i64 2, .int .i64 0, .string ⟨#[97]⟩, .int .i64 1, .int .i64 10000, .string ⟨#[]⟩, .int .i64 2, .int .i64 0, .string ⟨#[98]⟩, .int .i64 1, .int .i64 25000, .string ⟨#[]⟩] 26)
  replace hV := hV.on_alloc (.cells #[.int .i64 2, .int .i64 2, .slice (some ⟨w4.heap.size, 0, none⟩) 4 4] 24)
  have hb3 := on_alloc hb2 (.cells #[.int .i64 2, .int .i64 2, .slice (some ⟨w4.heap.size, 0, none⟩) 4 4] 24)
  have HZ := Lib.hid (vals_of_cells (L := L4) hV rfl (by decide) L4_fits)
  have HL1 := Lib.hid (HL.out.grown hb3)
  clear hb0 hb2 hV HL
  go_wp2_with fail
  generalize (w4.alloc (.cells #[.int .i64 2, .int .i64 0, .string ⟨#[97]⟩, .int .i64 1, .int .i64 10000, .string ⟨#[]⟩, .int .i64 2, .int .i64 0, .string ⟨#[98]⟩, .int .i64 1, .int .i64 25000, .string ⟨#[]⟩] 26)).alloc (.cells #[.int .i64 2, .int .i64 2, .slice (some ⟨w4.heap.size, 0, none⟩) 4 4] 24) = W at *
  obtain ⟨c0, c1, c2, _⟩ := hT.three
  have C0 := fun d os => cell_regrown c0 d os
  have C1 := fun d os => cell_regrown c1 d os
  have C2 := fun d os => cell_regrown c2 d os
  clear c0 c1 c2
  refine wp_region_mem 8 (fun d => match d with
    | 11 => some (Is (.agg #[.int .i64 2, .int .i64 0, .string ⟨#[98]⟩]))
    | 13 => some (Is (.tuple #[.int .i64 3, .bool true]))
    | _ => none) (by kernel_rfl) (by kernel_rfl) ?_
  simp only [List.take_succ_cons, List.take_zero, List.drop_succ_cons, List.drop_zero]
  repeat (first | ((with_reducible refine wpM_calm ?_ ?_ ?_ ?_); exact rfl; exact rfl; exact rfl; intro K hK; go_big_quiet_op; go_big_quiet_on) | ((with_reducible refine wpM_skip ?_ ?_); exact rfl; simp only [Act.put, List.setIfInBounds_toArray, List.set_cons_succ, List.set_cons_zero]))
  refine wpM_exact rfl rfl rfl Tryz.func27 (by kernel_rfl) (by kernel_rfl) (fun w1 _ _ => SB.out w1) rfl (by simp only [Act.put, List.setIfInBounds_toArray, List.set_cons_succ, List.set_cons_zero]; rfl) ?_
  repeat (first | ((with_reducible refine wpM_calm ?_ ?_ ?_ ?_); exact rfl; exact rfl; exact rfl; intro K hK; go_big_quiet_op; go_big_quiet_on) | ((with_reducible refine wpM_skip ?_ ?_); exact rfl; simp only [Act.put, List.setIfInBounds_toArray, List.set_cons_succ, List.set_cons_zero]))
  refine wpM_exact rfl rfl rfl Tryz.func14 (by kernel_rfl) (by kernel_rfl) (fun w1 hw1 _ => life_match _ w1 (HZ.out.on hw1)) rfl (by simp only [Act.put, List.setIfInBounds_toArray, List.set_cons_succ, List.set_cons_zero]; rfl) ?_
  repeat (first | ((with_reducible refine wpM_calm ?_ ?_ ?_ ?_); exact rfl; exact rfl; exact rfl; intro K hK; go_big_quiet_op; go_big_quiet_on) | ((with_reducible refine wpM_skip ?_ ?_); exact rfl; simp only [Act.put, List.setIfInBounds_toArray, List.set_cons_succ, List.set_cons_zero]))
  refine wpM_nil ?_
  intro w5 hw5 _
  clear C0 C1 C2
  replace hT := hT.on hw5
  replace hb3 := on hb3 hw5
  replace HZ := Lib.hid (HZ.out.on hw5)
  replace HL1 := Lib.hid (HL1.out.grown hw5)
  clear hw5
  go_wp2_with fail
  obtain ⟨c0, c1, c2, _⟩ := hT.three
  have C0 := fun d os => cell_regrown c0 d os
  have C1 := fun d os => cell_regrown c1 d os
  have C2 := fun d os => cell_regrown c2 d os
  clear c0 c1 c2 hT
  refine wp_region_mem 41 (fun d => match d with
    | 22 => some (Is (.agg #[.int .i64 2, .int .i64 0, .string ⟨#[98]⟩]))
    | 24 => some (Is (.agg #[.int .i64 1, .int .i64 25000, .string ⟨#[]⟩]))
    | 25 => some (Is (.agg #[.int .i64 1, .int .i64 25000, .string ⟨#[]⟩]))
    | 29 => some (Is (.agg #[.int .i64 1, .int .i64 10000, .string ⟨#[]⟩]))
    | 31 => some (Is (.agg #[.int .i64 1, .int .i64 25000, .string ⟨#[]⟩]))
    | 32 => some (Is (.agg #[.int .i64 1, .int .i64 25000, .string ⟨#[]⟩]))
    | 37 => some (Is (.agg #[.int .i64 2, .int .i64 0, .string ⟨#[62, 61, 49]⟩]))
    | 38 => some (Is (.agg #[.int .i64 1, .int .i64 20000, .string ⟨#[]⟩]))
    | 39 => some (Is (.agg #[.int .i64 1, .int .i64 20000, .string ⟨#[]⟩]))
    | 44 => some (Is (.agg #[.int .i64 2, .int .i64 0, .string ⟨#[60, 50]⟩]))
    | 45 => some (Is (.agg #[.int .i64 1, .int .i64 10000, .string ⟨#[]⟩]))
    | 46 => some (Is (.agg #[.int .i64 1, .int .i64 10000, .string ⟨#[]⟩]))
    | 52 => some (Is (.agg #[.int .i64 1, .int .i64 72500, .string ⟨#[]⟩]))
    | 53 => some (Is (.agg #[.int .i64 1, .int .i64 72500, .string ⟨#[]⟩]))
    | _ => none) (by kernel_rfl) (by kernel_rfl) ?_
  try simp only [List.append]
  simp only [List.take_succ_cons, List.take_zero, List.drop_succ_cons, List.drop_zero]
  repeat (first | ((with_reducible refine wpM_calm ?_ ?_ ?_ ?_); exact rfl; exact rfl; exact rfl; intro K hK; go_big_quiet_op; go_big_quiet_on) | ((with_reducible refine wpM_skip ?_ ?_); exact rfl; simp only [Act.put, List.setIfInBounds_toArray, List.set_cons_succ, List.set_cons_zero]))
  refine wpM_exact rfl rfl rfl Tryz.func27 (by kernel_rfl) (by kernel_rfl) (fun w1 _ _ => SB.out w1) rfl (by simp only [Act.put, List.setIfInBounds_toArray, List.set_cons_succ, List.set_cons_zero]; rfl) ?_
  repeat (first | ((with_reducible refine wpM_calm ?_ ?_ ?_ ?_); exact rfl; exact rfl; exact rfl; intro K hK; go_big_quiet_op; go_big_quiet_on) | ((with_reducible refine wpM_skip ?_ ?_); exact rfl; simp only [Act.put, List.setIfInBounds_toArray, List.set_cons_succ, List.set_cons_zero]))
  refine wpM_exact rfl rfl rfl Tryz.func17 (by kernel_rfl) (by kernel_rfl) (fun w1 hw1 _ => life_down _ w1 (HZ.out.on hw1)) rfl (by simp only [Act.put, List.setIfInBounds_toArray, List.set_cons_succ, List.set_cons_zero]; rfl) ?_
  repeat (first | ((with_reducible refine wpM_calm ?_ ?_ ?_ ?_); exact rfl; exact rfl; exact rfl; intro K hK; go_big_quiet_op; go_big_quiet_on) | ((with_reducible refine wpM_skip ?_ ?_); exact rfl; simp only [Act.put, List.setIfInBounds_toArray, List.set_cons_succ, List.set_cons_zero]))
  refine wpM_exact rfl rfl rfl Tryz.func30 (by kernel_rfl) (by kernel_rfl) (fun w1 _ _ => N25.out w1) rfl (by simp only [Act.put, List.setIfInBounds_toArray, List.set_cons_succ, List.set_cons_zero]; rfl) ?_
  repeat (first | ((with_reducible refine wpM_calm ?_ ?_ ?_ ?_); exact rfl; exact rfl; exact rfl; intro K hK; go_big_quiet_op; go_big_quiet_on) | ((with_reducible refine wpM_skip ?_ ?_); exact rfl; simp only [Act.put, List.setIfInBounds_toArray, List.set_cons_succ, List.set_cons_zero]))
  refine wpM_exact rfl rfl rfl Tryz.func30 (by kernel_rfl) (by kernel_rfl) (fun w1 _ _ => N10.out w1) rfl (by simp only [Act.put, List.setIfInBounds_toArray, List.set_cons_succ, List.set_cons_zero]; rfl) ?_
  repeat (first | ((with_reducible refine wpM_calm ?_ ?_ ?_ ?_); exact rfl; exact rfl; exact rfl; intro K hK; go_big_quiet_op; go_big_quiet_on) | ((with_reducible refine wpM_skip ?_ ?_); exact rfl; simp only [Act.put, List.setIfInBounds_toArray, List.set_cons_succ, List.set_cons_zero]))
  refine wpM_exact rfl rfl rfl Tryz.func18 (by kernel_rfl) (by kernel_rfl) (fun w1 hw1 _ => life_across _ w1 (HZ.out.on hw1)) rfl (by simp only [Act.put, List.setIfInBounds_toArray, List.set_cons_succ, List.set_cons_zero]; rfl) ?_
  repeat (first | ((with_reducible refine wpM_calm ?_ ?_ ?_ ?_); exact rfl; exact rfl; exact rfl; intro K hK; go_big_quiet_op; go_big_quiet_on) | ((with_reducible refine wpM_skip ?_ ?_); exact rfl; simp only [Act.put, List.setIfInBounds_toArray, List.set_cons_succ, List.set_cons_zero]))
  refine wpM_exact rfl rfl rfl Tryz.func30 (by kernel_rfl) (by kernel_rfl) (fun w1 _ _ => N25.out w1) rfl (by simp only [Act.put, List.setIfInBounds_toArray, List.set_cons_succ, List.set_cons_zero]; rfl) ?_
  repeat (first | ((with_reducible refine wpM_calm ?_ ?_ ?_ ?_); exact rfl; exact rfl; exact rfl; intro K hK; go_big_quiet_op; go_big_quiet_on) | ((with_reducible refine wpM_skip ?_ ?_); exact rfl; simp only [Act.put, List.setIfInBounds_toArray, List.set_cons_succ, List.set_cons_zero]))
  refine wpM_exact rfl rfl rfl Tryz.func27 (by kernel_rfl) (by kernel_rfl) (fun w1 _ _ => SG.out w1) rfl (by simp only [Act.put, List.setIfInBounds_toArray, List.set_cons_succ, List.set_cons_zero]; rfl) ?_
  repeat (first | ((with_reducible refine wpM_calm ?_ ?_ ?_ ?_); exact rfl; exact rfl; exact rfl; intro K hK; go_big_quiet_op; go_big_quiet_on) | ((with_reducible refine wpM_skip ?_ ?_); exact rfl; simp only [Act.put, List.setIfInBounds_toArray, List.set_cons_succ, List.set_cons_zero]))
  refine wpM_exact rfl rfl rfl Tryz.func21 (by kernel_rfl) (by kernel_rfl) (fun w1 hw1 _ => life_count _ w1 (HL1.out.grown hw1) (HZ.out.on hw1)) rfl (by simp only [Act.put, List.setIfInBounds_toArray, List.set_cons_succ, List.set_cons_zero]; rfl) ?_
  repeat (first | ((with_reducible refine wpM_calm ?_ ?_ ?_ ?_); exact rfl; exact rfl; exact rfl; intro K hK; go_big_quiet_op; go_big_quiet_on) | ((with_reducible refine wpM_skip ?_ ?_); exact rfl; simp only [Act.put, List.setIfInBounds_toArray, List.set_cons_succ, List.set_cons_zero]))
  refine wpM_exact rfl rfl rfl Tryz.func30 (by kernel_rfl) (by kernel_rfl) (fun w1 _ _ => N20.out w1) rfl (by simp only [Act.put, List.setIfInBounds_toArray, List.set_cons_succ, List.set_cons_zero]; rfl) ?_
  repeat (first | ((with_reducible refine wpM_calm ?_ ?_ ?_ ?_); exact rfl; exact rfl; exact rfl; intro K hK; go_big_quiet_op; go_big_quiet_on) | ((with_reducible refine wpM_skip ?_ ?_); exact rfl; simp only [Act.put, List.setIfInBounds_toArray, List.set_cons_succ, List.set_cons_zero]))
  refine wpM_exact rfl rfl rfl Tryz.func27 (by kernel_rfl) (by kernel_rfl) (fun w1 _ _ => SL.out w1) rfl (by simp only [Act.put, List.setIfInBounds_toArray, List.set_cons_succ, List.set_cons_zero]; rfl) ?_
  repeat (first | ((with_reducible refine wpM_calm ?_ ?_ ?_ ?_); exact rfl; exact rfl; exact rfl; intro K hK; go_big_quiet_op; go_big_quiet_on) | ((with_reducible refine wpM_skip ?_ ?_); exact rfl; simp only [Act.put, List.setIfInBounds_toArray, List.set_cons_succ, List.set_cons_zero]))
  refine wpM_exact rfl rfl rfl Tryz.func23 (by kernel_rfl) (by kernel_rfl) (fun w1 hw1 _ => life_sum _ w1 (HL1.out.grown hw1) (HZ.out.on hw1)) rfl (by simp only [Act.put, List.setIfInBounds_toArray, List.set_cons_succ, List.set_cons_zero]; rfl) ?_
  repeat (first | ((with_reducible refine wpM_calm ?_ ?_ ?_ ?_); exact rfl; exact rfl; exact rfl; intro K hK; go_big_quiet_op; go_big_quiet_on) | ((with_reducible refine wpM_skip ?_ ?_); exact rfl; simp only [Act.put, List.setIfInBounds_toArray, List.set_cons_succ, List.set_cons_zero]))
  refine wpM_exact rfl rfl rfl Tryz.func30 (by kernel_rfl) (by kernel_rfl) (fun w1 _ _ => N10.out w1) rfl (by simp only [Act.put, List.setIfInBounds_toArray, List.set_cons_succ, List.set_cons_zero]; rfl) ?_
  repeat (first | ((with_reducible refine wpM_calm ?_ ?_ ?_ ?_); exact rfl; exact rfl; exact rfl; intro K hK; go_big_quiet_op; go_big_quiet_on) | ((with_reducible refine wpM_skip ?_ ?_); exact rfl; simp only [Act.put, List.setIfInBounds_toArray, List.set_cons_succ, List.set_cons_zero]))
  refine wpM_exact rfl rfl rfl Tryz.func28 (by kernel_rfl) (by kernel_rfl) (fun w1 hw1 _ => life_prod _ w1 (HZ.out.on hw1)) rfl (by simp only [Act.put, List.setIfInBounds_toArray, List.set_cons_succ, List.set_cons_zero]; rfl) ?_
  repeat (first | ((with_reducible refine wpM_calm ?_ ?_ ?_ ?_); exact rfl; exact rfl; exact rfl; intro K hK; go_big_quiet_op; go_big_quiet_on) | ((with_reducible refine wpM_skip ?_ ?_); exact rfl; simp only [Act.put, List.setIfInBounds_toArray, List.set_cons_succ, List.set_cons_zero]))
  refine wpM_exact rfl rfl rfl Tryz.func30 (by kernel_rfl) (by kernel_rfl) (fun w1 _ _ => N72.out w1) rfl (by simp only [Act.put, List.setIfInBounds_toArray, List.set_cons_succ, List.set_cons_zero]; rfl) ?_
  repeat (first | ((with_reducible refine wpM_calm ?_ ?_ ?_ ?_); exact rfl; exact rfl; exact rfl; intro K hK; go_big_quiet_op; go_big_quiet_on) | ((with_reducible refine wpM_skip ?_ ?_); exact rfl; simp only [Act.put, List.setIfInBounds_toArray, List.set_cons_succ, List.set_cons_zero]))
  refine wpM_nil ?_
  intro w6 hw6 _
  clear C0 C1 C2
  go_wp2
  go_ret
  exact ⟨rfl, on hb3 hw6⟩
end Go.Proofs.YtbjomidkeignjaaGreatDoor.Lok
