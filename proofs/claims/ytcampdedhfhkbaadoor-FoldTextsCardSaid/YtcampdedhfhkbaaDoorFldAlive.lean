/- The check of life of the laws on sums of values; how a law's call ends. -/
import Derived.Test.YtcampdedhfhkbaaDoorGb
import Derived.Test.YtcampdedhfhkbaaDoorGd
import Derived.Test.YtcampdedhfhkbaaDoorGe
namespace Go.Proofs.YtcampdedhfhkbaaDoor.Fld
open Go.RowKit Kit Reg Dec Dig Val Txt

/-- what a law's call answers -/
def LawEnd (w : World) : Ending → World → Prop := fun e w' => e = .returned (.bool true) ∧ Below w.heap.size w w'
def xT : ByteArray := ⟨#[120]⟩
def L1 : List Vl := [⟨1, 20000, ⟨#[]⟩⟩, ⟨2, 0, ⟨#[120]⟩⟩, ⟨3, 1, ⟨#[]⟩⟩, ⟨1, -50000, ⟨#[]⟩⟩, ⟨0, 0, ⟨#[]⟩⟩]
def L2 : List Vl := [⟨1, 1, ⟨#[]⟩⟩, ⟨4, 5, ⟨#[]⟩⟩]
theorem L1_may : ∀ v ∈ L1, v.may := by
  intro v hv
  simp only [L1, List.mem_cons, List.not_mem_nil, or_false] at hv
  rcases hv with rfl | rfl | rfl | rfl | rfl <;> (unfold Vl.may; decide)
theorem L2_may : ∀ v ∈ L2, v.may := by
  intro v hv
  simp only [L2, List.mem_cons, List.not_mem_nil, or_false] at hv
  rcases hv with rfl | rfl <;> (unfold Vl.may; decide)
theorem L1_fits : ∀ v ∈ L1, v.fits := by
  intro v hv
  simp only [L1, List.mem_cons, List.not_mem_nil, or_false] at hv
  rcases hv with rfl | rfl | rfl | rfl | rfl <;> exact ⟨by decide, by decide⟩
theorem L2_fits : ∀ v ∈ L2, v.fits := by
  intro v hv
  simp only [L2, List.mem_cons, List.not_mem_nil, or_false] at hv
  rcases hv with rfl | rfl <;> exact ⟨by decide, by decide⟩
theorem life_sum : allV addD 0 L1 = (1, -30000) := by decide +kernel
theorem life_product : allV mulD 10000 L1 = (1, -100000) := by decide +kernel
theorem life_squares : allV sqD 0 L1 = (1, 290000) := by decide +kernel
theorem life_mean : meanV L1 = (1, -15000) := by decide +kernel
theorem life_count : countF 2 L1 = 4 := by decide +kernel
theorem life_bad : allV addD 0 L2 = (4, 5) := by decide +kernel
theorem text_two : textD 20000 = [50] := by
  rw [textD_may (by decide)]
  show sgnL false ++ (Lib.decDigits 2 ++ fracL 0) = _
  rw [Lib.decDigits_one (by omega)]
  rfl
theorem text_five : textD (-50000) = [45, 53] := by
  rw [textD_may (by decide)]
  show sgnL true ++ (Lib.decDigits 5 ++ fracL 0) = _
  rw [Lib.decDigits_one (by omega)]
  rfl
theorem life_words : (L1.map wordsF).flatten = [50, 120, 84, 82, 85, 69, 45, 53] := by
  show (wordsF ⟨1, 20000, ⟨#[]⟩⟩ ++ (wordsF ⟨2, 0, ⟨#[120]⟩⟩ ++ (wordsF ⟨3, 1, ⟨#[]⟩⟩ ++ (wordsF ⟨1, -50000, ⟨#[]⟩⟩ ++ (wordsF ⟨0, 0, ⟨#[]⟩⟩ ++ []))))) = _
  rw [show wordsF ⟨1, 20000, ⟨#[]⟩⟩ = [50] from text_two, show wordsF ⟨1, -50000, ⟨#[]⟩⟩ = [45, 53] from text_five]
  rfl
theorem L1_nof : NoF L1 := by
  intro v hv
  simp only [L1, List.mem_cons, List.not_mem_nil, or_false] at hv
  rcases hv with rfl | rfl | rfl | rfl | rfl <;> decide
theorem life_concat : concatV L1 = (2, 0, [50, 120, 84, 82, 85, 69, 45, 53]) := concatV_in L1_nof (by rw [life_words]; rfl)
/-- values in a block of their own -/
theorem ValsR.cells {w : World} {g : Nat} {L : List Vl} (h : CellsAt w g (flatV L)) (hn : L.length ≤ 1000) (hf : ∀ v ∈ L, v.fits) : ValsR w (some ⟨g, 0, none⟩) L.length L :=
  ⟨rfl, hn, hf, fun _ => ⟨g, 0, rfl, h.1, fun k v hk j x hj => by
    have e := (h.2 (k * 3 + j) x (flatV_at L k v hk j x hj)).1
    rw [Nat.zero_add]
    exact e⟩⟩
set_option maxRecDepth 100000 in
set_option maxHeartbeats 4000000 in
theorem alive_c (w : World) (hL : Dig.Libs w) : Calls Tryd.prog 8 #[] w (LawEnd w) := by
  have KA : Hid (∀ w1, Calls Tryd.prog 28 #[.int .i64 20000] w1 (ValIs 1 20000 ⟨#[]⟩ w1)) := Lib.hid (fun w1 => num_c 20000 1 20000 (num_in (by decide)) w1)
  have KB : Hid (∀ w1, Calls Tryd.prog 29 #[.string ⟨#[120]⟩] w1 (ValIs 2 0 ⟨#[120]⟩ w1)) := Lib.hid (fun w1 => str_c ⟨#[120]⟩ 2 0 ⟨#[120]⟩ (str_in (by decide)) w1)
  have KC : Hid (∀ w1, Calls Tryd.prog 30 #[.bool true] w1 (ValIs 3 1 ⟨#[]⟩ w1)) := Lib.hid (fun w1 => bool_c true w1)
  have KD : Hid (∀ w1, Calls Tryd.prog 28 #[.int .i64 (-50000)] w1 (ValIs 1 (-50000) ⟨#[]⟩ w1)) := Lib.hid (fun w1 => num_c (-50000) 1 (-50000) (num_in (by decide)) w1)
  have S0 : Hid (∀ g w1, ValsR w1 (some ⟨g, 0, none⟩) 5 L1 → Calls Tryd.prog 12 #[.slice (some ⟨g, 0, none⟩) 5 5] w1 (ValIs 1 (-30000) ⟨#[]⟩ w1)) := Lib.hid (fun g w1 hz => sum_c _ 5 5 L1 L1_may 1 (-30000) life_sum w1 hz)
  have N0 : Hid (∀ w1, Calls Tryd.prog 28 #[.int .i64 (-30000)] w1 (ValIs 1 (-30000) ⟨#[]⟩ w1)) := Lib.hid (fun w1 => num_c (-30000) 1 (-30000) (num_in (by decide)) w1)
  have S1 : Hid (∀ g w1, ValsR w1 (some ⟨g, 0, none⟩) 5 L1 → Calls Tryd.prog 14 #[.slice (some ⟨g, 0, none⟩) 5 5] w1 (ValIs 1 (-100000) ⟨#[]⟩ w1)) := Lib.hid (fun g w1 hz => product_c _ 5 5 L1 L1_may 1 (-100000) life_product w1 hz)
  have N1 : Hid (∀ w1, Calls Tryd.prog 28 #[.int .i64 (-100000)] w1 (ValIs 1 (-100000) ⟨#[]⟩ w1)) := Lib.hid (fun w1 => num_c (-100000) 1 (-100000) (num_in (by decide)) w1)
  have S2 : Hid (∀ g w1, ValsR w1 (some ⟨g, 0, none⟩) 5 L1 → Calls Tryd.prog 15 #[.slice (some ⟨g, 0, none⟩) 5 5] w1 (ValIs 1 290000 ⟨#[]⟩ w1)) := Lib.hid (fun g w1 hz => squares_c _ 5 5 L1 L1_may 1 290000 life_squares w1 hz)
  have N2 : Hid (∀ w1, Calls Tryd.prog 28 #[.int .i64 290000] w1 (ValIs 1 290000 ⟨#[]⟩ w1)) := Lib.hid (fun w1 => num_c 290000 1 290000 (num_in (by decide)) w1)
  have S3 : Hid (∀ g w1, ValsR w1 (some ⟨g, 0, none⟩) 5 L1 → Calls Tryd.prog 19 #[.slice (some ⟨g, 0, none⟩) 5 5] w1 (ValIs 1 (-15000) ⟨#[]⟩ w1)) := Lib.hid (fun g w1 hz => mean_c _ 5 5 L1 L1_may 1 (-15000) life_mean w1 hz)
  have N3 : Hid (∀ w1, Calls Tryd.prog 28 #[.int .i64 (-15000)] w1 (ValIs 1 (-15000) ⟨#[]⟩ w1)) := Lib.hid (fun w1 => num_c (-15000) 1 (-15000) (num_in (by decide)) w1)
  have S4 : Hid (∀ g w1, ValsR w1 (some ⟨g, 0, none⟩) 5 L1 → Calls Tryd.prog 21 #[.slice (some ⟨g, 0, none⟩) 5 5, .int .i64 2] w1 (fun e w' => e = .returned (.int .i64 4) ∧ Below w1.heap.size w1 w')) := Lib.hid (fun g w1 hz => count_c 2 _ 5 5 L1 L1_may 4 life_count w1 hz)
  have S5 : Hid (∀ g w1, ValsR w1 (some ⟨g, 0, none⟩) 5 L1 → Dig.Libs w1 → Calls Tryd.prog 23 #[.slice (some ⟨g, 0, none⟩) 5 5] w1 (ValIs 2 0 ⟨#[50, 120, 84, 82, 85, 69, 45, 53]⟩ w1)) := Lib.hid (fun g w1 hz hL => concat_c _ 5 5 L1 L1_may 2 0 _ life_concat w1 hz hL)
  have N5 : Hid (∀ w1, Calls Tryd.prog 29 #[.string ⟨#[50, 120, 84, 82, 85, 69, 45, 53]⟩] w1 (ValIs 2 0 ⟨#[50, 120, 84, 82, 85, 69, 45, 53]⟩ w1)) := Lib.hid (fun w1 => str_c ⟨#[50, 120, 84, 82, 85, 69, 45, 53]⟩ 2 0 ⟨#[50, 120, 84, 82, 85, 69, 45, 53]⟩ (str_in (by decide)) w1)
  have KE : Hid (∀ w1, Calls Tryd.prog 28 #[.int .i64 1] w1 (ValIs 1 1 ⟨#[]⟩ w1)) := Lib.hid (fun w1 => num_c 1 1 1 (num_in (by decide)) w1)
  have KF : Hid (∀ w1, Calls Tryd.prog 31 #[.int .i64 5] w1 (ValIs 4 5 ⟨#[]⟩ w1)) := Lib.hid (fun w1 => bad_c 5 w1)
  have S6 : Hid (∀ g w1, ValsR w1 (some ⟨g, 0, none⟩) 2 L2 → Calls Tryd.prog 12 #[.slice (some ⟨g, 0, none⟩) 2 2] w1 (ValIs 4 5 ⟨#[]⟩ w1)) := Lib.hid (fun g w1 hz => sum_c _ 2 2 L2 L2_may 4 5 life_bad w1 hz)
  have HL := Lib.hid hL
  clear hL
  have hb0 := Below.refl w.heap.size w
  go_enter Tryd.func8, Tryd.ntmps8
  go_wp2_with fail
  refine (KA.out _).mono ?_
  rintro e w1 ⟨rfl, hb⟩
  replace hb0 := on hb0 hb
  clear hb KA
  go_wp2_with fail
  refine (KB.out _).mono ?_
  rintro e w2 ⟨rfl, hb⟩
  replace hb0 := on hb0 hb
  clear hb KB
  go_wp2_with fail
  refine (KC.out _).mono ?_
  rintro e w3 ⟨rfl, hb⟩
  replace hb0 := on hb0 hb
  clear hb KC
  go_wp2_with fail
  refine (KD.out _).mono ?_
  rintro e w4 ⟨rfl, hb⟩
  replace hb0 := on hb0 hb
  clear hb KD
  obtain ⟨g, hg⟩ : ∃ g, w4.heap.size = g := ⟨_, rfl⟩
  have HV : Hid (ValsR (World.alloc w4 (.cells #[.int .i64 1, .int .i64 20000, .string ⟨#[]⟩, .int .i64 2, .int .i64 0, .string ⟨#[120]⟩, .int .i64 3, .int .i64 1, .string ⟨#[]⟩, .int .i64 1, .int .i64 (-50000), .string ⟨#[]⟩, .int .i64 0, .int .i64 0, .string ⟨#[]⟩] 27)) (some ⟨w4.heap.size, 0, none⟩) 5 L1) := Lib.hid (ValsR.cells (L := L1) (show CellsAt (World.alloc w4 (.cells #[.int .i64 1, .int .i64 20000, .string ⟨#[]⟩, .int .i64 2, .int .i64 0, .string ⟨#[120]⟩, .int .i64 3, .int .i64 1, .string ⟨#[]⟩, .int .i64 1, .int .i64 (-50000), .string ⟨#[]⟩, .int .i64 0, .int .i64 0, .string ⟨#[]⟩] 27)) w4.heap.size (flatV L1) from CellsAt.new w4 [.int .i64 1, .int .i64 20000, .string ⟨#[]⟩, .int .i64 2, .int .i64 0, .string ⟨#[120]⟩, .int .i64 3, .int .i64 1, .string ⟨#[]⟩, .int .i64 1, .int .i64 (-50000), .string ⟨#[]⟩, .int .i64 0, .int .i64 0, .string ⟨#[]⟩] 27) (by decide) L1_fits)
  replace hb0 := on_alloc hb0 (.cells #[.int .i64 1, .int .i64 20000, .string ⟨#[]⟩, .int .i64 2, .int .i64 0, .string ⟨#[120]⟩, .int .i64 3, .int .i64 1, .string ⟨#[]⟩, .int .i64 1, .int .i64 (-50000), .string ⟨#[]⟩, .int .i64 0, .int .i64 0, .string ⟨#[]⟩] 27)
  go_wp2_with fail
  generalize World.alloc w4 (.cells #[.int .i64 1, .int .i64 20000, .string ⟨#[]⟩, .int .i64 2, .int .i64 0, .string ⟨#[120]⟩, .int .i64 3, .int .i64 1, .string ⟨#[]⟩, .int .i64 1, .int .i64 (-50000), .string ⟨#[]⟩, .int .i64 0, .int .i64 0, .string ⟨#[]⟩] 27) = W at *
  rw [hg] at *
  clear hg
  refine (S0.out _ _ HV.out).mono ?_
  rintro e w5 ⟨rfl, hb⟩
  replace hb0 := on hb0 hb
  replace HV := Lib.hid (HV.out.on hb)
  clear hb S0
  go_wp2_with fail
  refine (N0.out _).mono ?_
  rintro e w6 ⟨rfl, hb⟩
  replace hb0 := on hb0 hb
  replace HV := Lib.hid (HV.out.on hb)
  clear hb N0
  go_wp2_with fail
  refine (S1.out _ _ HV.out).mono ?_
  rintro e w7 ⟨rfl, hb⟩
  replace hb0 := on hb0 hb
  replace HV := Lib.hid (HV.out.on hb)
  clear hb S1
  go_wp2_with fail
  refine (N1.out _).mono ?_
  rintro e w8 ⟨rfl, hb⟩
  replace hb0 := on hb0 hb
  replace HV := Lib.hid (HV.out.on hb)
  clear hb N1
  go_wp2_with fail
  refine (S2.out _ _ HV.out).mono ?_
  rintro e w9 ⟨rfl, hb⟩
  replace hb0 := on hb0 hb
  replace HV := Lib.hid (HV.out.on hb)
  clear hb S2
  go_wp2_with fail
  refine (N2.out _).mono ?_
  rintro e w10 ⟨rfl, hb⟩
  replace hb0 := on hb0 hb
  replace HV := Lib.hid (HV.out.on hb)
  clear hb N2
  go_wp2_with fail
  refine (S3.out _ _ HV.out).mono ?_
  rintro e w11 ⟨rfl, hb⟩
  replace hb0 := on hb0 hb
  replace HV := Lib.hid (HV.out.on hb)
  clear hb S3
  go_wp2_with fail
  refine (N3.out _).mono ?_
  rintro e w12 ⟨rfl, hb⟩
  replace hb0 := on hb0 hb
  replace HV := Lib.hid (HV.out.on hb)
  clear hb N3
  go_wp2_with fail
  refine (S4.out _ _ HV.out).mono ?_
  rintro e w13 ⟨rfl, hb⟩
  replace hb0 := on hb0 hb
  replace HV := Lib.hid (HV.out.on hb)
  clear hb S4
  go_wp2_with fail
  refine (S5.out _ _ HV.out (HL.out.grown hb0)).mono ?_
  rintro e w14 ⟨rfl, hb⟩
  replace hb0 := on hb0 hb
  replace HV := Lib.hid (HV.out.on hb)
  clear hb S5
  go_wp2_with fail
  refine (N5.out _).mono ?_
  rintro e w15 ⟨rfl, hb⟩
  replace hb0 := on hb0 hb
  replace HV := Lib.hid (HV.out.on hb)
  clear hb N5
  clear HV
  go_wp2_with fail
  refine (KE.out _).mono ?_
  rintro e w16 ⟨rfl, hb⟩
  replace hb0 := on hb0 hb
  clear hb KE
  go_wp2_with fail
  refine (KF.out _).mono ?_
  rintro e w17 ⟨rfl, hb⟩
  replace hb0 := on hb0 hb
  clear hb
  have HV : Hid (ValsR (World.alloc w17 (.cells #[.int .i64 1, .int .i64 1, .string ⟨#[]⟩, .int .i64 4, .int .i64 5, .string ⟨#[]⟩] 27)) (some ⟨w17.heap.size, 0, none⟩) 2 L2) := Lib.hid (ValsR.cells (L := L2) (show CellsAt (World.alloc w17 (.cells #[.int .i64 1, .int .i64 1, .string ⟨#[]⟩, .int .i64 4, .int .i64 5, .string ⟨#[]⟩] 27)) w17.heap.size (flatV L2) from CellsAt.new w17 [.int .i64 1, .int .i64 1, .string ⟨#[]⟩, .int .i64 4, .int .i64 5, .string ⟨#[]⟩] 27) (by decide) L2_fits)
  replace hb0 := on_alloc hb0 (.cells #[.int .i64 1, .int .i64 1, .string ⟨#[]⟩, .int .i64 4, .int .i64 5, .string ⟨#[]⟩] 27)
  go_wp2_with fail
  generalize World.alloc w17 (.cells #[.int .i64 1, .int .i64 1, .string ⟨#[]⟩, .int .i64 4, .int .i64 5, .string ⟨#[]⟩] 27) = W2 at *
  refine (S6.out _ _ HV.out).mono ?_
  rintro e w18 ⟨rfl, hb⟩
  replace hb0 := on hb0 hb
  clear hb S6 HV
  go_wp2_with fail
  refine (KF.out _).mono ?_
  rintro e w19 ⟨rfl, hb⟩
  replace hb0 := on hb0 hb
  clear hb KF
  go_wp2_with fail
  go_ret
  exact ⟨rfl, hb0⟩
end Go.Proofs.YtcampdedhfhkbaaDoor.Fld
