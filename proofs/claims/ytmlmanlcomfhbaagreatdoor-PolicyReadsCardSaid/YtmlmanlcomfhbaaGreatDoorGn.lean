/- A policy's text: what the reference's Text answers.
   Two policies that read as one are the same: what the reference's Same answers of them.
   A policy in memory: rows of one's own that hold its zones, users and grants, each in a block of its own; readers of words whose answers are known ahead. -/
import Derived.Deep.QuietTactic
import Derived.BigQuiet
import Derived.Deep.AppendLies
import Derived.Test.YtmlmanlcomfhbaaGreatDoorGl
import Derived.Test.YtmlmanlcomfhbaaGreatDoorGm
import Derived.Test.YtmlmanlcomfhbaaGreatDoorGj
import Derived.Test.YtmlmanlcomfhbaaGreatDoorLabRefParse
import Derived.Test.YtmlmanlcomfhbaaGreatDoorGh
import Derived.Test.YtmlmanlcomfhbaaGreatDoorGc
namespace Go.Proofs.YtmlmanlcomfhbaaGreatDoor.Pol
open Go.RowKit Kit Reg
open Go.Proofs.YtmlmanlcomfhbaaGreatDoor.Zone (Zn ZonesR)
open Go.Proofs.YtmlmanlcomfhbaaGreatDoor.Right (Us Gr UsersR GrantsR)
open Go.Proofs.YtmlmanlcomfhbaaGreatDoor.Cats (U U_zero)

theorem span_text (a b c d : Int) (w : World) : Calls Tryz.prog 32 #[.agg #[.int .i64 a, .int .i64 b, .int .i64 c, .int .i64 d]] w fun e w' => e = .returned (.string ⟨(Span.textI a b c d).toArray⟩) ∧ Below w.heap.size w w' := Span.rtext_c a b c d w
theorem row_text (r : Int) (h : 1 ≤ r ∧ r ≤ 999) (w : World) : Calls Tryz.prog 31 #[.int .i64 r] w fun e w' => e = .returned (.string ⟨(rowT r).toArray⟩) ∧ Below w.heap.size w w' := Addr.rnum_c (r - 1).toNat (by omega) r (by omega) w
theorem text_snoc {α : Type} (f : α → Ln) (T : List UInt8) (zs : List α) (k : Nat) (z : α) (h : zs[k]? = some z) : T ++ ((zs.take (k + 1)).map fun z => (f z).text).flatten = (T ++ ((zs.take k).map fun z => (f z).text).flatten) ++ (f z).text := by
  rw [List.take_add_one, h]
  simp
theorem cat_list (x : ByteArray) (l : List UInt8) : (x ++ ⟨l.toArray⟩).data.toList = x.data.toList ++ l := by simp
theorem mk_cat (a b : List UInt8) : (⟨a.toArray⟩ : ByteArray) ++ ⟨b.toArray⟩ = ⟨(a ++ b).toArray⟩ := Kit.cat a b
theorem str_list {x : ByteArray} {l : List UInt8} (h : x.data.toList = l) : x = ⟨l.toArray⟩ := bytes_inj h
theorem labT_short (l : Int) (s : Nat) : (Cats.labT l s).length ≤ 200 := by
  unfold Cats.labT
  have h1 := Cats.digs_length l.toNat
  have h2 := Cats.textL_length s
  split
  · simp
  · split
    · simp
    · split
      · omega
      · rw [List.length_append, List.length_cons]; omega
theorem size_five (x a b c d e : ByteArray) : (((((x ++ a) ++ b) ++ c) ++ d) ++ e).size = x.size + a.size + b.size + c.size + d.size + e.size := by simp [ByteArray.size_append]
theorem size_seven (x a b c d e f g : ByteArray) : (((((((x ++ a) ++ b) ++ c) ++ d) ++ e) ++ f) ++ g).size = x.size + a.size + b.size + c.size + d.size + e.size + f.size + g.size := by simp [ByteArray.size_append]
theorem mk_size (l : List UInt8) : (⟨l.toArray⟩ : ByteArray).size = l.length := by rw [← list_size]
theorem size_z : (⟨#[122, 111, 110, 101, 32]⟩ : ByteArray).size = 5 := rfl
theorem size_u : (⟨#[117, 115, 101, 114, 32]⟩ : ByteArray).size = 5 := rfl
theorem size_g : (⟨#[103, 114, 97, 110, 116, 32]⟩ : ByteArray).size = 6 := rfl
theorem size_b : (⟨#[32]⟩ : ByteArray).size = 1 := rfl
theorem size_n : (⟨#[10]⟩ : ByteArray).size = 1 := rfl
theorem name_short {t : List UInt8} (h : Right.nameB t = true) : t.length ≤ 16 := by
  simp only [Right.nameB, Bool.and_eq_true, decide_eq_true_eq] at h
  exact h.1.1.2
theorem text_all (p : Pl) : textAll p = (((Ln.grid p.rows p.cols).text ++ (p.zs.map fun z => (Ln.zone z).text).flatten) ++ (p.us.map fun z => (Ln.user z).text).flatten) ++ (p.gs.map fun z => (Ln.grant z).text).flatten := by
  simp [textAll, linesOf, List.map_map, Function.comp_def]

theorem field_err (x y : Int) (w : World) : (Instr.field 35 (.agg #[.int .i64 x, .int .i64 y]) 1).run Tryz.prog w = .ok (.int .i64 y) w := by kernel_rfl
set_option maxRecDepth 100000 in
set_option maxHeartbeats 4000000 in
theorem rtextP_c (p : Pl) (A1 : Option Addr) (n1 c1 : Nat) (A2 : Option Addr) (n2 c2 : Nat) (A3 : Option Addr) (n3 c3 : Nat) (w : World) (hz : ZonesR w A1 n1 p.zs) (hu : UsersR w A2 n2 p.us) (hg : GrantsR w A3 n3 p.gs) :
    Calls Tryz.prog 13 #[.agg #[.int .i64 p.rows, .int .i64 p.cols, .slice A1 n1 c1, .slice A2 n2 c2, .slice A3 n3 c3]] w fun e w' => e = .returned (.string ⟨(textP p).toArray⟩) ∧ Below w.heap.size w w' := by
  have hb0 := below1 w (.cells #[.int .i64 p.rows, .int .i64 p.cols, .slice A1 n1 c1, .slice A2 n2 c2, .slice A3 n3 c3] 26)
  have kp := CellsAt.new w [.int .i64 p.rows, .int .i64 p.cols, .slice A1 n1 c1, .slice A2 n2 c2, .slice A3 n3 c3] 26
  change CellsAt (w.alloc (.cells #[.int .i64 p.rows, .int .i64 p.cols, .slice A1 n1 c1, .slice A2 n2 c2, .slice A3 n3 c3] 26)) w.heap.size [.int .i64 p.rows, .int .i64 p.cols, .slice A1 n1 c1, .slice A2 n2 c2, .slice A3 n3 c3] at kp
  have HZ := Lib.hid hz
  have HU := Lib.hid hu
  have HG := Lib.hid hg
  have HW := Lib.hid (fun w1 h1 h2 h3 => rwrongP_c p A1 n1 c1 A2 n2 c2 A3 n3 c3 w1 h1 h2 h3)
  have hfld := field_err
  have lz := hz.1
  have lu := hu.1
  have lg := hg.1
  have mz := hz.2.1
  have mu := hu.2.1
  have mg := hg.2.1
  clear hz hu hg
  obtain ⟨p0, p1, p2, p3, p4, _⟩ := kp.five
  by_cases hw : (wrongP p).2 = 0
  case neg =>
    rw [textP, if_neg hw]
    have hn : ((wrongP p).2 == 0) = false := by rw [beq_eq_false_iff_ne]; exact hw
    generalize wrongP p = P at *
    clear hw
    go_enter Tryz.func13, Tryz.ntmps13
    go_wp2_with fail
    generalize w.alloc (.cells #[.int .i64 p.rows, .int .i64 p.cols, .slice A1 n1 c1, .slice A2 n2 c2, .slice A3 n3 c3] 26) = W at *
    refine (HW.out _ (HZ.out.on hb0) (HU.out.on hb0) (HG.out.on hb0)).mono ?_
    rintro e w1 ⟨rfl, hb1⟩
    go_wp2
    go_ret
    exact ⟨rfl, on hb0 hb1⟩
  case pos =>
    obtain ⟨hs, _, _, _⟩ := wrongP_ok hw
    simp only [sizeB, Bool.and_eq_true, decide_eq_true_eq] at hs
    have HR := Lib.hid (fun w1 => row_text p.rows (by omega) w1)
    have HC := Lib.hid (fun w1 => row_text p.cols (by omega) w1)
    have hok := wrongP_ok hw
    have HNU : Hid (∀ u ∈ p.us, u.name.size ≤ 16) := Lib.hid fun u hu => by
      have := name_short (wrongU_ok hok.2.2.1 u hu).1
      rwa [list_size] at this
    have HNG : Hid (∀ g ∈ p.gs, g.name.size ≤ 16) := Lib.hid fun g hg => by
      have h0 := (wrongG_ok hok.2.2.2 g hg).1
      rcases Right.findI_or p.us g.name 0 with e | ⟨i, u, hi, e, _⟩
      · omega
      · rw [← e]
        exact HNU.out u (List.mem_of_getElem? hi)
    clear hok
    have HT : Hid (textP p = textAll p) := Lib.hid (by rw [textP, if_pos hw])
    have HTA := Lib.hid (text_all p)
    have hl1 : (rowT p.rows).length ≤ 3 := (Addr.num_length _).2
    have hl2 : (rowT p.cols).length ≤ 3 := (Addr.num_length _).2
    have HGr : Hid ((Ln.grid p.rows p.cols).text = gridW ++ 32 :: (rowT p.rows ++ 32 :: rowT p.cols) ++ [10]) := Lib.hid rfl
    have hw2 : (wrongP p).2 = 0 := hw
    generalize hP : wrongP p = P at *
    obtain ⟨pa, pe⟩ := P
    simp only at hw2
    subst hw2
    clear hw hP
    generalize (Ln.grid p.rows p.cols).text = TG at *
    generalize rowT p.rows = t1 at *
    generalize rowT p.cols = t2 at *
    generalize textP p = TP at *
    generalize textAll p = TA at *
    generalize p.rows = r at *
    generalize p.cols = q at *
    go_enter Tryz.func13, Tryz.ntmps13
    go_wp2_with fail
    generalize w.alloc (.cells #[.int .i64 r, .int .i64 q, .slice A1 n1 c1, .slice A2 n2 c2, .slice A3 n3 c3] 26) = W at *
    refine (HW.out _ (HZ.out.on hb0) (HU.out.on hb0) (HG.out.on hb0)).mono ?_
    rintro e w1 ⟨rfl, hb1⟩
    replace hb0 := on hb0 hb1
    replace kp := kp.on hb1
    clear hb1 p0 p1 p2 p3 p4 HW
    obtain ⟨p0, p1, p2, p3, p4, _⟩ := kp.five
    have P0 := fun d os => cell_regrown p0 d os
    have P1 := fun d os => cell_regrown p1 d os
    clear p0 p1 p2 p3 p4
    go_wp2_with fail
    refine wp_region_mem 11 (fun d => match d with
      | 13 => some (Is (.string ⟨t1.toArray⟩))
      | 18 => some (Is (.string ⟨t2.toArray⟩))
      | _ => none) (by kernel_rfl) (by kernel_rfl) ?_
    simp only [List.take_succ_cons, List.take_zero, List.drop_succ_cons, List.drop_zero]
    repeat (first | ((with_reducible refine wpM_calm ?_ ?_ ?_ ?_); exact rfl; exact rfl; exact rfl; intro K hK; go_big_quiet_op; go_big_quiet_on) | ((with_reducible refine wpM_skip ?_ ?_); exact rfl; simp only [Act.put, List.setIfInBounds_toArray, List.set_cons_succ, List.set_cons_zero]))
    refine wpM_exact rfl rfl rfl Tryz.func31 (by kernel_rfl) (by kernel_rfl) (fun w1 _ _ => HR.out w1) rfl (by simp only [Act.put, List.setIfInBounds_toArray, List.set_cons_succ, List.set_cons_zero]; rfl) ?_
    repeat (first | ((with_reducible refine wpM_calm ?_ ?_ ?_ ?_); exact rfl; exact rfl; exact rfl; intro K hK; go_big_quiet_op; go_big_quiet_on) | ((with_reducible refine wpM_skip ?_ ?_); exact rfl; simp only [Act.put, List.setIfInBounds_toArray, List.set_cons_succ, List.set_cons_zero]))
    refine wpM_exact rfl rfl rfl Tryz.func31 (by kernel_rfl) (by kernel_rfl) (fun w1 _ _ => HC.out w1) rfl (by simp only [Act.put, List.setIfInBounds_toArray, List.set_cons_succ, List.set_cons_zero]; rfl) ?_
    repeat (first | ((with_reducible refine wpM_calm ?_ ?_ ?_ ?_); exact rfl; exact rfl; exact rfl; intro K hK; go_big_quiet_op; go_big_quiet_on) | ((with_reducible refine wpM_skip ?_ ?_); exact rfl; simp only [Act.put, List.setIfInBounds_toArray, List.set_cons_succ, List.set_cons_zero]))
    refine wpM_nil ?_
    intro w4 hb4 _
    replace hb0 := on hb0 hb4
    replace kp := kp.on hb4
    clear hb4 P0 P1 HR HC
    go_wp2_with fail
    have hx0 : Hid ((((((⟨#[103, 114, 105, 100, 32]⟩ : ByteArray) ++ ⟨t1.toArray⟩) ++ ⟨#[32]⟩) ++ ⟨t2.toArray⟩) ++ ⟨#[10]⟩).data.toList = TG ++ ((p.zs.take 0).map fun z => (Ln.zone z).text).flatten) := Lib.hid (by rw [HGr.out]; simp [gridW])
    have hsx : (((((⟨#[103, 114, 105, 100, 32]⟩ : ByteArray) ++ ⟨t1.toArray⟩) ++ ⟨#[32]⟩) ++ ⟨t2.toArray⟩) ++ ⟨#[10]⟩).size ≤ 100 := by simp [ByteArray.size]; omega
    generalize (((((⟨#[103, 114, 105, 100, 32]⟩ : ByteArray) ++ ⟨t1.toArray⟩) ++ ⟨#[32]⟩) ++ ⟨t2.toArray⟩) ++ ⟨#[10]⟩) = x0 at *
    clear HGr
    go_loopw [3, 4] (fun o i wr => ∃ (k : Nat) (x : ByteArray), k ≤ n1 ∧ i = .int .i64 k ∧ o = .string x ∧ Hid (x.data.toList = TG ++ ((p.zs.take k).map fun z => (Ln.zone z).text).flatten) ∧ x.size ≤ 100 + k * 1000 ∧ Below w.heap.size w wr ∧ CellsAt wr w.heap.size [.int .i64 r, .int .i64 q, .slice A1 n1 c1, .slice A2 n2 c2, .slice A3 n3 c3]) (fun _ i _ => n1 - (intOf i).toNat)
    case atStart => exact ⟨0, x0, Nat.zero_le _, rfl, rfl, hx0, by omega, hb0, kp⟩
    case round =>
      clear hb0 kp
      obtain ⟨k, x, hk, rfl, rfl, HX, hsx, hb0, kp⟩ := hrel
      obtain ⟨p0, p1, p2, p3, p4, _⟩ := kp.five
      by_cases hlt : k < n1
      · obtain ⟨z, hzk⟩ : ∃ z, p.zs[k]? = some z := ⟨_, List.getElem?_eq_getElem (by omega)⟩
        have HN := Lib.hid (text_snoc Ln.zone TG p.zs k z hzk)
        obtain ⟨_, _, hU, h4⟩ := HZ.out.on hb0
        obtain ⟨b, o, rfl, hblt, hcell⟩ := h4 (by omega)
        obtain ⟨c0, c1, c2, c3, c4, c5⟩ := Zone.zone_six (hcell k z hzk)
        have hUz := hU z (List.mem_of_getElem? hzk)
        have HS := Lib.hid (fun w1 => span_text z.a z.b z.c z.d w1)
        have HL := Lib.hid (fun w1 => Cats.rlabtext_c z.l z.s hUz w1)
        have hls := Span.textI_short z.a z.b z.c z.d
        have hll := labT_short z.l z.s
        have HLn : Hid ((Ln.zone z).text = zoneW ++ 32 :: (Span.textI z.a z.b z.c z.d ++ 32 :: Cats.labT z.l z.s) ++ [10]) := Lib.hid rfl
        generalize Span.textI z.a z.b z.c z.d = ts at *
        generalize Cats.labT z.l z.s = tl at *
        have C0 := fun d os => cell_regrown c0 d os
        have C1 := fun d os => cell_regrown c1 d os
        have C2 := fun d os => cell_regrown c2 d os
        have C3 := fun d os => cell_regrown c3 d os
        have C4 := fun d os => cell_regrown c4 d os
        have C5 := fun d os => cell_regrown c5 d os
        have PZ := fun d os => cell_regrown p2 d os
        clear p0 p1 p3 p4 hU h4 hcell hzk hUz c0 c1 c2 c3 c4 c5
        go_wp2_with fail
        refine wp_region_mem 21 (fun d => match d with
          | 36 => some (Is (.string ⟨ts.toArray⟩))
          | 45 => some (Is (.string ⟨tl.toArray⟩))
          | _ => none) (by kernel_rfl) (by kernel_rfl) ?_
        simp only [List.take_succ_cons, List.take_zero, List.drop_succ_cons, List.drop_zero]
        repeat (first | ((with_reducible refine wpM_calm ?_ ?_ ?_ ?_); exact rfl; exact rfl; exact rfl; intro K hK; go_big_quiet_op; go_big_quiet_on) | ((with_reducible refine wpM_skip ?_ ?_); exact rfl; simp only [Act.put, List.setIfInBounds_toArray, List.set_cons_succ, List.set_cons_zero]))
        refine wpM_exact rfl rfl rfl Tryz.func32 (by kernel_rfl) (by kernel_rfl) (fun w1 _ _ => HS.out w1) rfl (by simp only [Act.put, List.setIfInBounds_toArray, List.set_cons_succ, List.set_cons_zero]; rfl) ?_
        repeat (first | ((with_reducible refine wpM_calm ?_ ?_ ?_ ?_); exact rfl; exact rfl; exact rfl; intro K hK; go_big_quiet_op; go_big_quiet_on) | ((with_reducible refine wpM_skip ?_ ?_); exact rfl; simp only [Act.put, List.setIfInBounds_toArray, List.set_cons_succ, List.set_cons_zero]))
        refine wpM_exact rfl rfl rfl Tryz.func33 (by kernel_rfl) (by kernel_rfl) (fun w1 _ _ => HL.out w1) rfl (by simp only [Act.put, List.setIfInBounds_toArray, List.set_cons_succ, List.set_cons_zero]; rfl) ?_
        repeat (first | ((with_reducible refine wpM_calm ?_ ?_ ?_ ?_); exact rfl; exact rfl; exact rfl; intro K hK; go_big_quiet_op; go_big_quiet_on) | ((with_reducible refine wpM_skip ?_ ?_); exact rfl; simp only [Act.put, List.setIfInBounds_toArray, List.set_cons_succ, List.set_cons_zero]))
        refine wpM_nil ?_
        intro w4 hb4 _
        replace hb0 := on hb0 hb4
        replace kp := kp.on hb4
        clear hb4 PZ p2 C0 C1 C2 C3 C4 C5
        go_wp2
        go_roundw
        case rel =>
          refine ⟨k + 1, _, by omega, by go_num, rfl, Lib.hid ?_, ?_, hb0, kp⟩
          · rw [HN.out, ← HX.out, HLn.out]; simp [zoneW]
          · rw [size_five, mk_size ts, mk_size tl, size_z, size_b, size_n]; omega
        case measure => first | (simp [intOf]; done) | (simp [intOf]; omega)
      · obtain rfl : n1 = k := by omega
        clear hlt hk
        rw [List.take_of_length_le (show p.zs.length ≤ n1 by omega)] at HX
        generalize hTT1 : TG ++ (p.zs.map fun z => (Ln.zone z).text).flatten = T1 at *
        clear hTT1
        replace HX : Hid (x.data.toList = T1 ++ ((p.us.take 0).map fun z => (Ln.user z).text).flatten) := Lib.hid (by rw [HX.out]; simp)
        go_wp2
        go_loopw [3, 5] (fun o i wr => ∃ (k : Nat) (x : ByteArray), k ≤ n2 ∧ i = .int .i64 k ∧ o = .string x ∧ Hid (x.data.toList = T1 ++ ((p.us.take k).map fun z => (Ln.user z).text).flatten) ∧ x.size ≤ (100 + n1 * 1000) + k * 1000 ∧ Below w.heap.size w wr ∧ CellsAt wr w.heap.size [.int .i64 r, .int .i64 q, .slice A1 n1 c1, .slice A2 n2 c2, .slice A3 n3 c3]) (fun _ i _ => n2 - (intOf i).toNat)
        case atStart => exact ⟨0, x, Nat.zero_le _, rfl, rfl, HX, by omega, hb0, kp⟩
        case round =>
          clear hb0 kp
          obtain ⟨k, x, hk, rfl, rfl, HX, hsx, hb0, kp⟩ := hrel
          obtain ⟨p0, p1, p2, p3, p4, _⟩ := kp.five
          by_cases hlt : k < n2
          · obtain ⟨z, hzk⟩ : ∃ z, p.us[k]? = some z := ⟨_, List.getElem?_eq_getElem (by omega)⟩
            have HN := Lib.hid (text_snoc Ln.user T1 p.us k z hzk)
            obtain ⟨_, _, hU, h4⟩ := HU.out.on hb0
            obtain ⟨b, o, rfl, hblt, hcell⟩ := h4 (by omega)
            obtain ⟨c0, c1, c2⟩ := Right.user_cells (hcell k z hzk)
            have hUz := hU z (List.mem_of_getElem? hzk)
            have HL := Lib.hid (fun w1 => Cats.rlabtext_c z.l z.s hUz w1)
            have hln := HNU.out z (List.mem_of_getElem? hzk)
            have hll := labT_short z.l z.s
            have HLn : Hid ((Ln.user z).text = userW ++ 32 :: (z.name.data.toList ++ 32 :: Cats.labT z.l z.s) ++ [10]) := Lib.hid rfl
            generalize Cats.labT z.l z.s = tl at *
            have C0 := fun d os => cell_regrown c0 d os
            have C1 := fun d os => cell_regrown c1 d os
            have C2 := fun d os => cell_regrown c2 d os
            have PZ := fun d os => cell_regrown p3 d os
            clear p0 p1 p2 p4 hU h4 hcell hzk hUz c0 c1 c2
            go_wp2_with fail
            refine wp_region_mem 20 (fun d => match d with
              | 71 => some (Is (.string ⟨tl.toArray⟩))
              | _ => none) (by kernel_rfl) (by kernel_rfl) ?_
            simp only [List.take_succ_cons, List.take_zero, List.drop_succ_cons, List.drop_zero]
            repeat (first | ((with_reducible refine wpM_calm ?_ ?_ ?_ ?_); exact rfl; exact rfl; exact rfl; intro K hK; go_big_quiet_op; go_big_quiet_on) | ((with_reducible refine wpM_skip ?_ ?_); exact rfl; simp only [Act.put, List.setIfInBounds_toArray, List.set_cons_succ, List.set_cons_zero]))
            refine wpM_exact rfl rfl rfl Tryz.func33 (by kernel_rfl) (by kernel_rfl) (fun w1 _ _ => HL.out w1) rfl (by simp only [Act.put, List.setIfInBounds_toArray, List.set_cons_succ, List.set_cons_zero]; rfl) ?_
            repeat (first | ((with_reducible refine wpM_calm ?_ ?_ ?_ ?_); exact rfl; exact rfl; exact rfl; intro K hK; go_big_quiet_op; go_big_quiet_on) | ((with_reducible refine wpM_skip ?_ ?_); exact rfl; simp only [Act.put, List.setIfInBounds_toArray, List.set_cons_succ, List.set_cons_zero]))
            refine wpM_nil ?_
            intro w4 hb4 _
            replace hb0 := on hb0 hb4
            replace kp := kp.on hb4
            clear hb4 PZ p3 C0 C1 C2
            go_wp2
            go_roundw
            case rel =>
              refine ⟨k + 1, _, by omega, by go_num, rfl, Lib.hid ?_, ?_, hb0, kp⟩
              · rw [HN.out, ← HX.out, HLn.out]; simp [userW]
              · rw [size_five, mk_size tl, size_u, size_b, size_n]; omega
            case measure => first | (simp [intOf]; done) | (simp [intOf]; omega)
          · obtain rfl : n2 = k := by omega
            clear hlt hk
            rw [List.take_of_length_le (show p.us.length ≤ n2 by omega)] at HX
            generalize hTT2 : T1 ++ (p.us.map fun z => (Ln.user z).text).flatten = T2 at *
            clear hTT2
            replace HX : Hid (x.data.toList = T2 ++ ((p.gs.take 0).map fun z => (Ln.grant z).text).flatten) := Lib.hid (by rw [HX.out]; simp)
            go_wp2
            go_loopw [3, 6] (fun o i wr => ∃ (k : Nat) (x : ByteArray), k ≤ n3 ∧ i = .int .i64 k ∧ o = .string x ∧ Hid (x.data.toList = T2 ++ ((p.gs.take k).map fun z => (Ln.grant z).text).flatten) ∧ x.size ≤ (100 + n1 * 1000 + n2 * 1000) + k * 1000 ∧ Below w.heap.size w wr ∧ CellsAt wr w.heap.size [.int .i64 r, .int .i64 q, .slice A1 n1 c1, .slice A2 n2 c2, .slice A3 n3 c3]) (fun _ i _ => n3 - (intOf i).toNat)
            case atStart => exact ⟨0, x, Nat.zero_le _, rfl, rfl, HX, by omega, hb0, kp⟩
            case round =>
              clear hb0 kp
              obtain ⟨k, x, hk, rfl, rfl, HX, hsx, hb0, kp⟩ := hrel
              obtain ⟨p0, p1, p2, p3, p4, _⟩ := kp.five
              by_cases hlt : k < n3
              · obtain ⟨z, hzk⟩ : ∃ z, p.gs[k]? = some z := ⟨_, List.getElem?_eq_getElem (by omega)⟩
                have HN := Lib.hid (text_snoc Ln.grant T2 p.gs k z hzk)
                obtain ⟨_, _, hU, h4⟩ := HG.out.on hb0
                obtain ⟨b, o, rfl, hblt, hcell⟩ := h4 (by omega)
                obtain ⟨c0, c1, c2, c3, c4⟩ := Right.grant_cells (hcell k z hzk)
                have hUz := hU z (List.mem_of_getElem? hzk)
                have HL := Lib.hid (fun w1 => Cats.rlabtext_c z.l z.s hUz.1 w1)
                have HM := Lib.hid (fun w1 => Cats.rlabtext_c z.k z.r hUz.2 w1)
                have hln := HNG.out z (List.mem_of_getElem? hzk)
                have hll := labT_short z.l z.s
                have hlm := labT_short z.k z.r
                have HLn : Hid ((Ln.grant z).text = grantW ++ 32 :: (z.name.data.toList ++ 32 :: (Cats.labT z.l z.s ++ 32 :: Cats.labT z.k z.r)) ++ [10]) := Lib.hid rfl
                generalize Cats.labT z.l z.s = tl at *
                generalize Cats.labT z.k z.r = tm at *
                have C0 := fun d os => cell_regrown c0 d os
                have C1 := fun d os => cell_regrown c1 d os
                have C2 := fun d os => cell_regrown c2 d os
                have C3 := fun d os => cell_regrown c3 d os
                have C4 := fun d os => cell_regrown c4 d os
                have PZ := fun d os => cell_regrown p4 d os
                clear p0 p1 p2 p3 hU h4 hcell hzk hUz c0 c1 c2 c3 c4
                go_wp2_with fail
                refine wp_region_mem 29 (fun d => match d with
                  | 97 => some (Is (.string ⟨tl.toArray⟩))
                  | 106 => some (Is (.string ⟨tm.toArray⟩))
                  | _ => none) (by kernel_rfl) (by kernel_rfl) ?_
                simp only [List.take_succ_cons, List.take_zero, List.drop_succ_cons, List.drop_zero]
                repeat (first | ((with_reducible refine wpM_calm ?_ ?_ ?_ ?_); exact rfl; exact rfl; exact rfl; intro K hK; go_big_quiet_op; go_big_quiet_on) | ((with_reducible refine wpM_skip ?_ ?_); exact rfl; simp only [Act.put, List.setIfInBounds_toArray, List.set_cons_succ, List.set_cons_zero]))
                refine wpM_exact rfl rfl rfl Tryz.func33 (by kernel_rfl) (by kernel_rfl) (fun w1 _ _ => HL.out w1) rfl (by simp only [Act.put, List.setIfInBounds_toArray, List.set_cons_succ, List.set_cons_zero]; rfl) ?_
                repeat (first | ((with_reducible refine wpM_calm ?_ ?_ ?_ ?_); exact rfl; exact rfl; exact rfl; intro K hK; go_big_quiet_op; go_big_quiet_on) | ((with_reducible refine wpM_skip ?_ ?_); exact rfl; simp only [Act.put, List.setIfInBounds_toArray, List.set_cons_succ, List.set_cons_zero]))
                refine wpM_exact rfl rfl rfl Tryz.func33 (by kernel_rfl) (by kernel_rfl) (fun w1 _ _ => HM.out w1) rfl (by simp only [Act.put, List.setIfInBounds_toArray, List.set_cons_succ, List.set_cons_zero]; rfl) ?_
                repeat (first | ((with_reducible refine wpM_calm ?_ ?_ ?_ ?_); exact rfl; exact rfl; exact rfl; intro K hK; go_big_quiet_op; go_big_quiet_on) | ((with_reducible refine wpM_skip ?_ ?_); exact rfl; simp only [Act.put, List.setIfInBounds_toArray, List.set_cons_succ, List.set_cons_zero]))
                refine wpM_nil ?_
                intro w4 hb4 _
                replace hb0 := on hb0 hb4
                replace kp := kp.on hb4
                clear hb4 PZ p4 C0 C1 C2 C3 C4
                go_wp2
                go_roundw
                case rel =>
                  refine ⟨k + 1, _, by omega, by go_num, rfl, Lib.hid ?_, ?_, hb0, kp⟩
                  · rw [HN.out, ← HX.out, HLn.out]; simp [grantW]
                  · rw [size_seven, mk_size tl, mk_size tm, size_g, size_b, size_n]; omega
                case measure => first | (simp [intOf]; done) | (simp [intOf]; omega)
              · obtain rfl : n3 = k := by omega
                clear hlt hk
                rw [List.take_of_length_le (show p.gs.length ≤ n3 by omega)] at HX
                generalize hTT3 : T2 ++ (p.gs.map fun z => (Ln.grant z).text).flatten = T3 at *
                clear hTT3
                have HE : Hid (x = ⟨TP.toArray⟩) := Lib.hid (str_list (by rw [HX.out, HT.out, HTA.out]))
                go_wp2
                go_ret
                exact ⟨by show Ending.returned (.string x) = _; rw [HE.out], hb0⟩
end Go.Proofs.YtmlmanlcomfhbaaGreatDoor.Pol
namespace Go.Proofs.YtmlmanlcomfhbaaGreatDoor.Pol
open Go.RowKit Kit Reg
open Go.Proofs.YtmlmanlcomfhbaaGreatDoor.Zone (Zn ZonesR)
open Go.Proofs.YtmlmanlcomfhbaaGreatDoor.Right (Us Gr UsersR GrantsR)

set_option maxRecDepth 100000 in
set_option maxHeartbeats 4000000 in
theorem rsame_c (p : Pl) (n1 n2 n3 : Nat) (A1 : Option Addr) (c1 : Nat) (A2 : Option Addr) (c2 : Nat) (A3 : Option Addr) (c3 : Nat) (D1 : Option Addr) (d1 : Nat) (D2 : Option Addr) (d2 : Nat) (D3 : Option Addr) (d3 : Nat) (w : World)
    (hz : ZonesR w A1 n1 p.zs) (hu : UsersR w A2 n2 p.us) (hg : GrantsR w A3 n3 p.gs) (kz : ZonesR w D1 n1 p.zs) (ku : UsersR w D2 n2 p.us) (kg : GrantsR w D3 n3 p.gs) :
    Calls Tryz.prog 15 #[.agg #[.int .i64 p.rows, .int .i64 p.cols, .slice A1 n1 c1, .slice A2 n2 c2, .slice A3 n3 c3], .agg #[.int .i64 p.rows, .int .i64 p.cols, .slice D1 n1 d1, .slice D2 n2 d2, .slice D3 n3 d3]] w fun e w' => e = .returned (.bool true) ∧ Below w.heap.size w w' := by
  generalize p.rows = r at *
  generalize p.cols = q at *
  have hb0 := below2 w (.cells #[.int .i64 r, .int .i64 q, .slice A1 n1 c1, .slice A2 n2 c2, .slice A3 n3 c3] 26) (.cells #[.int .i64 r, .int .i64 q, .slice D1 n1 d1, .slice D2 n2 d2, .slice D3 n3 d3] 26)
  have kp := (CellsAt.new w [.int .i64 r, .int .i64 q, .slice A1 n1 c1, .slice A2 n2 c2, .slice A3 n3 c3] 26).on_alloc (.cells #[.int .i64 r, .int .i64 q, .slice D1 n1 d1, .slice D2 n2 d2, .slice D3 n3 d3] 26)
  have kd := CellsAt.new (w.alloc (.cells #[.int .i64 r, .int .i64 q, .slice A1 n1 c1, .slice A2 n2 c2, .slice A3 n3 c3] 26)) [.int .i64 r, .int .i64 q, .slice D1 n1 d1, .slice D2 n2 d2, .slice D3 n3 d3] 26
  rw [show (w.alloc (.cells #[.int .i64 r, .int .i64 q, .slice A1 n1 c1, .slice A2 n2 c2, .slice A3 n3 c3] 26)).heap.size = w.heap.size + 1 by simp] at kd
  have HZ := Lib.hid hz
  have HU := Lib.hid hu
  have HG := Lib.hid hg
  have KZ := Lib.hid kz
  have KU := Lib.hid ku
  have KG := Lib.hid kg
  have lz := hz.1
  have lu := hu.1
  have lg := hg.1
  have mz := hz.2.1
  have mu := hu.2.1
  have mg := hg.2.1
  clear hz hu hg kz ku kg
  obtain ⟨p0, p1, p2, p3, p4, _⟩ := kp.five
  obtain ⟨q0, q1, q2, q3, q4, _⟩ := kd.five
  have lp := kp.1
  have lq := kd.1
  go_enter Tryz.func15, Tryz.ntmps15
  go_wp2
  go_loopw [5] (fun i wr => ∃ k : Nat, k ≤ n1 ∧ i = .int .i64 k ∧ Below w.heap.size w wr ∧ CellsAt wr w.heap.size [.int .i64 r, .int .i64 q, .slice A1 n1 c1, .slice A2 n2 c2, .slice A3 n3 c3] ∧ CellsAt wr (w.heap.size + 1) [.int .i64 r, .int .i64 q, .slice D1 n1 d1, .slice D2 n2 d2, .slice D3 n3 d3]) (fun i _ => n1 - (intOf i).toNat)
  case atStart => exact ⟨0, Nat.zero_le _, rfl, hb0, kp, kd⟩
  case round =>
    clear hb0 kp kd
    obtain ⟨k, hk, rfl, hb0, kp, kd⟩ := hrel
    obtain ⟨p0, p1, p2, p3, p4, _⟩ := kp.five
    obtain ⟨q0, q1, q2, q3, q4, _⟩ := kd.five
    by_cases hlt : k < n1
    · obtain ⟨z, hzk⟩ : ∃ z, p.zs[k]? = some z := ⟨_, List.getElem?_eq_getElem (by omega)⟩
      obtain ⟨_, _, _, h4⟩ := HZ.out.on hb0
      obtain ⟨b, o, rfl, hblt, hcell⟩ := h4 (by omega)
      obtain ⟨c0, c1, c2, c3, c4, c5⟩ := Zone.zone_six (hcell k z hzk)
      obtain ⟨_, _, _, h5⟩ := KZ.out.on hb0
      obtain ⟨b', o', rfl, hblt', hcell'⟩ := h5 (by omega)
      obtain ⟨e0, e1, e2, e3, e4, e5⟩ := Zone.zone_six (hcell' k z hzk)
      clear h4 h5 hcell hcell' hzk p0 p1 p3 p4 q0 q1 q3 q4
      have hkn : (k : Int) < (n1 : Int) := by omega
      go_wp2_with fail
      go_quiet (fail)
      go_wp2
      go_roundw
      case rel => exact ⟨k + 1, by omega, by go_num, on hb0 (drew_below rfl), kp.on (drew_below rfl), kd.on (drew_below rfl)⟩
      case measure => first | (simp [intOf]; done) | (simp [intOf]; omega)
    · obtain rfl : n1 = k := by omega
      go_wp2
      go_loopw [6] (fun i wr => ∃ k : Nat, k ≤ n2 ∧ i = .int .i64 k ∧ Below w.heap.size w wr ∧ CellsAt wr w.heap.size [.int .i64 r, .int .i64 q, .slice A1 n1 c1, .slice A2 n2 c2, .slice A3 n3 c3] ∧ CellsAt wr (w.heap.size + 1) [.int .i64 r, .int .i64 q, .slice D1 n1 d1, .slice D2 n2 d2, .slice D3 n3 d3]) (fun i _ => n2 - (intOf i).toNat)
      case atStart => exact ⟨0, Nat.zero_le _, rfl, hb0, kp, kd⟩
      case round =>
        clear hb0 kp kd
        obtain ⟨k, hk, rfl, hb0, kp, kd⟩ := hrel
        obtain ⟨p0, p1, p2, p3, p4, _⟩ := kp.five
        obtain ⟨q0, q1, q2, q3, q4, _⟩ := kd.five
        by_cases hlt : k < n2
        · obtain ⟨z, hzk⟩ : ∃ z, p.us[k]? = some z := ⟨_, List.getElem?_eq_getElem (by omega)⟩
          obtain ⟨_, _, _, h4⟩ := HU.out.on hb0
          obtain ⟨b, o, rfl, hblt, hcell⟩ := h4 (by omega)
          obtain ⟨c0, c1, c2⟩ := Right.user_cells (hcell k z hzk)
          obtain ⟨_, _, _, h5⟩ := KU.out.on hb0
          obtain ⟨b', o', rfl, hblt', hcell'⟩ := h5 (by omega)
          obtain ⟨e0, e1, e2⟩ := Right.user_cells (hcell' k z hzk)
          clear h4 h5 hcell hcell' hzk p0 p1 p2 p4 q0 q1 q2 q4
          have hkn : (k : Int) < (n2 : Int) := by omega
          go_wp2_with fail
          go_quiet (fail)
          go_wp2
          go_roundw
          case rel => exact ⟨k + 1, by omega, by go_num, on hb0 (drew_below rfl), kp.on (drew_below rfl), kd.on (drew_below rfl)⟩
          case measure => first | (simp [intOf]; done) | (simp [intOf]; omega)
        · obtain rfl : n2 = k := by omega
          go_wp2
          go_loopw [7] (fun i wr => ∃ k : Nat, k ≤ n3 ∧ i = .int .i64 k ∧ Below w.heap.size w wr ∧ CellsAt wr w.heap.size [.int .i64 r, .int .i64 q, .slice A1 n1 c1, .slice A2 n2 c2, .slice A3 n3 c3] ∧ CellsAt wr (w.heap.size + 1) [.int .i64 r, .int .i64 q, .slice D1 n1 d1, .slice D2 n2 d2, .slice D3 n3 d3]) (fun i _ => n3 - (intOf i).toNat)
          case atStart => exact ⟨0, Nat.zero_le _, rfl, hb0, kp, kd⟩
          case round =>
            clear hb0 kp kd
            obtain ⟨k, hk, rfl, hb0, kp, kd⟩ := hrel
            obtain ⟨p0, p1, p2, p3, p4, _⟩ := kp.five
            obtain ⟨q0, q1, q2, q3, q4, _⟩ := kd.five
            by_cases hlt : k < n3
            · obtain ⟨z, hzk⟩ : ∃ z, p.gs[k]? = some z := ⟨_, List.getElem?_eq_getElem (by omega)⟩
              obtain ⟨_, _, _, h4⟩ := HG.out.on hb0
              obtain ⟨b, o, rfl, hblt, hcell⟩ := h4 (by omega)
              obtain ⟨c0, c1, c2, c3, c4⟩ := Right.grant_cells (hcell k z hzk)
              obtain ⟨_, _, _, h5⟩ := KG.out.on hb0
              obtain ⟨b', o', rfl, hblt', hcell'⟩ := h5 (by omega)
              obtain ⟨e0, e1, e2, e3, e4⟩ := Right.grant_cells (hcell' k z hzk)
              clear h4 h5 hcell hcell' hzk p0 p1 p2 p3 q0 q1 q2 q3
              have hkn : (k : Int) < (n3 : Int) := by omega
              go_wp2_with fail
              go_quiet (fail)
              go_wp2
              go_roundw
              case rel => exact ⟨k + 1, by omega, by go_num, on hb0 (drew_below rfl), kp.on (drew_below rfl), kd.on (drew_below rfl)⟩
              case measure => first | (simp [intOf]; done) | (simp [intOf]; omega)
            · obtain rfl : n3 = k := by omega
              go_wp2
              go_ret
              exact ⟨rfl, hb0⟩
end Go.Proofs.YtmlmanlcomfhbaaGreatDoor.Pol
namespace Go.Proofs.YtmlmanlcomfhbaaGreatDoor.Pol
open Go.RowKit Kit Reg
open Go.Proofs.YtmlmanlcomfhbaaGreatDoor.Zone (Zn ZonesR)
open Go.Proofs.YtmlmanlcomfhbaaGreatDoor.Right (Us Gr UsersR GrantsR)
open Go.Proofs.YtmlmanlcomfhbaaGreatDoor.Cats (U U_zero LabIs)
open Go.Proofs.YtmlmanlcomfhbaaGreatDoor.Span (SpanIs mayS textI)
open Go.Proofs.YtmlmanlcomfhbaaGreatDoor.Addr (NumIs)

theorem infoPZ : (Tryz.prog.info? 72).map (fun i => (i.zero, i.size, i.bytes)) = some (some (.agg #[.int .i64 0, .int .i64 0, .int .i64 0, .int .i64 0, .int .i64 0, .int .u64 0]), 6, 48) := by kernel_rfl
theorem infoPU : (Tryz.prog.info? 76).map (fun i => (i.zero, i.size, i.bytes)) = some (some (.agg #[.string ⟨#[]⟩, .int .i64 0, .int .u64 0]), 3, 32) := by kernel_rfl
theorem infoPG : (Tryz.prog.info? 78).map (fun i => (i.zero, i.size, i.bytes)) = some (some (.agg #[.string ⟨#[]⟩, .int .i64 0, .int .u64 0, .int .i64 0, .int .u64 0]), 5, 48) := by kernel_rfl
/-- all cells of a row -/
def flat {α : Type} (cells : α → List Value) : List α → List Value
  | [] => []
  | z :: r => cells z ++ flat cells r
theorem flat_length {α : Type} {cells : α → List Value} {k : Nat} (hk : ∀ z, (cells z).length = k) : ∀ l : List α, (flat cells l).length = l.length * k
  | [] => by simp [flat]
  | z :: r => by rw [flat, List.length_append, flat_length hk r, hk, List.length_cons, Nat.succ_mul, Nat.add_comm]
theorem flat_snoc {α : Type} (cells : α → List Value) : ∀ (l : List α) (z : α), flat cells (l ++ [z]) = flat cells l ++ cells z
  | [], z => by simp [flat]
  | y :: r, z => by rw [List.cons_append, flat, flat, flat_snoc cells r, List.append_assoc]
theorem flat_at {α : Type} {cells : α → List Value} {k : Nat} (hk : ∀ z, (cells z).length = k) : ∀ (l : List α) (i : Nat) (z : α), l[i]? = some z → ∀ j v, (cells z)[j]? = some v → (flat cells l)[i * k + j]? = some v
  | [], _, _, h, _, _, _ => by simp at h
  | d :: r, 0, z, h, j, v, hj => by
    simp only [List.getElem?_cons_zero, Option.some.injEq] at h
    subst h
    have hl : j < (cells d).length := (List.getElem?_eq_some_iff.1 hj).1
    rw [flat, List.getElem?_append_left (by omega), Nat.zero_mul, Nat.zero_add]
    exact hj
  | d :: r, i + 1, z, h, j, v, hj => by
    have h2 := flat_at hk r i z (by simpa using h) j v hj
    have e : (i + 1) * k + j - k = i * k + j := by rw [Nat.succ_mul]; omega
    rw [flat, List.getElem?_append_right (by rw [hk, Nat.succ_mul]; omega), hk, e]
    exact h2
theorem zn_len (z : Zn) : z.cells.length = 6 := rfl
theorem us_len (z : Us) : z.cells.length = 3 := rfl
theorem gr_len (z : Gr) : z.cells.length = 5 := rfl
theorem zn_one (z : Zn) : ∀ u ∈ z.cells, u.oneCell' = true := by
  intro u h
  simp only [Zn.cells, List.mem_cons, List.not_mem_nil, or_false] at h
  rcases h with rfl | rfl | rfl | rfl | rfl | rfl <;> rfl
theorem us_one (z : Us) : ∀ u ∈ z.cells, u.oneCell' = true := by
  intro u h
  simp only [Us.cells, List.mem_cons, List.not_mem_nil, or_false] at h
  rcases h with rfl | rfl | rfl <;> rfl
theorem gr_one (z : Gr) : ∀ u ∈ z.cells, u.oneCell' = true := by
  intro u h
  simp only [Gr.cells, List.mem_cons, List.not_mem_nil, or_false] at h
  rcases h with rfl | rfl | rfl | rfl | rfl <;> rfl
theorem cells_new (w : World) (cs : List Value) (ty : TypeId) : ∀ j u, cs[j]? = some u → (w.alloc (.cells cs.toArray ty)).cell? ((⟨w.heap.size, 0, none⟩ : Addr).add j) = some u := by
  intro j u hj
  rw [show ((⟨w.heap.size, 0, none⟩ : Addr).add j) = ⟨w.heap.size, j, none⟩ by unfold Addr.add; split <;> simp_all]
  exact ((CellsAt.new w cs ty).2 j u hj).1

def Apart (v u : Value) : Prop := v.ownBlock = none ∨ v.ownBlock ≠ u.ownBlock
theorem Apart.symm {v u : Value} (h : Apart v u) : Apart u v := by
  rcases h with h | h
  · cases hu : u.ownBlock with
    | none => exact .inl hu
    | some k => right; rw [h, hu]; simp
  · exact .inr (Ne.symm h)
theorem Apart.moved {v v' u : Value} {H : Nat} (h : Apart v u) (hu : ∀ k, u.ownBlock = some k → k < H) (hm : v'.ownBlock = v.ownBlock ∨ v'.ownBlock = some H) : Apart v' u := by
  rcases hm with e | e
  · unfold Apart; rw [e]; exact h
  · right
    rw [e]
    intro e2
    have := hu H e2.symm
    omega
/-- a policy's rows, of one's own -/
structure Own (B : Nat) (p : Pl) (vz vu vg : Value) (w : World) : Prop where
  z : w.ownsRow B 72 6 vz p.zs.length (flat Zn.cells p.zs)
  u : w.ownsRow B 76 3 vu p.us.length (flat Us.cells p.us)
  g : w.ownsRow B 78 5 vg p.gs.length (flat Gr.cells p.gs)
  zu : Apart vz vu
  zg : Apart vz vg
  ug : Apart vu vg
theorem Own.nil (B : Nat) (w : World) : Own B .zero (.slice none 0 0) (.slice none 0 0) (.slice none 0 0) w :=
  ⟨World.ownsRow_nil _ _ _ _, World.ownsRow_nil _ _ _ _, World.ownsRow_nil _ _ _ _, .inl rfl, .inl rfl, .inl rfl⟩
theorem Own.on {B : Nat} {p : Pl} {vz vu vg : Value} {w w' : World} (h : Own B p vz vu vg w) (hb : Below w.heap.size w w') : Own B p vz vu vg w' :=
  ⟨own_on h.z hb, own_on h.u hb, own_on h.g hb, h.zu, h.zg, h.ug⟩
theorem Own.size {B : Nat} {p : Pl} {vz vu vg : Value} {w : World} (h : Own B p vz vu vg w) (r c : Int) : Own B { p with rows := r, cols := c } vz vu vg w := ⟨h.z, h.u, h.g, h.zu, h.zg, h.ug⟩
theorem Own.zone {B : Nat} {p : Pl} {vz vu vg vz' : Value} {w w' : World} (h : Own B p vz vu vg w) (z : Zn) (h1 : w'.ownsRow B 72 6 vz' (p.zs.length + 1) (flat Zn.cells p.zs ++ z.cells)) (hg : w.grownBy w' vz.ownBlock)
    (hm : vz'.ownBlock = vz.ownBlock ∨ vz'.ownBlock = some w.heap.size) : Own B (Ln.put p (.zone z)) vz' vu vg w' := by
  refine ⟨?_, h.u.kept hg h.zu.symm, h.g.kept hg h.zg.symm, h.zu.moved (fun k e => (h.u.lt k e).2) hm, h.zg.moved (fun k e => (h.g.lt k e).2) hm, h.ug⟩
  show w'.ownsRow B 72 6 vz' (p.zs ++ [z]).length (flat Zn.cells (p.zs ++ [z]))
  rw [flat_snoc, List.length_append]
  exact h1
theorem Own.user {B : Nat} {p : Pl} {vz vu vg vu' : Value} {w w' : World} (h : Own B p vz vu vg w) (z : Us) (h1 : w'.ownsRow B 76 3 vu' (p.us.length + 1) (flat Us.cells p.us ++ z.cells)) (hg : w.grownBy w' vu.ownBlock)
    (hm : vu'.ownBlock = vu.ownBlock ∨ vu'.ownBlock = some w.heap.size) : Own B (Ln.put p (.user z)) vz vu' vg w' := by
  refine ⟨h.z.kept hg h.zu, ?_, h.g.kept hg h.ug.symm, (h.zu.symm.moved (fun k e => (h.z.lt k e).2) hm).symm, h.zg, h.ug.moved (fun k e => (h.g.lt k e).2) hm⟩
  show w'.ownsRow B 76 3 vu' (p.us ++ [z]).length (flat Us.cells (p.us ++ [z]))
  rw [flat_snoc, List.length_append]
  exact h1
theorem Own.grant {B : Nat} {p : Pl} {vz vu vg vg' : Value} {w w' : World} (h : Own B p vz vu vg w) (z : Gr) (h1 : w'.ownsRow B 78 5 vg' (p.gs.length + 1) (flat Gr.cells p.gs ++ z.cells)) (hg : w.grownBy w' vg.ownBlock)
    (hm : vg'.ownBlock = vg.ownBlock ∨ vg'.ownBlock = some w.heap.size) : Own B (Ln.put p (.grant z)) vz vu vg' w' := by
  refine ⟨h.z.kept hg h.zg, h.u.kept hg h.ug, ?_, h.zu, (h.zg.symm.moved (fun k e => (h.z.lt k e).2) hm).symm, (h.ug.symm.moved (fun k e => (h.u.lt k e).2) hm).symm⟩
  show w'.ownsRow B 78 5 vg' (p.gs ++ [z]).length (flat Gr.cells (p.gs ++ [z]))
  rw [flat_snoc, List.length_append]
  exact h1
/-- a row of one's own, as what reads it asks it -/
theorem row_reads {α : Type} {cells : α → List Value} {k B : Nat} (hk : ∀ z, (cells z).length = k) {e : TypeId} {v : Value} {l : List α} {w : World} (h : w.ownsRow B e k v l.length (flat cells l)) :
    ∃ A cap, v = .slice A l.length cap ∧ l.length ≤ cap ∧ (l.length ≠ 0 → ∃ b, A = some ⟨b, 0, none⟩ ∧ b < w.heap.size ∧ ∀ i z, l[i]? = some z → ∀ j u, (cells z)[j]? = some u → w.cell? ⟨b, 0 + i * k + j, none⟩ = some u) := by
  have h0 := h
  rcases h.2 with ⟨rfl, h1⟩ | ⟨g, cap, cur, rfl, hb, hg, hc, hrest⟩
  · exact ⟨_, _, by rw [h1], by omega, fun hn => absurd h1 hn⟩
  · refine ⟨_, _, rfl, hc, fun _ => ⟨g, rfl, (Array.getElem?_eq_some_iff.1 hg).1, fun i z hi j u hj => ?_⟩⟩
    have hil : i < l.length := (List.getElem?_eq_some_iff.1 hi).1
    have hjl : j < k := by rw [← hk z]; exact (List.getElem?_eq_some_iff.1 hj).1
    rw [Nat.zero_add]
    refine (World.ownsRow.cellAt h0 (i * k + j) ?_).trans (flat_at hk l i z hi j u hj)
    have := Nat.mul_le_mul_right k (show i + 1 ≤ l.length by omega)
    rw [Nat.succ_mul] at this
    omega
theorem Own.reads {B : Nat} {p : Pl} {vz vu vg : Value} {w : World} (h : Own B p vz vu vg w) (hp : PU p) (m1 : p.zs.length ≤ 100000) (m2 : p.us.length ≤ 100000) (m3 : p.gs.length ≤ 100000) :
    ∃ A1 c1 A2 c2 A3 c3, vz = .slice A1 p.zs.length c1 ∧ vu = .slice A2 p.us.length c2 ∧ vg = .slice A3 p.gs.length c3 ∧ p.us.length ≤ c2 ∧ ZonesR w A1 p.zs.length p.zs ∧ UsersR w A2 p.us.length p.us ∧ GrantsR w A3 p.gs.length p.gs := by
  obtain ⟨A1, c1, e1, _, r1⟩ := row_reads zn_len h.z
  obtain ⟨A2, c2, e2, k2, r2⟩ := row_reads us_len h.u
  obtain ⟨A3, c3, e3, _, r3⟩ := row_reads gr_len h.g
  refine ⟨A1, c1, A2, c2, A3, c3, e1, e2, e3, k2, ⟨rfl, by omega, hp.1, fun hn => ?_⟩, ⟨rfl, by omega, hp.2.1, fun hn => ?_⟩, ⟨rfl, by omega, hp.2.2, fun hn => ?_⟩⟩
  · obtain ⟨b, hA, hlt, hc⟩ := r1 hn
    exact ⟨b, 0, hA, hlt, hc⟩
  · obtain ⟨b, hA, hlt, hc⟩ := r2 hn
    exact ⟨b, 0, hA, hlt, hc⟩
  · obtain ⟨b, hA, hlt, hc⟩ := r3 hn
    exact ⟨b, 0, hA, hlt, hc⟩
theorem grown_on {A B C : World} {row : Option Nat} (h : A.grownBy B row) (hb : Below B.heap.size B C) : A.grownBy C row :=
  ⟨hb.os.trans h.os, hb.tape.trans h.tape, hb.output.trans h.output, Nat.le_trans h.size hb.size, fun k hk hne => (hb.block k (Nat.lt_of_lt_of_le hk h.size)).trans (h.block k hk hne)⟩
theorem below_grown {A B C : World} {row : Option Nat} (hb : Below A.heap.size A B) (h : B.grownBy C row) : A.grownBy C row :=
  ⟨h.os.trans hb.os, h.tape.trans hb.tape, h.output.trans hb.output, Nat.le_trans hb.size h.size, fun k hk hne => (h.block k (Nat.lt_of_lt_of_le hk hb.size) hne).trans (hb.block k hk)⟩
theorem grown_below {A B : World} {row : Option Nat} {N : Nat} (h : A.grownBy B row) (hN : ∀ k, row = some k → N ≤ k) (hA : N ≤ A.heap.size) : Below N A B :=
  ⟨h.os, h.tape, h.output, h.size, fun k hk => h.block k (by omega) (fun e => by have := hN k e.symm; omega)⟩
/-- stores into a block made since change nothing else -/
theorem grown_set {A B : World} {row : Option Nat} (h : A.grownBy B row) {p : Addr} (hp : A.heap.size ≤ p.block) (u : Value) : A.grownBy (B.setCell p u) row :=
  ⟨h.os, h.tape, h.output, by simpa [World.setCell] using h.size, fun k hk hne => (Below.heap_setCell _ _ _ _ (by omega)).trans (h.block k hk hne)⟩

/- WHAT A WORD IS IS KNOWN AHEAD -/
theorem NumIs.some_one (t : List UInt8) : ∃ n b, NumIs t n b := by
  by_cases h : ∃ k : Nat, k ≤ 998 ∧ Addr.numN k = t
  · obtain ⟨k, h1, h2⟩ := h
    exact ⟨k, true, .inl ⟨rfl, k, h1, rfl, h2⟩⟩
  · exact ⟨0, false, .inr ⟨rfl, rfl, fun k hk e => h ⟨k, hk, e⟩⟩⟩
theorem NumIs.range {t : List UInt8} {n : Int} {b : Bool} (h : NumIs t n b) : 0 ≤ n ∧ n ≤ 998 := by
  rcases h with ⟨_, k, h1, rfl, _⟩ | ⟨_, rfl, _⟩ <;> omega
theorem LabIs.some_one (t : List UInt8) : ∃ l s b, LabIs t l s b := by
  by_cases h : ∃ (l : Int) (s : Nat), 0 ≤ l ∧ l ≤ 15 ∧ U s ∧ Cats.labT l s = t
  · obtain ⟨l, s, h1, h2, h3, h4⟩ := h
    exact ⟨l, s, true, .inl ⟨rfl, h1, h2, h3, h4⟩⟩
  · exact ⟨0, 0, false, .inr ⟨rfl, rfl, rfl, fun k r hk hr e => h ⟨k, r, by omega, by omega, hr, e⟩⟩⟩
theorem LabIs.u {t : List UInt8} {l : Int} {s : Nat} {b : Bool} (h : LabIs t l s b) : U s := by
  rcases h with ⟨_, _, _, h, _⟩ | ⟨_, _, rfl, _⟩
  · exact h
  · exact U_zero
theorem SpanIs.some_one (t : List UInt8) : ∃ x y z u b, SpanIs t x y z u b := by
  by_cases h : ∃ x y z u, mayS x y z u = true ∧ textI x y z u = t
  · obtain ⟨x, y, z, u, h1, h2⟩ := h
    exact ⟨x, y, z, u, true, .inl ⟨rfl, h1, h2⟩⟩
  · exact ⟨0, 0, 0, 0, false, .inr ⟨rfl, rfl, rfl, rfl, rfl, fun x y z u h1 h2 => h ⟨x, y, z, u, h1, h2⟩⟩⟩
theorem rnumber_x (t : ByteArray) {n : Int} {b : Bool} (h : NumIs t.data.toList n b) (w : World) : Calls Tryz.prog 58 #[.string t] w fun e w' => e = .returned (.agg #[.int .i64 n, .bool b]) ∧ Below w.heap.size w w' :=
  (Addr.rnumber_c t w).mono fun e w' ⟨m, c, he, hN, hb⟩ => by
    obtain ⟨rfl, rfl⟩ := h.unique hN
    exact ⟨he, hb⟩
theorem rlab_x (t : ByteArray) (ht : t.size ≤ 100000) {l : Int} {s : Nat} {b : Bool} (h : LabIs t.data.toList l s b) (w : World) : Calls Tryz.prog 60 #[.string t] w fun e w' => e = .returned (.agg #[.int .i64 l, .int .u64 s, .bool b]) ∧ Below w.heap.size w w' :=
  (Cats.rlabparse_c t ht w).mono fun e w' ⟨m, r, c, he, hN, hb⟩ => by
    obtain ⟨rfl, rfl, rfl⟩ := h.unique hN
    exact ⟨he, hb⟩
theorem rspan_x (t : ByteArray) {x y z u : Int} {b : Bool} (h : SpanIs t.data.toList x y z u b) (w : World) : Calls Tryz.prog 59 #[.string t] w fun e w' => e = .returned (.agg #[.int .i64 x, .int .i64 y, .int .i64 z, .int .i64 u, .bool b]) ∧ Below w.heap.size w w' :=
  (Span.rparse_span t w).mono fun e w' ⟨x', y', z', u', c, he, hN, hb⟩ => by
    obtain ⟨rfl, rfl, rfl, rfl, rfl⟩ := h.unique hN
    exact ⟨he, hb⟩
end Go.Proofs.YtmlmanlcomfhbaaGreatDoor.Pol
