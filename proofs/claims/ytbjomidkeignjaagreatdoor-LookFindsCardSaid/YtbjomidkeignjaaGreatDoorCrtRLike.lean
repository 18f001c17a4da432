/- What the reference's Like answers: its table, row by row: for every pattern and every text of at most a thousand bytes. -/
import Derived.Laws.MakeOwn
import Derived.Test.YtbjomidkeignjaaGreatDoorG14
import Derived.Test.YtbjomidkeignjaaGreatDoorKit4
namespace Go.Proofs.YtbjomidkeignjaaGreatDoor.Crt
open Go.RowKit Kit Reg Dec Dig

/-- a row of the table: i bytes of the pattern, each beginning of the text -/
def rowC (P T : List UInt8) (n i : Nat) : List Value := (List.range (n + 1)).map fun k => .bool (fitL (P.take i) (T.take k))
/-- the next one, up to a place -/
def nextC (P T : List UInt8) (n i k : Nat) : List Value := (List.range (n + 1)).map fun j => .bool (decide (j < k) && fitL (P.take (i + 1)) (T.take j))
def falses (n : Nat) : List Value := List.replicate n (.bool false)
theorem rowC_at {P T : List UInt8} {n i k : Nat} (h : k ≤ n) : (rowC P T n i)[k]? = some (.bool (fitL (P.take i) (T.take k))) := by
  simp [rowC, List.getElem?_map, List.getElem?_range (show k < n + 1 by omega)]
theorem nextC_at {P T : List UInt8} {n i k j : Nat} (h : j ≤ n) : (nextC P T n i k)[j]? = some (.bool (decide (j < k) && fitL (P.take (i + 1)) (T.take j))) := by
  simp [nextC, List.getElem?_map, List.getElem?_range (show j < n + 1 by omega)]
theorem nextC_here {P T : List UInt8} {n i k : Nat} (h : k ≤ n) : (nextC P T n i k)[k]? = some (.bool false) := by rw [nextC_at h]; simp
theorem nextC_back {P T : List UInt8} {n i j : Nat} (h : j ≤ n) : (nextC P T n i (j + 1))[j]? = some (.bool (fitL (P.take (i + 1)) (T.take j))) := by rw [nextC_at h]; simp
theorem nextC_len (P T : List UInt8) (n i k : Nat) : (nextC P T n i k).length = n + 1 := by simp [nextC]
theorem nextC_zero (P T : List UInt8) (n i : Nat) : nextC P T n i 0 = falses (n + 1) := by
  apply List.ext_getElem?
  intro j
  by_cases h : j ≤ n
  · rw [nextC_at h, falses, List.getElem?_replicate, if_pos (by omega)]; simp
  · rw [List.getElem?_eq_none (by rw [nextC_len]; omega), List.getElem?_eq_none (by simp [falses]; omega)]
theorem nextC_put {P T : List UInt8} {n i k : Nat} {v : Bool} (h : k ≤ n) (hv : fitL (P.take (i + 1)) (T.take k) = v) : (nextC P T n i k).set k (.bool v) = nextC P T n i (k + 1) := by
  apply List.ext_getElem?
  intro j
  by_cases hj : j ≤ n
  · rw [nextC_at hj]
    by_cases hjk : k = j
    · subst hjk
      rw [List.getElem?_set_self (by rw [nextC_len]; omega), ← hv]
      simp
    · rw [List.getElem?_set_ne hjk, nextC_at hj]
      congr 3
      by_cases h2 : j < k
      · rw [decide_eq_true h2, decide_eq_true (by omega)]
      · rw [decide_eq_false h2, decide_eq_false (by omega)]
  · rw [List.getElem?_eq_none (by rw [List.length_set, nextC_len]; omega), List.getElem?_eq_none (by rw [nextC_len]; omega)]
theorem nextC_skip {P T : List UInt8} {n i k : Nat} (h : k ≤ n) (hv : fitL (P.take (i + 1)) (T.take k) = false) : nextC P T n i k = nextC P T n i (k + 1) := by
  rw [← nextC_put h hv]
  apply List.ext_getElem?
  intro j
  by_cases hjk : k = j
  · subst hjk
    rw [List.getElem?_set_self (by rw [nextC_len]; omega), nextC_here h]
  · rw [List.getElem?_set_ne hjk]
theorem nextC_end (P T : List UInt8) (n i : Nat) : nextC P T n i (n + 1) = rowC P T n (i + 1) := by
  unfold nextC rowC
  apply List.map_congr_left
  intro j hj
  rw [decide_eq_true (List.mem_range.1 hj)]
  rfl
theorem rowC_zero {P T : List UInt8} {n : Nat} (hn : T.length = n) : (falses (n + 1)).set 0 (.bool true) = rowC P T n 0 := by
  apply List.ext_getElem?
  intro j
  by_cases hj : j ≤ n
  · rw [rowC_at hj, List.take_zero]
    rcases j with _ | j
    · rw [List.getElem?_set_self (by simp [falses])]; simp [fitL]
    · rw [List.getElem?_set_ne (by omega), falses, List.getElem?_replicate, if_pos (by omega)]
      have : ¬ T.take (j + 1) = [] := by
        intro e
        have := congrArg List.length e
        rw [List.length_take, List.length_nil, hn] at this
        omega
      simp [fitL, this]
  · rw [List.getElem?_eq_none (by simp [falses]; omega), List.getElem?_eq_none (by simp [rowC]; omega)]
theorem made_falses (n : Nat) : madeCells #[.bool false] n = (falses n).toArray := by
  apply Array.ext
  · simp [madeCells, falses]
  · intro i h1 h2
    simp only [size_madeCells] at h1
    simp [madeCells, falses, Nat.mod_one]
theorem infoT : (Tryz.prog.info? 4).map (fun i => (i.zero, i.size, i.bytes)) = some (some (.bool false), 1, 1) := by kernel_rfl
theorem make_bool (n : Nat) (hn : n ≤ 1000000) (w : World) (x : Int) (hx : x = (n : Int)) : (Instr.makeSlice 108 (.int .i64 x) (.int .i64 x)).run Tryz.prog w = .ok (.slice (some ⟨w.heap.size, 0, none⟩) n n) (w.alloc (.cells (falses n).toArray 4)) := by
  subst hx
  obtain ⟨i, hin, hz, h1, h2⟩ := info_parts infoT
  rw [run_make (P := Tryz.prog) w 108 4 i (.bool false) Tryz.underlying108 hin hz .i64 .i64 n n (by omega) (Int.le_refl _) (by rw [h2]; omega) (by omega), h1]
  simp only [Int.toNat_natCast, Nat.mul_one]
  rw [show (Value.bool false).cells = #[.bool false] from rfl, made_falses]
/-- a row and the next one in memory, of which the next one is written on -/
theorem put_next {w w' : World} {g g2 : Nat} {P T : List UInt8} {n i k : Nat} {v : Bool} (hk : k ≤ n) (hv : fitL (P.take (i + 1)) (T.take k) = v) (hne : g2 ≠ g) (h1 : CellsAt w' g (rowC P T n i)) (h2 : CellsAt w' g2 (nextC P T n i k)) (hb : Below w.heap.size w w') (hg : w.heap.size ≤ g2) :
    CellsAt (w'.setCell ⟨g2, k, none⟩ (.bool v)) g (rowC P T n i) ∧ CellsAt (w'.setCell ⟨g2, k, none⟩ (.bool v)) g2 (nextC P T n i (k + 1)) ∧ Below w.heap.size w (w'.setCell ⟨g2, k, none⟩ (.bool v)) := by
  refine ⟨h1.far (p := ⟨g2, k, none⟩) hne _, ?_, hb.setCell (p := ⟨g2, k, none⟩) hg _⟩
  have h := h2.set (i := k) (by rw [nextC_len]; omega) (.bool v)
  rwa [nextC_put hk hv] at h
set_option maxRecDepth 100000 in
set_option maxHeartbeats 8000000 in
theorem rlike_c (p t : ByteArray) (hp : p.size ≤ 1000) (ht : t.size ≤ 1000) (r : Bool) (hr : fitL p.data.toList t.data.toList = r) (w : World) :
    Calls Tryz.prog 91 #[.string p, .string t] w fun e w' => e = .returned (.bool r) ∧ Below w.heap.size w w' := by
  have HP := Lib.hid (fun k x h => like_at p k x h)
  have HT := Lib.hid (fun k x h => like_at t k x h)
  have HLP := Lib.hid (len p)
  have HLT := Lib.hid (len t)
  have HM := Lib.hid (fun w => make_bool (t.size + 1) (by omega) w ((t.size : Int) + 1) (by omega))
  obtain ⟨w1, hw1⟩ : ∃ w1, w1 = w.alloc (.cells (falses (t.size + 1)).toArray 4) := ⟨_, rfl⟩
  have hm1 := HM.out w
  rw [← hw1] at hm1
  have hc1 : CellsAt w1 w.heap.size (falses (t.size + 1)) := by rw [hw1]; exact CellsAt.new _ _ _
  have hb1 : Below w.heap.size w w1 := by rw [hw1]; exact below1 _ _
  obtain ⟨c0, f0⟩ := hc1.2 0 (.bool false) (by simp [falses])
  have HC := Lib.hid (rowC_zero (P := p.data.toList) HLT.out ▸ hc1.set (i := 0) (by simp [falses]) (.bool true))
  have HB := Lib.hid (hb1.setCell (p := ⟨w.heap.size, 0, none⟩) (Nat.le_refl _) (.bool true))
  have hlt1 := hc1.1
  have HR : Hid (fitL (p.data.toList.take p.size) (t.data.toList.take t.size) = r) := Lib.hid (by rw [List.take_of_length_le (by rw [HLP.out]; omega), List.take_of_length_le (by rw [HLT.out]; omega)]; exact hr)
  clear hr hc1 hb1 hw1
  go_enter Tryz.func91, Tryz.ntmps91
  go_wp2
  generalize w1.setCell ⟨w.heap.size, 0, none⟩ (.bool true) = w2 at *
  clear c0 f0 hlt1 hm1
  go_loopw [5, 6] (fun rv iv wr => ∃ (i g : Nat), i ≤ p.size ∧ iv = .int .i64 i ∧ rv = .slice (some ⟨g, 0, none⟩) (t.size + 1) (t.size + 1) ∧ w.heap.size ≤ g ∧ Hid (CellsAt wr g (rowC p.data.toList t.data.toList t.size i)) ∧ Below w.heap.size w wr) (fun _ iv _ => p.size - (intOf iv).toNat)
  case atStart => exact ⟨0, w.heap.size, by omega, rfl, rfl, Nat.le_refl _, HC, HB.out⟩
  case round =>
    clear HC HB
    obtain ⟨i, g, hi, rfl, rfl, hg, hc, hb⟩ := hrel
    by_cases hli : i < p.size
    · obtain ⟨c, hc1⟩ : ∃ c, p.data.toList[i]? = some c := ⟨_, List.getElem?_eq_getElem (by rw [HLP.out]; exact hli)⟩
      obtain ⟨hip, hcp⟩ := HP.out i c hc1
      have hm2 := HM.out wr
      obtain ⟨w3, hw3⟩ : ∃ w3, w3 = wr.alloc (.cells (falses (t.size + 1)).toArray 4) := ⟨_, rfl⟩
      rw [← hw3] at hm2
      have hg2 : g < wr.heap.size := hc.out.1
      have HC1 : Hid (CellsAt w3 g (rowC p.data.toList t.data.toList t.size i)) := Lib.hid (by rw [hw3]; exact hc.out.on_alloc _)
      have HC2 : Hid (CellsAt w3 wr.heap.size (nextC p.data.toList t.data.toList t.size i 0)) := Lib.hid (by rw [hw3, nextC_zero]; exact CellsAt.new _ _ _)
      have HB3 : Hid (Below w.heap.size w w3) := Lib.hid (by rw [hw3]; exact on_alloc hb _)
      have hwr := hb.size
      have HRow0 : Hid (c = 42 → fitL (p.data.toList.take (i + 1)) (t.data.toList.take 0) = fitL (p.data.toList.take i) (t.data.toList.take 0)) := Lib.hid (fun h => row_star0 (h ▸ hc1))
      have HRow : Hid (c = 42 → ∀ j b, t.data.toList[j]? = some b → fitL (p.data.toList.take (i + 1)) (t.data.toList.take (j + 1)) = (fitL (p.data.toList.take i) (t.data.toList.take (j + 1)) || fitL (p.data.toList.take (i + 1)) (t.data.toList.take j))) := Lib.hid (fun h j b hb => row_star (h ▸ hc1) hb)
      have HOne0 : Hid (¬ c = 42 → fitL (p.data.toList.take (i + 1)) (t.data.toList.take 0) = false) := Lib.hid (fun h => row_one0 hc1 h)
      have HOne : Hid (¬ c = 42 → ∀ j b, t.data.toList[j]? = some b → fitL (p.data.toList.take (i + 1)) (t.data.toList.take (j + 1)) = (fitL (p.data.toList.take i) (t.data.toList.take j) && hitB c b)) := Lib.hid (fun h j b hb => row_one hc1 h hb)
      clear hw3 hc hc1 HP HLP HM HR
      go_wp2
      go_loopw [8] (fun kv w' => ∃ k : Nat, k ≤ t.size + 1 ∧ kv = .int .i64 k ∧ Hid (CellsAt w' g (rowC p.data.toList t.data.toList t.size i)) ∧ Hid (CellsAt w' wr.heap.size (nextC p.data.toList t.data.toList t.size i k)) ∧ Below w.heap.size w w') (fun kv _ => t.size + 1 - (intOf kv).toNat)
      case atStart => exact ⟨0, by omega, rfl, HC1, HC2, HB3.out⟩
      case round =>
        clear HC1 HC2 HB3 hm2 hb
        obtain ⟨k, hk, rfl, hrow, hnx, hb⟩ := hrel
        by_cases hlk : k ≤ t.size
        · obtain ⟨p1, p2⟩ := hrow.out.2 k _ (rowC_at hlk)
          obtain ⟨n1, n2⟩ := hnx.out.2 k _ (nextC_here hlk)
          have p3 := hrow.out.1
          have n3 := hnx.out.1
          have d0 : decide (k ≤ t.size) = true := decide_eq_true hlk
          by_cases hcc : c = 42
          · have q1 : ((c.toNat : Int) == 42) = true := by rw [hcc]; rfl
            have HRow0 := Lib.hid (HRow0.out hcc)
            have HRow := Lib.hid (HRow.out hcc)
            clear hcc HOne0 HOne
            obtain ⟨x, hx⟩ : ∃ x, fitL (p.data.toList.take i) (t.data.toList.take k) = x := ⟨_, rfl⟩
            rw [hx] at p1
            cases x
            · rcases k with _ | j
              · have HV := Lib.hid (put_next hlk (HRow0.out.trans hx) (by omega) hrow.out hnx.out hb (by omega))
                clear hx HRow0 HRow hrow hnx hb HT HLT
                go_wp2
                go_roundw
                case rel => exact ⟨1, by omega, by go_num, Lib.hid HV.out.1, Lib.hid HV.out.2.1, HV.out.2.2⟩
                case measure => simp [intOf]
              · obtain ⟨b, hb2⟩ : ∃ b, t.data.toList[j]? = some b := ⟨_, List.getElem?_eq_getElem (by rw [HLT.out]; omega)⟩
                obtain ⟨y, hy⟩ : ∃ y, fitL (p.data.toList.take (i + 1)) (t.data.toList.take j) = y := ⟨_, rfl⟩
                obtain ⟨m1, _⟩ := hnx.out.2 j _ (nextC_back (by omega))
                rw [hy] at m1
                have HV := Lib.hid (put_next (v := y) hlk (by rw [HRow.out j b hb2, hx, hy]; rfl) (by omega) hrow.out hnx.out hb (by omega))
                clear hx hy hb2 HRow0 HRow hrow hnx hb HT HLT
                go_wp2
                go_roundw
                case rel => exact ⟨j + 2, by omega, by go_num, Lib.hid HV.out.1, Lib.hid HV.out.2.1, HV.out.2.2⟩
                case measure => simp [intOf]; omega
            · have HV := Lib.hid (put_next (v := true) hlk (by
                rcases k with _ | j
                · rw [HRow0.out, hx]
                · obtain ⟨b, hb2⟩ : ∃ b, t.data.toList[j]? = some b := ⟨_, List.getElem?_eq_getElem (by rw [HLT.out]; omega)⟩
                  rw [HRow.out j b hb2, hx]; rfl) (by omega) hrow.out hnx.out hb (by omega))
              clear hx HRow0 HRow hrow hnx hb HT HLT
              go_wp2
              go_roundw
              case rel => exact ⟨k + 1, by omega, by go_num, Lib.hid HV.out.1, Lib.hid HV.out.2.1, HV.out.2.2⟩
              case measure => simp [intOf]; omega
          · have q1 : ((c.toNat : Int) == 42) = false := by
              rw [beq_eq_false_iff_ne]
              intro e
              exact hcc ((byte_eq (n := 42) (by omega)).1 e)
            have HOne0 := Lib.hid (HOne0.out hcc)
            have HOne := Lib.hid (HOne.out hcc)
            clear hcc HRow0 HRow p1 p2
            rcases k with _ | j
            · have HN : Hid (CellsAt wr _ (nextC p.data.toList t.data.toList t.size i (0 + 1))) := Lib.hid (nextC_skip (by omega) HOne0.out ▸ hnx.out)
              clear HOne0 HOne hnx HT HLT n1 n2
              go_wp2
              go_roundw
              case rel => exact ⟨1, by omega, by go_num, hrow, HN, hb⟩
              case measure => simp [intOf]
            · obtain ⟨b, hb2⟩ : ∃ b, t.data.toList[j]? = some b := ⟨_, List.getElem?_eq_getElem (by rw [HLT.out]; omega)⟩
              obtain ⟨hjt, hjb⟩ := HT.out j b hb2
              obtain ⟨y, hy⟩ : ∃ y, fitL (p.data.toList.take i) (t.data.toList.take j) = y := ⟨_, rfl⟩
              obtain ⟨m1, _⟩ := hrow.out.2 j _ (rowC_at (by omega))
              rw [hy] at m1
              have M1 := fun d os => cell_regrown m1 d os
              have HV := Lib.hid (HOne.out j b hb2)
              rw [hy] at HV
              have HG : Hid (∀ w9 v, Below wr.heap.size wr w9 → (y && hitB c b) = v → _ ∧ _ ∧ _) := Lib.hid (fun w9 v hw9 hv => put_next (v := v) hlk (HV.out.trans hv) (by omega) (hrow.out.on hw9) (hnx.out.on hw9) (on hb hw9) (by omega))
              clear HOne0 HOne hrow HT HLT HV hy hb2
              cases y
              · have HQ : Hid ((false && hitB c b) = false) := Lib.hid rfl
                go_wp2_with fail
                refine wp_region_mem 24 (fun _ => none) (by kernel_rfl) (by kernel_rfl) ?_
                simp only [List.take_succ_cons, List.take_zero, List.drop_succ_cons, List.drop_zero]
                repeat (first | ((with_reducible refine wpM_calm ?_ ?_ ?_ ?_); exact rfl; exact rfl; exact rfl; intro K hK; go_big_quiet_op; go_big_quiet_on) | ((with_reducible refine wpM_skip ?_ ?_); exact rfl; simp only [Act.put, List.setIfInBounds_toArray, List.set_cons_succ, List.set_cons_zero]))
                refine wpM_nil ?_
                intro w9 hw9 _
                have HV := Lib.hid (HG.out w9 false hw9 HQ.out)
                obtain ⟨n3, n4⟩ := (hnx.out.on hw9).2 (j + 1) _ (nextC_here hlk)
                have n5 := (hnx.out.on hw9).1
                clear M1 m1 HG HQ hnx hb n1 n2 hw9
                go_wp2
                go_roundw
                case rel => exact ⟨j + 2, by omega, by go_num, Lib.hid HV.out.1, Lib.hid HV.out.2.1, HV.out.2.2⟩
                case measure => simp [intOf]; omega
              · by_cases h63 : c = 63
                · have q2 : ((c.toNat : Int) == 63) = true := by rw [h63]; rfl
                  have HQ : Hid ((true && hitB c b) = true) := Lib.hid (by rw [h63]; rfl)
                  go_wp2_with fail
                  refine wp_region_mem 24 (fun _ => none) (by kernel_rfl) (by kernel_rfl) ?_
                  simp only [List.take_succ_cons, List.take_zero, List.drop_succ_cons, List.drop_zero]
                  repeat (first | ((with_reducible refine wpM_calm ?_ ?_ ?_ ?_); exact rfl; exact rfl; exact rfl; intro K hK; go_big_quiet_op; go_big_quiet_on) | ((with_reducible refine wpM_skip ?_ ?_); exact rfl; simp only [Act.put, List.setIfInBounds_toArray, List.set_cons_succ, List.set_cons_zero]))
                  refine wpM_nil ?_
                  intro w9 hw9 _
                  have HV := Lib.hid (HG.out w9 true hw9 HQ.out)
                  obtain ⟨n3, n4⟩ := (hnx.out.on hw9).2 (j + 1) _ (nextC_here hlk)
                  have n5 := (hnx.out.on hw9).1
                  clear M1 m1 HG HQ hnx hb n1 n2 hw9
                  go_wp2
                  go_roundw
                  case rel => exact ⟨j + 2, by omega, by go_num, Lib.hid HV.out.1, Lib.hid HV.out.2.1, HV.out.2.2⟩
                  case measure => simp [intOf]; omega
                · have q2 : ((c.toNat : Int) == 63) = false := by
                    rw [beq_eq_false_iff_ne]
                    intro e
                    exact h63 ((byte_eq (n := 63) (by omega)).1 e)
                  obtain ⟨v, hv⟩ : ∃ v, hitB c b = v := ⟨_, rfl⟩
                  have q3 : (c.toNat == b.toNat) = v := by
                    rw [← hv, Bool.eq_iff_iff]
                    simp [hitB, h63, UInt8.toNat_inj]
                  have q4 : ((c.toNat : Int) == (b.toNat : Int)) = v := by
                    rw [← q3, Bool.eq_iff_iff, beq_iff_eq, beq_iff_eq]
                    constructor <;> intro e <;> omega
                  have HQ : Hid ((true && hitB c b) = v) := Lib.hid (by rw [hv]; rfl)
                  clear hv h63
                  go_wp2_with fail
                  refine wp_region_mem 24 (fun _ => none) (by kernel_rfl) (by kernel_rfl) ?_
                  simp only [List.take_succ_cons, List.take_zero, List.drop_succ_cons, List.drop_zero]
                  repeat (first | ((with_reducible refine wpM_calm ?_ ?_ ?_ ?_); exact rfl; exact rfl; exact rfl; intro K hK; go_big_quiet_op; go_big_quiet_on) | ((with_reducible refine wpM_skip ?_ ?_); exact rfl; simp only [Act.put, List.setIfInBounds_toArray, List.set_cons_succ, List.set_cons_zero]))
                  refine wpM_nil ?_
                  intro w9 hw9 _
                  have HV := Lib.hid (HG.out w9 v hw9 HQ.out)
                  obtain ⟨n3, n4⟩ := (hnx.out.on hw9).2 (j + 1) _ (nextC_here hlk)
                  have n5 := (hnx.out.on hw9).1
                  clear M1 m1 HG HQ hnx hb n1 n2 hw9
                  go_wp2
                  go_roundw
                  case rel => exact ⟨j + 2, by omega, by go_num, Lib.hid HV.out.1, Lib.hid HV.out.2.1, HV.out.2.2⟩
                  case measure => simp [intOf]; omega
        · obtain rfl : k = t.size + 1 := by omega
          have d0 : decide (t.size + 1 ≤ t.size) = false := decide_eq_false hlk
          have hrow2 := hnx.out
          rw [nextC_end] at hrow2
          have HN := Lib.hid hrow2
          clear hrow hnx hrow2 HRow0 HRow HOne0 HOne HT HLT
          go_wp2
          go_roundw
          case rel =>
            refine ⟨i + 1, _, by omega, by go_num, rfl, ?_, HN, hb⟩
            omega
          case measure => simp [intOf]; omega
    · obtain rfl : i = p.size := by omega
      obtain ⟨p1, p2⟩ := hc.out.2 t.size _ (rowC_at (Nat.le_refl _))
      rw [HR.out] at p1
      have p3 := hc.out.1
      clear HP HT HLP HLT HM HR hc
      go_wp2
      go_ret
      exact ⟨rfl, hb⟩
end Go.Proofs.YtbjomidkeignjaaGreatDoor.Crt
