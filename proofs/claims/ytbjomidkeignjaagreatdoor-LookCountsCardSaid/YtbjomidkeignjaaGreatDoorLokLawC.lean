/- What the statement LookCounts answers: yes, for every table and value. Written by wip/gen18o.py. -/
import Derived.Test.YtbjomidkeignjaaGreatDoorLokAlive
import Derived.Test.YtbjomidkeignjaaGreatDoorL2
namespace Go.Proofs.YtbjomidkeignjaaGreatDoor.Lok
open Go.RowKit Kit Reg Dec Dig Val Fld
open Crt (CLibs LawEnd CritIs RCritIs hitsV holdsD fullK of_any of_fault of_words splitL meantV meant_may)

/-- how many faults are in a list -/
def faultsN (L : List Vl) : Nat := L.countP fun v => decide (v.k = 4)
theorem faults_hit {L : List Vl} {k : Nat} {v : Vl} (h : L[k]? = some v) (h1 : v.k = 4) : faultsN (L.take (k + 1)) = faultsN (L.take k) + 1 := by
  rw [List.take_add_one, h]
  simp [faultsN, List.countP_append, h1]
theorem faults_miss {L : List Vl} {k : Nat} {v : Vl} (h : L[k]? = some v) (h1 : ¬ v.k = 4) : faultsN (L.take (k + 1)) = faultsN (L.take k) := by
  rw [List.take_add_one, h]
  simp [faultsN, List.countP_append, h1]
theorem faults_le (L : List Vl) : faultsN L ≤ L.length := List.countP_le_length
/-- what is hit and what is not are together all -/
theorem hits_part (k2 n2 : Int) (t2 : ByteArray) : ∀ L : List Vl, (hitL 7 k2 n2 t2 L).length + (hitL 8 k2 n2 t2 L).length + faultsN L = L.length
  | [] => rfl
  | v :: r => by
    have ih := hits_part k2 n2 t2 r
    unfold hitL faultsN at ih ⊢
    rw [List.filter_cons, List.filter_cons, List.countP_cons, List.length_cons]
    by_cases h4 : v.k = 4
    · have e : ∀ op, hitsV op k2 n2 t2 v.k v.n v.t = false := fun op => by unfold hitsV; rw [if_pos h4]
      rw [e 7, e 8, decide_eq_true h4]
      simp only [Bool.false_eq_true, if_false, if_true]
      omega
    · have e : hitsV 8 k2 n2 t2 v.k v.n v.t = !hitsV 7 k2 n2 t2 v.k v.n v.t := by
        unfold hitsV
        rw [if_neg h4, if_neg h4]
        split
        · split <;> rfl
        · rfl
      rw [e, decide_eq_false h4]
      cases hitsV 7 k2 n2 t2 v.k v.n v.t
      · simp only [Bool.not_false, Bool.false_eq_true, if_false, if_true, List.length_cons]
        omega
      · simp only [Bool.not_true, Bool.false_eq_true, if_false, if_true, List.length_cons]
        omega
theorem eq_list (t : ByteArray) : ((⟨#[61]⟩ : ByteArray) ++ t).data.toList = 61 :: t.data.toList := by simp
theorem ne_list (t : ByteArray) : ((⟨#[60, 62]⟩ : ByteArray) ++ t).data.toList = 60 :: 62 :: t.data.toList := by simp
theorem eq_size (t : ByteArray) : ((⟨#[61]⟩ : ByteArray) ++ t).size = t.size + 1 := by rw [ByteArray.size_append]; show 1 + t.size = _; omega
theorem ne_size (t : ByteArray) : ((⟨#[60, 62]⟩ : ByteArray) ++ t).size = t.size + 2 := by rw [ByteArray.size_append]; show 2 + t.size = _; omega
theorem eq_split (t : ByteArray) : splitL ((⟨#[61]⟩ : ByteArray) ++ t).data.toList = (7, 1) := by
  rw [eq_list]
  simp [splitL, Crt.hasJ, Lib.hasPrefix, List.isPrefixOf]
theorem ne_split (t : ByteArray) : splitL ((⟨#[60, 62]⟩ : ByteArray) ++ t).data.toList = (8, 2) := by
  rw [ne_list]
  simp [splitL, Crt.hasJ, Lib.hasPrefix, List.isPrefixOf]
theorem eq_rest (t : ByteArray) : ((⟨#[61]⟩ : ByteArray) ++ t).extract 1 ((⟨#[61]⟩ : ByteArray) ++ t).size = t := bytes_eq (by rw [ext_drop, eq_list]; rfl)
theorem ne_rest (t : ByteArray) : ((⟨#[60, 62]⟩ : ByteArray) ++ t).extract 2 ((⟨#[60, 62]⟩ : ByteArray) ++ t).size = t := bytes_eq (by rw [ext_drop, ne_list]; rfl)
theorem eq_of (t : ByteArray) (h : t.size ≤ 60) (k n : Int) (s : ByteArray) (hm : meantV t = (k, n, s)) (w : World) (hL : CLibs w) : Calls Tryz.prog 64 #[.agg #[.int .i64 2, .int .i64 0, .string (⟨#[61]⟩ ++ t)]] w (CritIs 7 k n s true w) := by
  have h1 := eq_split t
  have h2 := eq_rest t
  have h3 := eq_size t
  generalize (⟨#[61]⟩ : ByteArray) ++ t = u at *
  exact of_words u (by omega) 7 1 h1 k n s (by rw [h2]; exact hm) w hL
theorem ne_of (t : ByteArray) (h : t.size ≤ 60) (k n : Int) (s : ByteArray) (hm : meantV t = (k, n, s)) (w : World) (hL : CLibs w) : Calls Tryz.prog 64 #[.agg #[.int .i64 2, .int .i64 0, .string (⟨#[60, 62]⟩ ++ t)]] w (CritIs 8 k n s true w) := by
  have h1 := ne_split t
  have h2 := ne_rest t
  have h3 := ne_size t
  generalize (⟨#[60, 62]⟩ : ByteArray) ++ t = u at *
  exact of_words u (by omega) 8 2 h1 k n s (by rw [h2]; exact hm) w hL
theorem eq_str (t : ByteArray) (h : t.size ≤ 60) (w : World) : Calls Tryz.prog 27 #[.string (⟨#[61]⟩ ++ t)] w (ValIs 2 0 (⟨#[61]⟩ ++ t) w) := by
  have h3 := eq_size t
  generalize (⟨#[61]⟩ : ByteArray) ++ t = u at *
  exact str_c u 2 0 u (str_in (by omega)) w
theorem ne_str (t : ByteArray) (h : t.size ≤ 60) (w : World) : Calls Tryz.prog 27 #[.string (⟨#[60, 62]⟩ ++ t)] w (ValIs 2 0 (⟨#[60, 62]⟩ ++ t) w) := by
  have h3 := ne_size t
  generalize (⟨#[60, 62]⟩ : ByteArray) ++ t = u at *
  exact str_c u 2 0 u (str_in (by omega)) w
theorem text_count (r c : Int) (A : Option Addr) (n cap : Nat) (u : ByteArray) (op k2 n2 : Int) (t2 : ByteArray) (L : List Vl) (HO : ∀ w, CLibs w → Calls Tryz.prog 64 #[.agg #[.int .i64 2, .int .i64 0, .string u]] w (CritIs op k2 n2 t2 true w)) (HH : HitsC 65 op k2 n2 t2 L) (w : World) (hL : CLibs w) (hz : ValsR w A n L) :
    Calls Tryz.prog 21 #[.agg #[.int .i64 r, .int .i64 c, .slice A n cap], .agg #[.int .i64 2, .int .i64 0, .string u]] w (ValIs 1 (((hitL op k2 n2 t2 L).length : Int) * 10000) ⟨#[]⟩ w) := by
  have h : ∀ w1, Below w.heap.size w w1 → Calls Tryz.prog 42 #[.agg #[.int .i64 r, .int .i64 c, .slice A n cap], .agg #[.int .i64 2, .int .i64 0, .string u]] w1 (HitEnd (hitL op k2 n2 t2 L) true w1) := fun w1 hw =>
    hit_in r c A n cap 2 0 u op k2 n2 t2 L w1 (fun w2 hw2 => HO w2 ((hL.grown hw).grown hw2)) HH (hz.on hw)
  exact countif_in r c A n cap 2 0 u _ w h

set_option maxRecDepth 100000 in
set_option maxHeartbeats 8000000 in
theorem counts_law_1 (r c : Int) (A : Option Addr) (n cap : Nat) (bk bn : Int) (bt : ByteArray) (w : World) (H1 : ∀ w1, Below w.heap.size w w1 → Calls Tryz.prog 16 #[.agg #[.int .i64 r, .int .i64 c, .slice A n cap]] w1 (Bit false w1)) (hL : CLibs w) :
    Calls Tryz.prog 5 #[.agg #[.int .i64 r, .int .i64 c, .slice A n cap], .agg #[.int .i64 bk, .int .i64 bn, .string bt]] w (LawEnd w) := by
  have H1 := Lib.hid H1
  have HA := Lib.hid (fun w1 h => life_c w1 h)
  have HL := Lib.hid hL
  have ht0 := (CellsAt.new w [.int .i64 r, .int .i64 c, .slice A n cap] 24).on_alloc (.cells #[.int .i64 bk, .int .i64 bn, .string bt] 26)
  have hx0 := newAt (w0 := w.alloc (.cells #[.int .i64 r, .int .i64 c, .slice A n cap] 24)) (g := w.heap.size + 1) (by simp) [.int .i64 bk, .int .i64 bn, .string bt] 26
  have hb0 := below2 w (.cells #[.int .i64 r, .int .i64 c, .slice A n cap] 24) (.cells #[.int .i64 bk, .int .i64 bn, .string bt] 26)
  clear hL
  obtain ⟨t0, t1, t2, _⟩ := ht0.three
  obtain ⟨x0, x1, x2, _⟩ := hx0.three
  go_enter Tryz.func5, Tryz.ntmps5
  go_wp2_with fail
  refine (H1.out _ hb0).mono ?_
  rintro e w1 ⟨rfl, hb1⟩
  clear t0 t1 t2 x0 x1 x2
  replace ht0 := ht0.on hb1
  replace hx0 := hx0.on hb1
  replace hb0 := on hb0 hb1
  clear hb1 H1
  obtain ⟨t0, t1, t2, _⟩ := ht0.three
  obtain ⟨x0, x1, x2, _⟩ := hx0.three
  have HL1 := Lib.hid (HL.out.grown hb0)
  go_wp2_with fail
  refine (HA.out _ HL1.out).mono ?_
  rintro e w9 ⟨rfl, hb9⟩
  clear t0 t1 t2 x0 x1 x2
  clear ht0 hx0
  go_wp2
  go_ret
  exact ⟨rfl, on hb0 hb9⟩
set_option maxRecDepth 100000 in
set_option maxHeartbeats 8000000 in
theorem counts_law_2 (r c : Int) (A : Option Addr) (n cap : Nat) (bk bn : Int) (bt : ByteArray) (w : World) (H1 : ∀ w1, Below w.heap.size w w1 → Calls Tryz.prog 16 #[.agg #[.int .i64 r, .int .i64 c, .slice A n cap]] w1 (Bit true w1)) (HX : ∀ w1, Calls Tryz.prog 10 #[.agg #[.int .i64 bk, .int .i64 bn, .string bt]] w1 (Bit false w1)) (hL : CLibs w) :
    Calls Tryz.prog 5 #[.agg #[.int .i64 r, .int .i64 c, .slice A n cap], .agg #[.int .i64 bk, .int .i64 bn, .string bt]] w (LawEnd w) := by
  have H1 := Lib.hid H1
  have HX := Lib.hid HX
  have HA := Lib.hid (fun w1 h => life_c w1 h)
  have HL := Lib.hid hL
  have ht0 := (CellsAt.new w [.int .i64 r, .int .i64 c, .slice A n cap] 24).on_alloc (.cells #[.int .i64 bk, .int .i64 bn, .string bt] 26)
  have hx0 := newAt (w0 := w.alloc (.cells #[.int .i64 r, .int .i64 c, .slice A n cap] 24)) (g := w.heap.size + 1) (by simp) [.int .i64 bk, .int .i64 bn, .string bt] 26
  have hb0 := below2 w (.cells #[.int .i64 r, .int .i64 c, .slice A n cap] 24) (.cells #[.int .i64 bk, .int .i64 bn, .string bt] 26)
  clear hL
  obtain ⟨t0, t1, t2, _⟩ := ht0.three
  obtain ⟨x0, x1, x2, _⟩ := hx0.three
  go_enter Tryz.func5, Tryz.ntmps5
  go_wp2_with fail
  refine (H1.out _ hb0).mono ?_
  rintro e w1 ⟨rfl, hb1⟩
  clear t0 t1 t2 x0 x1 x2
  replace ht0 := ht0.on hb1
  replace hx0 := hx0.on hb1
  replace hb0 := on hb0 hb1
  clear hb1 H1
  obtain ⟨t0, t1, t2, _⟩ := ht0.three
  obtain ⟨x0, x1, x2, _⟩ := hx0.three
  go_wp2_with fail
  refine (HX.out _).mono ?_
  rintro e w2 ⟨rfl, hb2⟩
  clear t0 t1 t2 x0 x1 x2
  replace ht0 := ht0.on hb2
  replace hx0 := hx0.on hb2
  replace hb0 := on hb0 hb2
  clear hb2 HX
  obtain ⟨t0, t1, t2, _⟩ := ht0.three
  obtain ⟨x0, x1, x2, _⟩ := hx0.three
  have HL1 := Lib.hid (HL.out.grown hb0)
  go_wp2_with fail
  refine (HA.out _ HL1.out).mono ?_
  rintro e w9 ⟨rfl, hb9⟩
  clear t0 t1 t2 x0 x1 x2
  clear ht0 hx0
  go_wp2
  go_ret
  exact ⟨rfl, on hb0 hb9⟩
set_option maxRecDepth 100000 in
set_option maxHeartbeats 8000000 in
theorem counts_law_3 (r c : Int) (A : Option Addr) (n cap : Nat) (bk bn : Int) (bt : ByteArray) (h : 60 < bt.size) (w : World) (H1 : ∀ w1, Below w.heap.size w w1 → Calls Tryz.prog 16 #[.agg #[.int .i64 r, .int .i64 c, .slice A n cap]] w1 (Bit true w1)) (HX : ∀ w1, Calls Tryz.prog 10 #[.agg #[.int .i64 bk, .int .i64 bn, .string bt]] w1 (Bit true w1)) (hL : CLibs w) :
    Calls Tryz.prog 5 #[.agg #[.int .i64 r, .int .i64 c, .slice A n cap], .agg #[.int .i64 bk, .int .i64 bn, .string bt]] w (LawEnd w) := by
  have d1 : decide ((60 : Int) < (bt.size : Int)) = true := decide_eq_true (by omega)
  have d2 : decide (60 < bt.size) = true := decide_eq_true (by omega)
  have H1 := Lib.hid H1
  have HX := Lib.hid HX
  have HA := Lib.hid (fun w1 h => life_c w1 h)
  have HL := Lib.hid hL
  have ht0 := (CellsAt.new w [.int .i64 r, .int .i64 c, .slice A n cap] 24).on_alloc (.cells #[.int .i64 bk, .int .i64 bn, .string bt] 26)
  have hx0 := newAt (w0 := w.alloc (.cells #[.int .i64 r, .int .i64 c, .slice A n cap] 24)) (g := w.heap.size + 1) (by simp) [.int .i64 bk, .int .i64 bn, .string bt] 26
  have hb0 := below2 w (.cells #[.int .i64 r, .int .i64 c, .slice A n cap] 24) (.cells #[.int .i64 bk, .int .i64 bn, .string bt] 26)
  clear hL
  obtain ⟨t0, t1, t2, _⟩ := ht0.three
  obtain ⟨x0, x1, x2, _⟩ := hx0.three
  go_enter Tryz.func5, Tryz.ntmps5
  go_wp2_with fail
  refine (H1.out _ hb0).mono ?_
  rintro e w1 ⟨rfl, hb1⟩
  clear t0 t1 t2 x0 x1 x2
  replace ht0 := ht0.on hb1
  replace hx0 := hx0.on hb1
  replace hb0 := on hb0 hb1
  clear hb1 H1
  obtain ⟨t0, t1, t2, _⟩ := ht0.three
  obtain ⟨x0, x1, x2, _⟩ := hx0.three
  go_wp2_with fail
  refine (HX.out _).mono ?_
  rintro e w2 ⟨rfl, hb2⟩
  clear t0 t1 t2 x0 x1 x2
  replace ht0 := ht0.on hb2
  replace hx0 := hx0.on hb2
  replace hb0 := on hb0 hb2
  clear hb2 HX
  obtain ⟨t0, t1, t2, _⟩ := ht0.three
  obtain ⟨x0, x1, x2, _⟩ := hx0.three
  have HL1 := Lib.hid (HL.out.grown hb0)
  go_wp2_with fail
  refine (HA.out _ HL1.out).mono ?_
  rintro e w9 ⟨rfl, hb9⟩
  clear t0 t1 t2 x0 x1 x2
  clear ht0 hx0
  go_wp2
  go_ret
  exact ⟨rfl, on hb0 hb9⟩
set_option maxRecDepth 100000 in
set_option maxHeartbeats 8000000 in
theorem counts_law_4 (r c : Int) (A : Option Addr) (n cap : Nat) (bk bn : Int) (bt : ByteArray) (yk yn : Int) (yt : ByteArray) (sk sn : Int) (st : ByteArray) (mk mn : Int) (mt : ByteArray) (h : bt.size ≤ 60) (h2 : (bk == 2) = false) (w : World) (H1 : ∀ w1, Below w.heap.size w w1 → Calls Tryz.prog 16 #[.agg #[.int .i64 r, .int .i64 c, .slice A n cap]] w1 (Bit true w1)) (HX : ∀ w1, Calls Tryz.prog 10 #[.agg #[.int .i64 bk, .int .i64 bn, .string bt]] w1 (Bit true w1)) (HPc : ∀ w1, Below w.heap.size w w1 → Calls Tryz.prog 21 #[.agg #[.int .i64 r, .int .i64 c, .slice A n cap], .agg #[.int .i64 bk, .int .i64 bn, .string bt]] w1 (ValIs yk yn yt w1)) (HRc : ∀ w1, Below w.heap.size w w1 → Calls Tryz.prog 22 #[.agg #[.int .i64 r, .int .i64 c, .slice A n cap], .agg #[.int .i64 bk, .int .i64 bn, .string bt]] w1 (ValIs yk yn yt w1)) (HPs : ∀ w1, Below w.heap.size w w1 → Calls Tryz.prog 23 #[.agg #[.int .i64 r, .int .i64 c, .slice A n cap], .agg #[.int .i64 bk, .int .i64 bn, .string bt]] w1 (ValIs sk sn st w1)) (HRs : ∀ w1, Below w.heap.size w w1 → Calls Tryz.prog 24 #[.agg #[.int .i64 r, .int .i64 c, .slice A n cap], .agg #[.int .i64 bk, .int .i64 bn, .string bt]] w1 (ValIs sk sn st w1)) (HPm : ∀ w1, Below w.heap.size w w1 → Calls Tryz.prog 25 #[.agg #[.int .i64 r, .int .i64 c, .slice A n cap], .agg #[.int .i64 bk, .int .i64 bn, .string bt]] w1 (ValIs mk mn mt w1)) (HRm : ∀ w1, Below w.heap.size w w1 → Calls Tryz.prog 26 #[.agg #[.int .i64 r, .int .i64 c, .slice A n cap], .agg #[.int .i64 bk, .int .i64 bn, .string bt]] w1 (ValIs mk mn mt w1)) (hL : CLibs w) :
    Calls Tryz.prog 5 #[.agg #[.int .i64 r, .int .i64 c, .slice A n cap], .agg #[.int .i64 bk, .int .i64 bn, .string bt]] w (LawEnd w) := by
  have d1 : decide ((60 : Int) < (bt.size : Int)) = false := decide_eq_false (by omega)
  have d2 : decide (60 < bt.size) = false := decide_eq_false (by omega)
  have h3 : (bk != 2) = true := by simp only [bne, h2]; rfl
  have H1 := Lib.hid H1
  have HX := Lib.hid HX
  have HPc := Lib.hid HPc
  have HRc := Lib.hid HRc
  have HPs := Lib.hid HPs
  have HRs := Lib.hid HRs
  have HPm := Lib.hid HPm
  have HRm := Lib.hid HRm
  have HA := Lib.hid (fun w1 h => life_c w1 h)
  have HL := Lib.hid hL
  have ht0 := (CellsAt.new w [.int .i64 r, .int .i64 c, .slice A n cap] 24).on_alloc (.cells #[.int .i64 bk, .int .i64 bn, .string bt] 26)
  have hx0 := newAt (w0 := w.alloc (.cells #[.int .i64 r, .int .i64 c, .slice A n cap] 24)) (g := w.heap.size + 1) (by simp) [.int .i64 bk, .int .i64 bn, .string bt] 26
  have hb0 := below2 w (.cells #[.int .i64 r, .int .i64 c, .slice A n cap] 24) (.cells #[.int .i64 bk, .int .i64 bn, .string bt] 26)
  clear hL
  obtain ⟨t0, t1, t2, _⟩ := ht0.three
  obtain ⟨x0, x1, x2, _⟩ := hx0.three
  go_enter Tryz.func5, Tryz.ntmps5
  go_wp2_with fail
  refine (H1.out _ hb0).mono ?_
  rintro e w1 ⟨rfl, hb1⟩
  clear t0 t1 t2 x0 x1 x2
  replace ht0 := ht0.on hb1
  replace hx0 := hx0.on hb1
  replace hb0 := on hb0 hb1
  clear hb1 H1
  obtain ⟨t0, t1, t2, _⟩ := ht0.three
  obtain ⟨x0, x1, x2, _⟩ := hx0.three
  go_wp2_with fail
  refine (HX.out _).mono ?_
  rintro e w2 ⟨rfl, hb2⟩
  clear t0 t1 t2 x0 x1 x2
  replace ht0 := ht0.on hb2
  replace hx0 := hx0.on hb2
  replace hb0 := on hb0 hb2
  clear hb2 HX
  obtain ⟨t0, t1, t2, _⟩ := ht0.three
  obtain ⟨x0, x1, x2, _⟩ := hx0.three
  go_wp2_with fail
  have T0 := fun d os => cell_regrown t0 d os
  have T1 := fun d os => cell_regrown t1 d os
  have T2 := fun d os => cell_regrown t2 d os
  have X0 := fun d os => cell_regrown x0 d os
  have X1 := fun d os => cell_regrown x1 d os
  have X2 := fun d os => cell_regrown x2 d os
  clear t0 t1 t2 x0 x1 x2
  refine wp_region_mem 25 (fun d => match d with
    | 27 => some (Is (.agg #[.int .i64 yk, .int .i64 yn, .string yt]))
    | 30 => some (Is (.agg #[.int .i64 yk, .int .i64 yn, .string yt]))
    | 35 => some (Is (.agg #[.int .i64 sk, .int .i64 sn, .string st]))
    | 38 => some (Is (.agg #[.int .i64 sk, .int .i64 sn, .string st]))
    | 44 => some (Is (.agg #[.int .i64 mk, .int .i64 mn, .string mt]))
    | 47 => some (Is (.agg #[.int .i64 mk, .int .i64 mn, .string mt]))
    | _ => none) (by kernel_rfl) (by kernel_rfl) ?_
  try simp only [List.append]
  simp only [List.take_succ_cons, List.take_zero, List.drop_succ_cons, List.drop_zero]
  repeat (first | ((with_reducible refine wpM_calm ?_ ?_ ?_ ?_); exact rfl; exact rfl; exact rfl; intro K hK; go_big_quiet_op; go_big_quiet_on) | ((with_reducible refine wpM_skip ?_ ?_); exact rfl; simp only [Act.put, List.setIfInBounds_toArray, List.set_cons_succ, List.set_cons_zero]))
  refine wpM_exact rfl rfl rfl Tryz.func21 (by kernel_rfl) (by kernel_rfl) (fun w1 hw1 _ => HPc.out w1 (on hb0 hw1)) rfl (by simp only [Act.put, List.setIfInBounds_toArray, List.set_cons_succ, List.set_cons_zero]; rfl) ?_
  repeat (first | ((with_reducible refine wpM_calm ?_ ?_ ?_ ?_); exact rfl; exact rfl; exact rfl; intro K hK; go_big_quiet_op; go_big_quiet_on) | ((with_reducible refine wpM_skip ?_ ?_); exact rfl; simp only [Act.put, List.setIfInBounds_toArray, List.set_cons_succ, List.set_cons_zero]))
  refine wpM_exact rfl rfl rfl Tryz.func22 (by kernel_rfl) (by kernel_rfl) (fun w1 hw1 _ => HRc.out w1 (on hb0 hw1)) rfl (by simp only [Act.put, List.setIfInBounds_toArray, List.set_cons_succ, List.set_cons_zero]; rfl) ?_
  repeat (first | ((with_reducible refine wpM_calm ?_ ?_ ?_ ?_); exact rfl; exact rfl; exact rfl; intro K hK; go_big_quiet_op; go_big_quiet_on) | ((with_reducible refine wpM_skip ?_ ?_); exact rfl; simp only [Act.put, List.setIfInBounds_toArray, List.set_cons_succ, List.set_cons_zero]))
  refine wpM_exact rfl rfl rfl Tryz.func23 (by kernel_rfl) (by kernel_rfl) (fun w1 hw1 _ => HPs.out w1 (on hb0 hw1)) rfl (by simp only [Act.put, List.setIfInBounds_toArray, List.set_cons_succ, List.set_cons_zero]; rfl) ?_
  repeat (first | ((with_reducible refine wpM_calm ?_ ?_ ?_ ?_); exact rfl; exact rfl; exact rfl; intro K hK; go_big_quiet_op; go_big_quiet_on) | ((with_reducible refine wpM_skip ?_ ?_); exact rfl; simp only [Act.put, List.setIfInBounds_toArray, List.set_cons_succ, List.set_cons_zero]))
  refine wpM_exact rfl rfl rfl Tryz.func24 (by kernel_rfl) (by kernel_rfl) (fun w1 hw1 _ => HRs.out w1 (on hb0 hw1)) rfl (by simp only [Act.put, List.setIfInBounds_toArray, List.set_cons_succ, List.set_cons_zero]; rfl) ?_
  repeat (first | ((with_reducible refine wpM_calm ?_ ?_ ?_ ?_); exact rfl; exact rfl; exact rfl; intro K hK; go_big_quiet_op; go_big_quiet_on) | ((with_reducible refine wpM_skip ?_ ?_); exact rfl; simp only [Act.put, List.setIfInBounds_toArray, List.set_cons_succ, List.set_cons_zero]))
  refine wpM_exact rfl rfl rfl Tryz.func25 (by kernel_rfl) (by kernel_rfl) (fun w1 hw1 _ => HPm.out w1 (on hb0 hw1)) rfl (by simp only [Act.put, List.setIfInBounds_toArray, List.set_cons_succ, List.set_cons_zero]; rfl) ?_
  repeat (first | ((with_reducible refine wpM_calm ?_ ?_ ?_ ?_); exact rfl; exact rfl; exact rfl; intro K hK; go_big_quiet_op; go_big_quiet_on) | ((with_reducible refine wpM_skip ?_ ?_); exact rfl; simp only [Act.put, List.setIfInBounds_toArray, List.set_cons_succ, List.set_cons_zero]))
  refine wpM_exact rfl rfl rfl Tryz.func26 (by kernel_rfl) (by kernel_rfl) (fun w1 hw1 _ => HRm.out w1 (on hb0 hw1)) rfl (by simp only [Act.put, List.setIfInBounds_toArray, List.set_cons_succ, List.set_cons_zero]; rfl) ?_
  repeat (first | ((with_reducible refine wpM_calm ?_ ?_ ?_ ?_); exact rfl; exact rfl; exact rfl; intro K hK; go_big_quiet_op; go_big_quiet_on) | ((with_reducible refine wpM_skip ?_ ?_); exact rfl; simp only [Act.put, List.setIfInBounds_toArray, List.set_cons_succ, List.set_cons_zero]))
  refine wpM_nil ?_
  intro w3 hw3 _
  clear T0 T1 T2 X0 X1 X2
  replace ht0 := ht0.on hw3
  replace hx0 := hx0.on hw3
  replace hb0 := on hb0 hw3
  clear hw3 HPc HRc HPs HRs HPm HRm
  obtain ⟨t0, t1, t2, _⟩ := ht0.three
  obtain ⟨x0, x1, x2, _⟩ := hx0.three
  have HL1 := Lib.hid (HL.out.grown hb0)
  go_wp2_with fail
  refine (HA.out _ HL1.out).mono ?_
  rintro e w9 ⟨rfl, hb9⟩
  clear t0 t1 t2 x0 x1 x2
  clear ht0 hx0
  go_wp2
  go_ret
  exact ⟨rfl, on hb0 hb9⟩
set_option maxRecDepth 100000 in
set_option maxHeartbeats 8000000 in
theorem counts_law_5 (r c : Int) (A : Option Addr) (n cap : Nat) (bn : Int) (bt : ByteArray) (yk yn : Int) (yt : ByteArray) (sk sn : Int) (st : ByteArray) (mk mn : Int) (mt : ByteArray) (L : List Vl) (h : bt.size ≤ 60) (hn6 : n ≤ 60) (w : World) (hz : ValsR w A n L) (H1 : ∀ w1, Below w.heap.size w w1 → Calls Tryz.prog 16 #[.agg #[.int .i64 r, .int .i64 c, .slice A n cap]] w1 (Bit true w1)) (HX : ∀ w1, Calls Tryz.prog 10 #[.agg #[.int .i64 2, .int .i64 bn, .string bt]] w1 (Bit true w1)) (HPc : ∀ w1, Below w.heap.size w w1 → Calls Tryz.prog 21 #[.agg #[.int .i64 r, .int .i64 c, .slice A n cap], .agg #[.int .i64 2, .int .i64 bn, .string bt]] w1 (ValIs yk yn yt w1)) (HRc : ∀ w1, Below w.heap.size w w1 → Calls Tryz.prog 22 #[.agg #[.int .i64 r, .int .i64 c, .slice A n cap], .agg #[.int .i64 2, .int .i64 bn, .string bt]] w1 (ValIs yk yn yt w1)) (HPs : ∀ w1, Below w.heap.size w w1 → Calls Tryz.prog 23 #[.agg #[.int .i64 r, .int .i64 c, .slice A n cap], .agg #[.int .i64 2, .int .i64 bn, .string bt]] w1 (ValIs sk sn st w1)) (HRs : ∀ w1, Below w.heap.size w w1 → Calls Tryz.prog 24 #[.agg #[.int .i64 r, .int .i64 c, .slice A n cap], .agg #[.int .i64 2, .int .i64 bn, .string bt]] w1 (ValIs sk sn st w1)) (HPm : ∀ w1, Below w.heap.size w w1 → Calls Tryz.prog 25 #[.agg #[.int .i64 r, .int .i64 c, .slice A n cap], .agg #[.int .i64 2, .int .i64 bn, .string bt]] w1 (ValIs mk mn mt w1)) (HRm : ∀ w1, Below w.heap.size w w1 → Calls Tryz.prog 26 #[.agg #[.int .i64 r, .int .i64 c, .slice A n cap], .agg #[.int .i64 2, .int .i64 bn, .string bt]] w1 (ValIs mk mn mt w1)) (q1 q2 : Int) (f : Nat) (hf : faultsN L = f) (hq : q1 + q2 = ((n : Int) - (f : Int)) * 10000) (b1 : 0 ≤ q1 ∧ q1 ≤ 600000) (b2 : 0 ≤ q2 ∧ q2 ≤ 600000) (HSe : ∀ w1, Calls Tryz.prog 27 #[.string (⟨#[61]⟩ ++ bt)] w1 (ValIs 2 0 (⟨#[61]⟩ ++ bt) w1)) (HSn : ∀ w1, Calls Tryz.prog 27 #[.string (⟨#[60, 62]⟩ ++ bt)] w1 (ValIs 2 0 (⟨#[60, 62]⟩ ++ bt) w1)) (HCe : ∀ w1, Below w.heap.size w w1 → Calls Tryz.prog 21 #[.agg #[.int .i64 r, .int .i64 c, .slice A n cap], .agg #[.int .i64 2, .int .i64 0, .string (⟨#[61]⟩ ++ bt)]] w1 (ValIs 1 q1 ⟨#[]⟩ w1)) (HCn : ∀ w1, Below w.heap.size w w1 → Calls Tryz.prog 21 #[.agg #[.int .i64 r, .int .i64 c, .slice A n cap], .agg #[.int .i64 2, .int .i64 0, .string (⟨#[60, 62]⟩ ++ bt)]] w1 (ValIs 1 q2 ⟨#[]⟩ w1)) (hL : CLibs w) :
    Calls Tryz.prog 5 #[.agg #[.int .i64 r, .int .i64 c, .slice A n cap], .agg #[.int .i64 2, .int .i64 bn, .string bt]] w (LawEnd w) := by
  have d1 : decide ((60 : Int) < (bt.size : Int)) = false := decide_eq_false (by omega)
  have d2 : decide (60 < bt.size) = false := decide_eq_false (by omega)
  have H1 := Lib.hid H1
  have HX := Lib.hid HX
  have HSe := Lib.hid HSe
  have HSn := Lib.hid HSn
  have HCe := Lib.hid HCe
  have HCn := Lib.hid HCn
  have HZ := Lib.hid hz
  have HF := Lib.hid hf
  have HFL := Lib.hid hz.1
  have hf9 : f ≤ n := by rw [← hf, ← hz.1]; exact faults_le L
  clear hz hf
  have HPc := Lib.hid HPc
  have HRc := Lib.hid HRc
  have HPs := Lib.hid HPs
  have HRs := Lib.hid HRs
  have HPm := Lib.hid HPm
  have HRm := Lib.hid HRm
  have HA := Lib.hid (fun w1 h => life_c w1 h)
  have HL := Lib.hid hL
  have ht0 := (CellsAt.new w [.int .i64 r, .int .i64 c, .slice A n cap] 24).on_alloc (.cells #[.int .i64 2, .int .i64 bn, .string bt] 26)
  have hx0 := newAt (w0 := w.alloc (.cells #[.int .i64 r, .int .i64 c, .slice A n cap] 24)) (g := w.heap.size + 1) (by simp) [.int .i64 2, .int .i64 bn, .string bt] 26
  have hb0 := below2 w (.cells #[.int .i64 r, .int .i64 c, .slice A n cap] 24) (.cells #[.int .i64 2, .int .i64 bn, .string bt] 26)
  clear hL
  obtain ⟨t0, t1, t2, _⟩ := ht0.three
  obtain ⟨x0, x1, x2, _⟩ := hx0.three
  go_enter Tryz.func5, Tryz.ntmps5
  go_wp2_with fail
  refine (H1.out _ hb0).mono ?_
  rintro e w1 ⟨rfl, hb1⟩
  clear t0 t1 t2 x0 x1 x2
  replace ht0 := ht0.on hb1
  replace hx0 := hx0.on hb1
  replace hb0 := on hb0 hb1
  clear hb1 H1
  obtain ⟨t0, t1, t2, _⟩ := ht0.three
  obtain ⟨x0, x1, x2, _⟩ := hx0.three
  go_wp2_with fail
  refine (HX.out _).mono ?_
  rintro e w2 ⟨rfl, hb2⟩
  clear t0 t1 t2 x0 x1 x2
  replace ht0 := ht0.on hb2
  replace hx0 := hx0.on hb2
  replace hb0 := on hb0 hb2
  clear hb2 HX
  obtain ⟨t0, t1, t2, _⟩ := ht0.three
  obtain ⟨x0, x1, x2, _⟩ := hx0.three
  go_wp2_with fail
  have T0 := fun d os => cell_regrown t0 d os
  have T1 := fun d os => cell_regrown t1 d os
  have T2 := fun d os => cell_regrown t2 d os
  have X0 := fun d os => cell_regrown x0 d os
  have X1 := fun d os => cell_regrown x1 d os
  have X2 := fun d os => cell_regrown x2 d os
  clear t0 t1 t2 x0 x1 x2
  refine wp_region_mem 25 (fun d => match d with
    | 27 => some (Is (.agg #[.int .i64 yk, .int .i64 yn, .string yt]))
    | 30 => some (Is (.agg #[.int .i64 yk, .int .i64 yn, .string yt]))
    | 35 => some (Is (.agg #[.int .i64 sk, .int .i64 sn, .string st]))
    | 38 => some (Is (.agg #[.int .i64 sk, .int .i64 sn, .string st]))
    | 44 => some (Is (.agg #[.int .i64 mk, .int .i64 mn, .string mt]))
    | 47 => some (Is (.agg #[.int .i64 mk, .int .i64 mn, .string mt]))
    | _ => none) (by kernel_rfl) (by kernel_rfl) ?_
  try simp only [List.append]
  simp only [List.take_succ_cons, List.take_zero, List.drop_succ_cons, List.drop_zero]
  repeat (first | ((with_reducible refine wpM_calm ?_ ?_ ?_ ?_); exact rfl; exact rfl; exact rfl; intro K hK; go_big_quiet_op; go_big_quiet_on) | ((with_reducible refine wpM_skip ?_ ?_); exact rfl; simp only [Act.put, List.setIfInBounds_toArray, List.set_cons_succ, List.set_cons_zero]))
  refine wpM_exact rfl rfl rfl Tryz.func21 (by kernel_rfl) (by kernel_rfl) (fun w1 hw1 _ => HPc.out w1 (on hb0 hw1)) rfl (by simp only [Act.put, List.setIfInBounds_toArray, List.set_cons_succ, List.set_cons_zero]; rfl) ?_
  repeat (first | ((with_reducible refine wpM_calm ?_ ?_ ?_ ?_); exact rfl; exact rfl; exact rfl; intro K hK; go_big_quiet_op; go_big_quiet_on) | ((with_reducible refine wpM_skip ?_ ?_); exact rfl; simp only [Act.put, List.setIfInBounds_toArray, List.set_cons_succ, List.set_cons_zero]))
  refine wpM_exact rfl rfl rfl Tryz.func22 (by kernel_rfl) (by kernel_rfl) (fun w1 hw1 _ => HRc.out w1 (on hb0 hw1)) rfl (by simp only [Act.put, List.setIfInBounds_toArray, List.set_cons_succ, List.set_cons_zero]; rfl) ?_
  repeat (first | ((with_reducible refine wpM_calm ?_ ?_ ?_ ?_); exact rfl; exact rfl; exact rfl; intro K hK; go_big_quiet_op; go_big_quiet_on) | ((with_reducible refine wpM_skip ?_ ?_); exact rfl; simp only [Act.put, List.setIfInBounds_toArray, List.set_cons_succ, List.set_cons_zero]))
  refine wpM_exact rfl rfl rfl Tryz.func23 (by kernel_rfl) (by kernel_rfl) (fun w1 hw1 _ => HPs.out w1 (on hb0 hw1)) rfl (by simp only [Act.put, List.setIfInBounds_toArray, List.set_cons_succ, List.set_cons_zero]; rfl) ?_
  repeat (first | ((with_reducible refine wpM_calm ?_ ?_ ?_ ?_); exact rfl; exact rfl; exact rfl; intro K hK; go_big_quiet_op; go_big_quiet_on) | ((with_reducible refine wpM_skip ?_ ?_); exact rfl; simp only [Act.put, List.setIfInBounds_toArray, List.set_cons_succ, List.set_cons_zero]))
  refine wpM_exact rfl rfl rfl Tryz.func24 (by kernel_rfl) (by kernel_rfl) (fun w1 hw1 _ => HRs.out w1 (on hb0 hw1)) rfl (by simp only [Act.put, List.setIfInBounds_toArray, List.set_cons_succ, List.set_cons_zero]; rfl) ?_
  repeat (first | ((with_reducible refine wpM_calm ?_ ?_ ?_ ?_); exact rfl; exact rfl; exact rfl; intro K hK; go_big_quiet_op; go_big_quiet_on) | ((with_reducible refine wpM_skip ?_ ?_); exact rfl; simp only [Act.put, List.setIfInBounds_toArray, List.set_cons_succ, List.set_cons_zero]))
  refine wpM_exact rfl rfl rfl Tryz.func25 (by kernel_rfl) (by kernel_rfl) (fun w1 hw1 _ => HPm.out w1 (on hb0 hw1)) rfl (by simp only [Act.put, List.setIfInBounds_toArray, List.set_cons_succ, List.set_cons_zero]; rfl) ?_
  repeat (first | ((with_reducible refine wpM_calm ?_ ?_ ?_ ?_); exact rfl; exact rfl; exact rfl; intro K hK; go_big_quiet_op; go_big_quiet_on) | ((with_reducible refine wpM_skip ?_ ?_); exact rfl; simp only [Act.put, List.setIfInBounds_toArray, List.set_cons_succ, List.set_cons_zero]))
  refine wpM_exact rfl rfl rfl Tryz.func26 (by kernel_rfl) (by kernel_rfl) (fun w1 hw1 _ => HRm.out w1 (on hb0 hw1)) rfl (by simp only [Act.put, List.setIfInBounds_toArray, List.set_cons_succ, List.set_cons_zero]; rfl) ?_
  repeat (first | ((with_reducible refine wpM_calm ?_ ?_ ?_ ?_); exact rfl; exact rfl; exact rfl; intro K hK; go_big_quiet_op; go_big_quiet_on) | ((with_reducible refine wpM_skip ?_ ?_); exact rfl; simp only [Act.put, List.setIfInBounds_toArray, List.set_cons_succ, List.set_cons_zero]))
  refine wpM_nil ?_
  intro w3 hw3 _
  clear T0 T1 T2 X0 X1 X2
  replace ht0 := ht0.on hw3
  replace hx0 := hx0.on hw3
  replace hb0 := on hb0 hw3
  clear hw3 HPc HRc HPs HRs HPm HRm
  obtain ⟨t0, t1, t2, _⟩ := ht0.three
  obtain ⟨x0, x1, x2, _⟩ := hx0.three
  go_wp2_with fail
  have T0 := fun d os => cell_regrown t0 d os
  have T1 := fun d os => cell_regrown t1 d os
  have T2 := fun d os => cell_regrown t2 d os
  have X0 := fun d os => cell_regrown x0 d os
  have X1 := fun d os => cell_regrown x1 d os
  have X2 := fun d os => cell_regrown x2 d os
  clear t0 t1 t2 x0 x1 x2
  refine wp_region_mem 7 (fun d => match d with
    | 58 => some (Is (.agg #[.int .i64 2, .int .i64 0, .string (⟨#[61]⟩ ++ bt)]))
    | 59 => some (Is (.agg #[.int .i64 1, .int .i64 q1, .string ⟨#[]⟩]))
    | 5 => some (NewCells w3.heap.size [.int .i64 0, .int .i64 0, .string ⟨#[]⟩])
    | _ => none) (by kernel_rfl) (by kernel_rfl) ?_
  simp only [List.take_succ_cons, List.take_zero, List.drop_succ_cons, List.drop_zero]
  repeat (first | ((with_reducible refine wpM_calm ?_ ?_ ?_ ?_); exact rfl; exact rfl; exact rfl; intro K hK; go_big_quiet_op; go_big_quiet_on) | ((with_reducible refine wpM_skip ?_ ?_); exact rfl; simp only [Act.put, List.setIfInBounds_toArray, List.set_cons_succ, List.set_cons_zero]))
  refine wpM_exact rfl rfl rfl Tryz.func27 (by kernel_rfl) (by kernel_rfl) (fun w1 _ _ => HSe.out w1) rfl (by simp only [Act.put, List.setIfInBounds_toArray, List.set_cons_succ, List.set_cons_zero]; rfl) ?_
  refine wpM_exact rfl rfl rfl Tryz.func21 (by kernel_rfl) (by kernel_rfl) (fun w1 hw1 _ => HCe.out w1 (on hb0 hw1)) rfl (by simp only [Act.put, List.setIfInBounds_toArray, List.set_cons_succ, List.set_cons_zero]; rfl) ?_
  refine wpM_makes _ rfl rfl (fun w5 hw5 _ => ?_) ?_
  · simp [go_sem, variesUpon]
    exact ⟨below1 _ _, (NewCells.mk w5 [.int .i64 0, .int .i64 0, .string ⟨#[]⟩] _ hw5.size).2⟩
  rintro v9 ⟨_, b5, rfl, _⟩ a9 ha9
  simp only [Act.put, List.setIfInBounds_toArray, List.set_cons_succ, List.set_cons_zero] at ha9
  subst ha9
  refine wpM_nil ?_
  intro w4 hw4 hF
  obtain ⟨hB5, k5⟩ := NewCells.at ((hF 6).2 rfl)
  have lt := ht0.1
  have lx := hx0.1
  have hs := hb0.size
  clear hF T0 T1 T2 X0 X1 X2 HSe HCe
  replace ht0 := (ht0.on hw4).put3_far (c := b5) (by omega) (.int .i64 1) (.int .i64 q1) (.string ⟨#[]⟩)
  replace hx0 := (hx0.on hw4).put3_far (c := b5) (by omega) (.int .i64 1) (.int .i64 q1) (.string ⟨#[]⟩)
  replace hb0 := set3 (on hb0 hw4) (b := b5) (by omega) (.int .i64 1) (.int .i64 q1) (.string ⟨#[]⟩)
  obtain ⟨m0, m1, m2, f0, f1, f2⟩ := k5.three
  have q5 := k5.put3 (.int .i64 1) (.int .i64 q1) (.string ⟨#[]⟩)
  simp only [put3] at ht0 hx0 q5
  clear k5 hw4
  go_wp2_with fail
  generalize ((w4.setCell ⟨b5, 0, none⟩ (.int .i64 1)).setCell ⟨b5, 1, none⟩ (.int .i64 q1)).setCell ⟨b5, 2, none⟩ (.string ⟨#[]⟩) = X5 at *
  clear m0 m1 m2 f0 f1 f2 hs lt lx
  obtain ⟨t0, t1, t2, _⟩ := ht0.three
  obtain ⟨x0, x1, x2, _⟩ := hx0.three
  go_wp2_with fail
  have T0 := fun d os => cell_regrown t0 d os
  have T1 := fun d os => cell_regrown t1 d os
  have T2 := fun d os => cell_regrown t2 d os
  have X0 := fun d os => cell_regrown x0 d os
  have X1 := fun d os => cell_regrown x1 d os
  have X2 := fun d os => cell_regrown x2 d os
  clear t0 t1 t2 x0 x1 x2
  refine wp_region_mem 7 (fun d => match d with
    | 64 => some (Is (.agg #[.int .i64 2, .int .i64 0, .string (⟨#[60, 62]⟩ ++ bt)]))
    | 65 => some (Is (.agg #[.int .i64 1, .int .i64 q2, .string ⟨#[]⟩]))
    | 6 => some (NewCells X5.heap.size [.int .i64 0, .int .i64 0, .string ⟨#[]⟩])
    | _ => none) (by kernel_rfl) (by kernel_rfl) ?_
  simp only [List.take_succ_cons, List.take_zero, List.drop_succ_cons, List.drop_zero]
  repeat (first | ((with_reducible refine wpM_calm ?_ ?_ ?_ ?_); exact rfl; exact rfl; exact rfl; intro K hK; go_big_quiet_op; go_big_quiet_on) | ((with_reducible refine wpM_skip ?_ ?_); exact rfl; simp only [Act.put, List.setIfInBounds_toArray, List.set_cons_succ, List.set_cons_zero]))
  refine wpM_exact rfl rfl rfl Tryz.func27 (by kernel_rfl) (by kernel_rfl) (fun w1 _ _ => HSn.out w1) rfl (by simp only [Act.put, List.setIfInBounds_toArray, List.set_cons_succ, List.set_cons_zero]; rfl) ?_
  refine wpM_exact rfl rfl rfl Tryz.func21 (by kernel_rfl) (by kernel_rfl) (fun w1 hw1 _ => HCn.out w1 (on hb0 hw1)) rfl (by simp only [Act.put, List.setIfInBounds_toArray, List.set_cons_succ, List.set_cons_zero]; rfl) ?_
  refine wpM_makes _ rfl rfl (fun w5 hw5 _ => ?_) ?_
  · simp [go_sem, variesUpon]
    exact ⟨below1 _ _, (NewCells.mk w5 [.int .i64 0, .int .i64 0, .string ⟨#[]⟩] _ hw5.size).2⟩
  rintro v9 ⟨_, b6, rfl, _⟩ a9 ha9
  simp only [Act.put, List.setIfInBounds_toArray, List.set_cons_succ, List.set_cons_zero] at ha9
  subst ha9
  refine wpM_nil ?_
  intro w6 hw6 hF
  obtain ⟨hB6, k6⟩ := NewCells.at ((hF 6).2 rfl)
  have lt := ht0.1
  have lx := hx0.1
  have lo := q5.1
  have hs := hb0.size
  clear hF T0 T1 T2 X0 X1 X2 HSn HCn
  replace ht0 := (ht0.on hw6).put3_far (c := b6) (by omega) (.int .i64 1) (.int .i64 q2) (.string ⟨#[]⟩)
  replace hx0 := (hx0.on hw6).put3_far (c := b6) (by omega) (.int .i64 1) (.int .i64 q2) (.string ⟨#[]⟩)
  replace q5 := (q5.on hw6).put3_far (c := b6) (by omega) (.int .i64 1) (.int .i64 q2) (.string ⟨#[]⟩)
  replace hb0 := set3 (on hb0 hw6) (b := b6) (by omega) (.int .i64 1) (.int .i64 q2) (.string ⟨#[]⟩)
  obtain ⟨m0, m1, m2, f0, f1, f2⟩ := k6.three
  have q6 := k6.put3 (.int .i64 1) (.int .i64 q2) (.string ⟨#[]⟩)
  simp only [put3] at ht0 hx0 q6 q5
  clear k6 hw6
  obtain ⟨t0, t1, t2, _⟩ := ht0.three
  obtain ⟨x0, x1, x2, _⟩ := hx0.three
  go_wp2_with fail
  generalize ((w6.setCell ⟨b6, 0, none⟩ (.int .i64 1)).setCell ⟨b6, 1, none⟩ (.int .i64 q2)).setCell ⟨b6, 2, none⟩ (.string ⟨#[]⟩) = X6 at *
  clear m0 m1 m2 f0 f1 f2 hs lt lx lo
  clear t0 t1 t2 x0 x1 x2
  replace HZ := Lib.hid (HZ.out.on hb0)
  go_loopw [7, 69] (fun u i wr => ∃ k f' : Nat, k ≤ n ∧ f' ≤ k ∧ i = .int .i64 k ∧ u = .int .i64 f' ∧ Hid (faultsN (L.take k) = f') ∧ Below X6.heap.size X6 wr) (fun _ i _ => n - (intOf i).toNat)
  case atStart => exact ⟨0, 0, Nat.zero_le _, Nat.zero_le _, rfl, rfl, Lib.hid (by rw [List.take_zero]; rfl), Below.refl _ _⟩
  case round =>
    obtain ⟨k, f', hk, hfk, rfl, rfl, hff, hb1⟩ := hrel
    by_cases hlt : k < n
    · obtain ⟨v, hv⟩ := HZ.out.get hlt
      obtain ⟨b, o, rfl, hb, c0, c1, c2⟩ := (HZ.out.on hb1).at hv
      by_cases hv4 : v.k = 4
      · have HN := Lib.hid ((faults_hit hv hv4).trans (by rw [hff.out]))
        obtain ⟨vk, vn, vt⟩ := v
        obtain rfl : vk = 4 := hv4
        dsimp only at c0 c1 c2
        have hy := CellsAt.new wr [.int .i64 4, .int .i64 vn, .string vt] 26
        obtain ⟨y0, y1, y2, _⟩ := hy.three
        have hb3 := on_alloc hb1 (.cells #[.int .i64 4, .int .i64 vn, .string vt] 26)
        clear hv hy hff HF HFL hq
        go_wp2_with fail
        go_roundw
        case rel => exact ⟨k + 1, f' + 1, by omega, by omega, by go_num, by go_num, HN, hb3⟩
        case measure => simp [intOf]; omega
      · have HN := Lib.hid ((faults_miss hv hv4).trans hff.out)
        obtain ⟨vk, vn, vt⟩ := v
        dsimp only at c0 c1 c2 hv4
        have z4 : (vk == 4) = false := by rw [beq_eq_false_iff_ne]; exact hv4
        have hy := CellsAt.new wr [.int .i64 vk, .int .i64 vn, .string vt] 26
        obtain ⟨y0, y1, y2, _⟩ := hy.three
        have hb3 := on_alloc hb1 (.cells #[.int .i64 vk, .int .i64 vn, .string vt] 26)
        clear hv hy hff HF HFL hq hv4
        go_wp2_with fail
        go_roundw
        case rel => exact ⟨k + 1, f', by omega, by omega, by go_num, rfl, HN, hb3⟩
        case measure => simp [intOf]; omega
    · obtain rfl : k = n := by omega
      obtain rfl : f' = f := by rw [← hff.out, List.take_of_length_le (by rw [HFL.out]; omega)]; exact HF.out
      obtain ⟨dd, hd⟩ : ∃ dd : Int, (k : Int) - (f' : Int) = dd := ⟨_, rfl⟩
      rw [hd] at hq
      obtain ⟨qq, hqq⟩ : ∃ qq, dd * 10000 = qq := ⟨_, rfl⟩
      rw [hqq] at hq
      have e1 : 0 ≤ dd := by omega
      have e2 : dd ≤ 60 := by omega
      have e3 : 0 ≤ qq := by omega
      have e4 : qq ≤ 1200000 := by omega
      obtain ⟨t0, t1, t2, _⟩ := (ht0.on hb1).three
      obtain ⟨p0, p1, p2, _⟩ := (q5.on hb1).three
      obtain ⟨s0, s1, s2, _⟩ := (q6.on hb1).three
      have HL1 := Lib.hid (HL.out.grown (on hb0 hb1))
      clear HF HFL hff b1 b2
      go_wp2_with fail
      refine (HA.out _ HL1.out).mono ?_
      rintro e w9 ⟨rfl, hb9⟩
      clear t0 t1 t2 p0 p1 p2 s0 s1 s2 ht0 hx0
      go_wp2
      go_ret
      exact ⟨rfl, on (on hb0 hb1) hb9⟩
set_option maxRecDepth 100000 in
theorem counts_law (r c : Int) (A : Option Addr) (n cap : Nat) (bk bn : Int) (bt : ByteArray) (L : List Vl) (w : World) (hz : n ≤ 1000 → ValsR w A n L) (hL : CLibs w) :
    Calls Tryz.prog 5 #[.agg #[.int .i64 r, .int .i64 c, .slice A n cap], .agg #[.int .i64 bk, .int .i64 bn, .string bt]] w (LawEnd w) := by
  obtain ⟨b1, h1⟩ := small_some r c n L
  have H1 : ∀ w1, Below w.heap.size w w1 → Calls Tryz.prog 16 #[.agg #[.int .i64 r, .int .i64 c, .slice A n cap]] w1 (Bit b1 w1) := fun w1 hw => small_c r c A n cap L b1 h1 w1 (fun h => (hz h).on hw)
  cases b1
  · exact counts_law_1 r c A n cap bk bn bt w H1 hL
  obtain ⟨hg, hm, hs⟩ : Good r c n ∧ (∀ v ∈ L, v.may) ∧ n ≤ 60 := by
    rcases h1 with ⟨_, h, hm, hs, _⟩ | ⟨h, _⟩ | ⟨h, _⟩
    · exact ⟨h, hm, hs⟩
    · cases h
    · cases h
  have z := hz (by omega)
  cases hb : mayV bk bn bt
  · exact counts_law_2 r c A n cap bk bn bt w H1 (fun w1 => rmayv_c bk bn bt false hb w1) hL
  have HX : ∀ w1, Calls Tryz.prog 10 #[.agg #[.int .i64 bk, .int .i64 bn, .string bt]] w1 (Bit true w1) := fun w1 => rmayv_c bk bn bt true hb w1
  by_cases h6 : bt.size ≤ 60
  · by_cases h4 : bk = 4
    · subst h4
      have HH := fun w1 (_ : Below w.heap.size w w1) => hit_fault r c A n cap 4 bn bt w1 (fun w2 _ => of_fault bn bt w2)
      exact counts_law_4 r c A n cap 4 bn bt 4 bn bt 4 bn bt 4 bn bt h6 rfl w H1 HX (fun w1 hw => countif_fault r c A n cap 4 bn bt w1 (fun w2 hw2 => HH w2 (on hw hw2))) (fun w1 _ => rcount_fault r c A n cap 4 bn bt rfl w1)
        (fun w1 hw => sumif_fault r c A n cap 4 bn bt w1 (fun w2 hw2 => HH w2 (on hw hw2))) (fun w1 _ => rsum_fault r c A n cap 4 bn bt rfl w1)
        (fun w1 hw => meanif_fault r c A n cap 4 bn bt w1 (fun w2 hw2 => HH w2 (on hw hw2))) (fun w1 _ => rmean_fault r c A n cap 4 bn bt rfl w1) hL
    · obtain ⟨op, k2, n2, t2, o1, o2, h2, hk2, HO, HRO⟩ := of_any bk bn bt hb h4
      have b4 : (bk == 4) = false := by rw [beq_eq_false_iff_ne]; exact h4
      have HH := fun w1 (hw : Below w.heap.size w w1) => hit_in r c A n cap bk bn bt op k2 n2 t2 L w1 (fun w2 hw2 => HO w2 (hL.grown (on hw hw2))) (hitsC_c op k2 n2 t2 o1 o2 h2 hk2 L hm) (z.on hw)
      have HI := fun w1 (hw : Below w.heap.size w w1) => rhit_in r c A n cap bk bn bt op k2 n2 t2 (by rw [beq_eq_false_iff_ne]; omega) L w1 HRO (rhitsC_c op k2 n2 t2 o1 o2 h2 hk2 L hm) (z.on hw)
      rcases es : allV addD 0 (hitL op k2 n2 t2 L) with ⟨sk, sn⟩
      rcases em : meanV (hitL op k2 n2 t2 L) with ⟨mk, mn⟩
      have HPc := fun w1 (hw : Below w.heap.size w w1) => countif_in r c A n cap bk bn bt _ w1 (fun w2 hw2 => HH w2 (on hw hw2))
      have HRc := fun w1 (hw : Below w.heap.size w w1) => rcount_in r c A n cap bk bn bt b4 _ w1 (fun w2 hw2 => HI w2 (on hw hw2))
      have HPs := fun w1 (hw : Below w.heap.size w w1) => sumif_in r c A n cap bk bn bt _ (hit_may hm) sk sn es w1 (fun w2 hw2 => HH w2 (on hw hw2))
      have HRs := fun w1 (hw : Below w.heap.size w w1) => rsum_in r c A n cap bk bn bt b4 _ (hit_may hm) sk sn es w1 (fun w2 hw2 => HI w2 (on hw hw2))
      have HPm := fun w1 (hw : Below w.heap.size w w1) => meanif_in r c A n cap bk bn bt _ (hit_may hm) mk mn em w1 (fun w2 hw2 => HH w2 (on hw hw2))
      have HRm := fun w1 (hw : Below w.heap.size w w1) => rmean_in r c A n cap bk bn bt b4 _ (hit_may hm) mk mn em w1 (fun w2 hw2 => HI w2 (on hw hw2))
      by_cases hk : bk = 2
      · subst hk
        obtain ⟨⟨k3, n3, t3⟩, hmt⟩ : ∃ q, meantV bt = q := ⟨_, rfl⟩
        obtain ⟨g1, g2⟩ := meant_may (show bt.size ≤ 256 by omega) hmt
        have HCe := fun w1 (hw : Below w.heap.size w w1) => text_count r c A n cap _ 7 k3 n3 t3 L (eq_of bt h6 k3 n3 t3 hmt) (hitsC_c 7 k3 n3 t3 (by omega) (by omega) g1 g2 L hm) w1 (hL.grown hw) (z.on hw)
        have HCn := fun w1 (hw : Below w.heap.size w w1) => text_count r c A n cap _ 8 k3 n3 t3 L (ne_of bt h6 k3 n3 t3 hmt) (hitsC_c 8 k3 n3 t3 (by omega) (by omega) g1 g2 L hm) w1 (hL.grown hw) (z.on hw)
        have hp := hits_part k3 n3 t3 L
        rw [z.1] at hp
        exact counts_law_5 r c A n cap bn bt _ _ _ sk sn _ mk mn _ L h6 hs w z H1 HX HPc HRc HPs HRs HPm HRm _ _ _ rfl (by omega) (by omega) (by omega) (fun w1 => eq_str bt h6 w1) (fun w1 => ne_str bt h6 w1) HCe HCn hL
      · exact counts_law_4 r c A n cap bk bn bt _ _ _ sk sn _ mk mn _ h6 (by rw [beq_eq_false_iff_ne]; exact hk) w H1 HX HPc HRc HPs HRs HPm HRm hL
  · exact counts_law_3 r c A n cap bk bn bt (by omega) w H1 HX hL
end Go.Proofs.YtbjomidkeignjaaGreatDoor.Lok
