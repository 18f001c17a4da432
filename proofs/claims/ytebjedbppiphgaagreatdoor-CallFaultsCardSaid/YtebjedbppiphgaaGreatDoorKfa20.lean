/- What the program's isGreat, isSmall, isLetter, turned, fits and the reference's letter, up, down, room answer (over the landed text of package text).
   What the program's written, Upper, Lower, Proper and Trim answer (over the landed text of package text): for every text of at most a million bytes.
   What the program's Trim and the reference's Turn, Trim answer: for every text of at most a million bytes. -/
import Derived.Test.YtebjedbppiphgaaGreatDoorKfa13
import Derived.Test.YtebjedbppiphgaaGreatDoorKfa07
import Derived.Test.YtebjedbppiphgaaGreatDoorKfa19
import Derived.WalkSmall
import Derived.Laws.IdiomStrings
import Derived.LoopTactic
namespace Go.Proofs.YtebjedbppiphgaaGreatDoor.Txt
open Go.RowKit Kit Reg
theorem len (t : ByteArray) : t.data.toList.length = t.size := (Lib.size_eq t).symm
theorem bytes_eq {a b : ByteArray} (h : a.data.toList = b.data.toList) : a = b := ByteArray.ext (Array.toList_inj.1 h)
theorem str_is {t : ByteArray} {l : List UInt8} (h : t.data.toList = l) : t = ⟨l.toArray⟩ := bytes_eq (by simp [h])
theorem up_val (c : UInt8) : (isS c = true → ((upB c).toNat : Int) = (c.toNat : Int) - 97 + 65) ∧ (isS c = false → upB c = c) := by
  have h := all_bytes (p := fun c => !(isS c) || (decide ((upB c).toNat + 97 = c.toNat + 65))) (by decide +kernel) c
  refine ⟨fun hs => ?_, fun hs => ?_⟩
  · rw [hs] at h
    have := of_decide_eq_true (show decide ((upB c).toNat + 97 = c.toNat + 65) = true by simpa using h)
    omega
  · unfold upB; rw [hs]; rfl
theorem down_val (c : UInt8) : (isG c = true → ((downB c).toNat : Int) = (c.toNat : Int) - 65 + 97) ∧ (isG c = false → downB c = c) := by
  have h := all_bytes (p := fun c => !(isG c) || (decide ((downB c).toNat + 65 = c.toNat + 97))) (by decide +kernel) c
  refine ⟨fun hs => ?_, fun hs => ?_⟩
  · rw [hs] at h
    have := of_decide_eq_true (show decide ((downB c).toNat + 65 = c.toNat + 97) = true by simpa using h)
    omega
  · unfold downB; rw [hs]; rfl
theorem isG_iff (c : UInt8) : isG c = true ↔ 65 ≤ c.toNat ∧ c.toNat ≤ 90 := by simp [isG]
theorem isS_iff (c : UInt8) : isS c = true ↔ 97 ≤ c.toNat ∧ c.toNat ≤ 122 := by simp [isS]
/-- how a byte lies to two bounds -/
theorem range_ways (c : UInt8) (a b : Nat) (x y : Int) (hx : x = a) (hy : y = b) : (¬ a ≤ c.toNat ∧ decide (x ≤ (c.toNat : Int)) = false) ∨ (a ≤ c.toNat ∧ ¬ c.toNat ≤ b ∧ decide (x ≤ (c.toNat : Int)) = true ∧ decide ((c.toNat : Int) ≤ y) = false) ∨
    (a ≤ c.toNat ∧ c.toNat ≤ b ∧ decide (x ≤ (c.toNat : Int)) = true ∧ decide ((c.toNat : Int) ≤ y) = true) := by
  by_cases h1 : a ≤ c.toNat
  · by_cases h2 : c.toNat ≤ b
    · exact .inr (.inr ⟨h1, h2, decide_eq_true (by omega), decide_eq_true (by omega)⟩)
    · exact .inr (.inl ⟨h1, h2, decide_eq_true (by omega), decide_eq_false (by omega)⟩)
  · exact .inl ⟨h1, decide_eq_false (by omega)⟩
set_option maxRecDepth 100000 in
set_option maxHeartbeats 400000 in
theorem great_c (c : UInt8) (b : Bool) (hb : isG c = b) (w : World) : Calls Tryz.prog 310 #[.int .u8 (c.toNat : Int)] w fun e w' => e = .returned (.bool b) ∧ w = w' := by
  have hi := isG_iff c
  rcases range_ways c 65 90 65 90 rfl rfl with ⟨h1, d1⟩ | ⟨h1, h2, d1, d2⟩ | ⟨h1, h2, d1, d2⟩
  · obtain rfl : false = b := by rw [← hb]; cases h : isG c <;> simp_all
    clear hi hb
    go_enter Tryz.func310, Tryz.ntmps310
    go_wp2
    go_ret
    exact ⟨rfl, rfl⟩
  · obtain rfl : false = b := by rw [← hb]; cases h : isG c <;> simp_all
    clear hi hb
    go_enter Tryz.func310, Tryz.ntmps310
    go_wp2
    go_ret
    exact ⟨rfl, rfl⟩
  · obtain rfl : true = b := by rw [← hb, hi.2 ⟨h1, h2⟩]
    clear hi hb
    go_enter Tryz.func310, Tryz.ntmps310
    go_wp2
    go_ret
    exact ⟨rfl, rfl⟩
set_option maxRecDepth 100000 in
set_option maxHeartbeats 400000 in
theorem small_c (c : UInt8) (b : Bool) (hb : isS c = b) (w : World) : Calls Tryz.prog 309 #[.int .u8 (c.toNat : Int)] w fun e w' => e = .returned (.bool b) ∧ w = w' := by
  have hi := isS_iff c
  rcases range_ways c 97 122 97 122 rfl rfl with ⟨h1, d1⟩ | ⟨h1, h2, d1, d2⟩ | ⟨h1, h2, d1, d2⟩
  · obtain rfl : false = b := by rw [← hb]; cases h : isS c <;> simp_all
    clear hi hb
    go_enter Tryz.func309, Tryz.ntmps309
    go_wp2
    go_ret
    exact ⟨rfl, rfl⟩
  · obtain rfl : false = b := by rw [← hb]; cases h : isS c <;> simp_all
    clear hi hb
    go_enter Tryz.func309, Tryz.ntmps309
    go_wp2
    go_ret
    exact ⟨rfl, rfl⟩
  · obtain rfl : true = b := by rw [← hb, hi.2 ⟨h1, h2⟩]
    clear hi hb
    go_enter Tryz.func309, Tryz.ntmps309
    go_wp2
    go_ret
    exact ⟨rfl, rfl⟩
set_option maxRecDepth 100000 in
set_option maxHeartbeats 400000 in
theorem letter_c (c : UInt8) (b : Bool) (hb : isL c = b) (w : World) : Calls Tryz.prog 277 #[.int .u8 (c.toNat : Int)] w fun e w' => e = .returned (.bool b) ∧ w = w' := by
  unfold isL at hb
  have HS := Lib.hid (fun b hb w => small_c c b hb w)
  cases h : isG c
  · have HG := Lib.hid (fun w => great_c c false h w)
    rw [h, Bool.false_or] at hb
    have HS2 := Lib.hid (fun w => HS.out b hb w)
    clear HS h hb
    go_enter Tryz.func277, Tryz.ntmps277
    go_wp2_with (first
      | (go_at_call 310; refine (HG.out _).mono ?_; rintro e w' ⟨rfl, rfl⟩)
      | (go_at_call 309; refine (HS2.out _).mono ?_; rintro e w' ⟨rfl, rfl⟩))
    go_ret
    exact ⟨rfl, rfl⟩
  · have HG := Lib.hid (fun w => great_c c true h w)
    rw [h, Bool.true_or] at hb
    subst hb
    clear HS h
    go_enter Tryz.func277, Tryz.ntmps277
    go_wp2_with (go_at_call 310; refine (HG.out _).mono ?_; rintro e w' ⟨rfl, rfl⟩)
    go_ret
    exact ⟨rfl, rfl⟩
set_option maxRecDepth 100000 in
set_option maxHeartbeats 400000 in
theorem turned0_c (c : UInt8) (w : World) : Calls Tryz.prog 276 #[.int .u8 (c.toNat : Int), .int .i64 0] w fun e w' => e = .returned (.int .u8 ((upB c).toNat : Int)) ∧ w = w' := by
  obtain ⟨u1, u2⟩ := up_val c
  have hc := c.toNat_lt
  cases h : isS c
  · have HS := Lib.hid (fun w => small_c c false h w)
    rw [u2 h]
    clear u1 u2 h
    go_enter Tryz.func276, Tryz.ntmps276
    go_wp2_with (go_at_call 309; refine (HS.out _).mono ?_; rintro e w' ⟨rfl, rfl⟩)
    go_ret
    exact ⟨rfl, rfl⟩
  · have HS := Lib.hid (fun w => small_c c true h w)
    have hi := (isS_iff c).1 h
    have HU := Lib.hid (u1 h)
    clear u1 u2 h
    go_enter Tryz.func276, Tryz.ntmps276
    go_wp2_with (go_at_call 309; refine (HS.out _).mono ?_; rintro e w' ⟨rfl, rfl⟩)
    go_ret
    exact ⟨by rw [HU.out] <;> rfl, rfl⟩
set_option maxRecDepth 100000 in
set_option maxHeartbeats 400000 in
theorem turned1_c (c : UInt8) (w : World) : Calls Tryz.prog 276 #[.int .u8 (c.toNat : Int), .int .i64 1] w fun e w' => e = .returned (.int .u8 ((downB c).toNat : Int)) ∧ w = w' := by
  obtain ⟨u1, u2⟩ := down_val c
  have hc := c.toNat_lt
  cases h : isG c
  · have HS := Lib.hid (fun w => great_c c false h w)
    rw [u2 h]
    clear u1 u2 h
    go_enter Tryz.func276, Tryz.ntmps276
    go_wp2_with (go_at_call 310; refine (HS.out _).mono ?_; rintro e w' ⟨rfl, rfl⟩)
    go_ret
    exact ⟨rfl, rfl⟩
  · have HS := Lib.hid (fun w => great_c c true h w)
    have hi := (isG_iff c).1 h
    have HU := Lib.hid (u1 h)
    clear u1 u2 h
    go_enter Tryz.func276, Tryz.ntmps276
    go_wp2_with (go_at_call 310; refine (HS.out _).mono ?_; rintro e w' ⟨rfl, rfl⟩)
    go_ret
    exact ⟨by rw [HU.out] <;> rfl, rfl⟩
theorem turned_c (c : UInt8) (k : Nat) (hk : k ≤ 1) (w : World) : Calls Tryz.prog 276 #[.int .u8 (c.toNat : Int), .int .i64 (k : Int)] w fun e w' => e = .returned (.int .u8 ((wayB k c).toNat : Int)) ∧ w = w' := by
  obtain rfl | rfl : k = 0 ∨ k = 1 := by omega
  · exact turned0_c c w
  · exact turned1_c c w
/-- do they fit? -/
def fitsB (s : Nat) (n left : Int) : Bool := decide (0 ≤ left) && (decide (n = 0) || decide ((s : Int) * n ≤ left))
theorem fits_div (s : Nat) (n l : Int) (hn : 0 < n) (hl : 0 ≤ l) : decide ((s : Int) ≤ l.tdiv n) = decide ((s : Int) * n ≤ l) := by
  rw [Int.tdiv_eq_ediv_of_nonneg hl]
  by_cases h : (s : Int) * n ≤ l
  · rw [decide_eq_true h, decide_eq_true ((Int.le_ediv_iff_mul_le hn).2 h)]
  · rw [decide_eq_false h, decide_eq_false (fun e => h ((Int.le_ediv_iff_mul_le hn).1 e))]
set_option maxRecDepth 100000 in
set_option maxHeartbeats 400000 in
theorem fits_c (s : Nat) (n left : Int) (b : Bool) (hb : fitsB s n left = b) (n0 : 0 ≤ n) (n9 : n ≤ 9223372036854775807) (l9 : left ≤ 9223372036854775807) (w : World) :
    Calls Tryz.prog 190 #[.int .i64 (s : Int), .int .i64 n, .int .i64 left] w fun e w' => e = .returned (.bool b) ∧ w = w' := by
  unfold fitsB at hb
  by_cases h1 : 0 ≤ left
  · rw [decide_eq_true h1, Bool.true_and] at hb
    by_cases h2 : n = 0
    · subst h2
      rw [decide_eq_true rfl, Bool.true_or] at hb
      subst hb
      go_enter Tryz.func190, Tryz.ntmps190
      go_wp2
      go_ret
      exact ⟨rfl, rfl⟩
    · rw [decide_eq_false h2, Bool.false_or, ← fits_div s n left (by omega) h1] at hb
      have hz : (n == 0) = false := by simpa using h2
      obtain ⟨q, hq⟩ : ∃ q, left.tdiv n = q := ⟨_, rfl⟩
      rw [hq] at hb
      have hq1 : 0 ≤ q := by rw [← hq]; exact Int.tdiv_nonneg h1 n0
      have hq2 : q ≤ left := by
        rw [← hq, Int.tdiv_eq_ediv_of_nonneg h1]
        exact Int.ediv_le_self n h1
      go_enter Tryz.func190, Tryz.ntmps190
      go_wp2
      go_ret
      exact ⟨rfl, rfl⟩
  · rw [decide_eq_false h1, Bool.false_and] at hb
    subst hb
    go_enter Tryz.func190, Tryz.ntmps190
    go_wp2
    go_ret
    exact ⟨rfl, rfl⟩

end Go.Proofs.YtebjedbppiphgaaGreatDoor.Txt
namespace Go.Proofs.YtebjedbppiphgaaGreatDoor.Txt
open Go.RowKit Kit Reg
theorem at_add (b j : Nat) : ((⟨b, 0, none⟩ : Addr).add j) = ⟨b, j, none⟩ := by unfold Addr.add; split <;> simp_all
theorem byteCells_at (l : List UInt8) (k : Nat) (c : UInt8) (h : l[k]? = some c) : (Lib.byteCells l)[k]? = some (.int .u8 (c.toNat : Int)) := by
  simp [Lib.byteCells, h]
theorem byteCells_set (l : List UInt8) (k : Nat) (c : UInt8) : (Lib.byteCells l).set k (.int .u8 (c.toNat : Int)) = Lib.byteCells (l.set k c) := by
  simp [Lib.byteCells, List.map_set]
theorem conv_cells {w : World} {b cap : Nat} {l : List UInt8} (n : Nat) (hn : l.length = n) (h : CellsAt w b (Lib.byteCells l)) :
    (convert 50 9 (.slice (some ⟨b, 0, none⟩) n cap)).run Tryz.prog w = .ok (.string ⟨l.toArray⟩) w := by
  subst hn
  refine run_convert_bytes_back w _ _ _ ⟨b, 0, none⟩ cap l Tryz.underlying50 Tryz.underlying5 Tryz.underlying9 (fun j hj => ?_)
  rw [at_add]
  exact (h.2 j _ (byteCells_at l j l[j] (List.getElem?_eq_getElem hj))).1
/-- a text as bytes: new memory -/
theorem bytes_of (t : ByteArray) (w : World) : ∃ cap w1, (convert 9 50 (.string t)).run Tryz.prog w = .ok (.slice (some ⟨w.heap.size, 0, none⟩) t.size cap) w1 ∧ t.size ≤ cap ∧
    CellsAt w1 w.heap.size (Lib.byteCells t.data.toList) ∧ Below w.heap.size w w1 := by
  refine ⟨_, _, run_bytes_of_string w _ _ _ t Tryz.underlying9 Tryz.underlying50 Tryz.underlying5, grownCap_ge _ _ _ _, ⟨by show w.drew.heap.size < (w.drew.alloc _).heap.size; simp, fun i x hx => ?_⟩, ?_⟩
  · have hi : i < t.data.size := by
      have h := (List.getElem?_eq_some_iff.1 hx).1
      rw [Lib.byteCells_length, len] at h
      exact h
    have hx2 : x = .int .u8 (t.data[i].toNat : Int) := by
      have h := byteCells_at t.data.toList i t.data[i] (by rw [List.getElem?_eq_getElem (by simpa using hi)]; simp)
      rw [hx] at h
      exact Option.some.inj h
    subst hx2
    have e : w.heap.size = w.drew.heap.size := rfl
    rw [e, World.cell?_alloc_mark, World.frozen?_alloc_mark]
    refine ⟨bytesRow_at t _ i hi, ?_⟩
    have hge := grownCap_ge w t.size 0 5
    have : i < (bytesRow t (grownCap w t.size 0 5)).size := by
      unfold bytesRow
      have e2 : t.size = t.data.size := rfl
      simp
      omega
    simp
    omega
  · exact on_alloc (drew_below (n := 1) rfl) _
theorem drop_at {l : List UInt8} {k : Nat} (h : k < l.length) : ∃ c, l[k]? = some c ∧ l.drop k = c :: l.drop (k + 1) := ⟨l[k], List.getElem?_eq_getElem h, List.drop_eq_getElem_cons h⟩
theorem set_mid (a r : List UInt8) (c y : UInt8) : (a ++ c :: r).set a.length y = (a ++ [y]) ++ r := by simp
set_option maxRecDepth 100000 in
set_option maxHeartbeats 2000000 in
theorem written_c (t : ByteArray) (l : List UInt8) (hs : t.data.toList = l) (h9 : t.size ≤ 1000000) (f o : Nat) (hf : f ≤ 1) (ho : o ≤ 1) (w : World) :
    Calls Tryz.prog 216 #[.string t, .int .i64 (f : Int), .int .i64 (o : Int)] w fun e w' => e = .returned (.string ⟨(wrL f o f l).toArray⟩) ∧ Below w.heap.size w w' := by
  obtain ⟨cap, w1, hcv, hcap, hcells, hb1⟩ := bytes_of t w
  rw [hs] at hcells
  have hl : l.length = t.size := by rw [← hs, len]
  have HT := Lib.hid (fun c k hk w => turned_c c k hk w)
  have HL := Lib.hid (fun c b hb w => letter_c c b hb w)
  have hlt : w.heap.size < w1.heap.size := hcells.1
  have H1 : Hid (CellsAt w1 w.heap.size (Lib.byteCells l)) := Lib.hid hcells
  have HB1 := Lib.hid hb1
  clear hcells hs hb1
  go_enter Tryz.func216, Tryz.ntmps216
  go_wp2
  go_loopw [8, 16] (fun nx i wr => ∃ (k x : Nat) (acc : List UInt8), k ≤ t.size ∧ x ≤ 1 ∧ i = .int .i64 k ∧ nx = .int .i64 x ∧ acc.length = k ∧ Hid (CellsAt wr w.heap.size (Lib.byteCells (acc ++ l.drop k))) ∧ Hid (acc ++ wrL f o x (l.drop k) = wrL f o f l) ∧ Hid (Below w.heap.size w wr)) (fun _ i _ => t.size - (intOf i).toNat)
  case atStart => exact ⟨0, f, [], Nat.zero_le _, hf, rfl, rfl, rfl, H1, Lib.hid rfl, HB1⟩
  case round =>
    clear H1 HB1 hcv
    obtain ⟨k, x, acc, hk, hx, rfl, rfl, hacc, hc, hw, hb⟩ := hrel
    by_cases hlt2 : k < t.size
    · obtain ⟨c, hc1, hc2⟩ := drop_at (l := l) (k := k) (by omega)
      have hat : (acc ++ l.drop k)[k]? = some c := by
        rw [List.getElem?_append_right (by omega), hc2, hacc, Nat.sub_self]; rfl
      obtain ⟨p1, p2⟩ := hc.out.2 k _ (byteCells_at _ _ _ hat)
      have p3 := hc.out.1
      have HN := Lib.hid (HT.out c x hx)
      obtain ⟨b, hb2⟩ : ∃ b, isL c = b := ⟨_, rfl⟩
      have HL2 := Lib.hid (HL.out c b hb2)
      have HA : Hid ((acc ++ [wayB x c]) ++ wrL f o (if b then o else f) (l.drop (k + 1)) = wrL f o f l) := Lib.hid (by
        rw [← hw.out, hc2, wr_cons, nextW, hb2]; simp)
      have HC : Hid (CellsAt (wr.setCell ⟨w.heap.size, k, none⟩ (.int .u8 ((wayB x c).toNat : Int))) w.heap.size (Lib.byteCells ((acc ++ [wayB x c]) ++ l.drop (k + 1)))) := Lib.hid (by
        have h := hc.out.set (i := k) (by rw [Lib.byteCells_length, List.length_append, List.length_drop]; omega) (.int .u8 ((wayB x c).toNat : Int))
        rw [byteCells_set, hc2, ← hacc, set_mid, hacc] at h
        exact h)
      have HB := Lib.hid (hb.out.setCell (p := ⟨w.heap.size, k, none⟩) (Nat.le_refl _) (.int .u8 ((wayB x c).toNat : Int)))
      have hacc2 : (acc ++ [wayB x c]).length = k + 1 := by simp [hacc]
      clear hat hc2 hc1 hb2 hw hc hb hacc
      go_wp2_with fail
      refine (HN.out _).mono ?_
      rintro e w2 ⟨rfl, rfl⟩
      go_wp2_with fail
      refine (HL2.out _).mono ?_
      rintro e w2 ⟨rfl, rfl⟩
      clear p1 p2 p3 HN HL2 HT HL
      generalize wr.setCell ⟨w.heap.size, k, none⟩ (.int .u8 ((wayB x c).toNat : Int)) = w3 at *
      cases b
      all_goals
        go_wp2
        go_roundw
        case rel => exact ⟨k + 1, _, acc ++ [wayB x c], by omega, by first | exact hf | exact ho, by go_num, rfl, hacc2, HC, HA, HB⟩
        case measure => simp [intOf]; omega
    · obtain rfl : k = t.size := by omega
      rw [← hl, List.drop_length] at hc hw
      have hx2 : acc = wrL f o f l := by rw [← hw.out]; exact (List.append_nil _).symm
      rw [List.append_nil, hx2] at hc
      rw [hx2] at hacc
      have hcv := conv_cells (cap := cap) t.size hacc hc.out
      clear hc hw hx2 hacc
      go_wp2
      go_ret
      exact ⟨rfl, hb.out⟩
theorem upper_c (t : ByteArray) (h9 : t.size ≤ 1000000) (w : World) : Calls Tryz.prog 104 #[.string t] w fun e w' => e = .returned (.string ⟨(wrL 0 0 0 t.data.toList).toArray⟩) ∧ Below w.heap.size w w' := by
  have H := Lib.hid (fun w => written_c t _ rfl h9 0 0 (by omega) (by omega) w)
  go_enter Tryz.func104, Tryz.ntmps104
  go_wp2_with fail
  refine (H.out _).mono ?_
  rintro e w1 ⟨rfl, hb⟩
  go_wp2
  go_ret
  exact ⟨rfl, hb⟩
theorem lower_c (t : ByteArray) (h9 : t.size ≤ 1000000) (w : World) : Calls Tryz.prog 103 #[.string t] w fun e w' => e = .returned (.string ⟨(wrL 1 1 1 t.data.toList).toArray⟩) ∧ Below w.heap.size w w' := by
  have H := Lib.hid (fun w => written_c t _ rfl h9 1 1 (by omega) (by omega) w)
  go_enter Tryz.func103, Tryz.ntmps103
  go_wp2_with fail
  refine (H.out _).mono ?_
  rintro e w1 ⟨rfl, hb⟩
  go_wp2
  go_ret
  exact ⟨rfl, hb⟩
theorem proper_c (t : ByteArray) (h9 : t.size ≤ 1000000) (w : World) : Calls Tryz.prog 105 #[.string t] w fun e w' => e = .returned (.string ⟨(wrL 0 1 0 t.data.toList).toArray⟩) ∧ Below w.heap.size w w' := by
  have H := Lib.hid (fun w => written_c t _ rfl h9 0 1 (by omega) (by omega) w)
  go_enter Tryz.func105, Tryz.ntmps105
  go_wp2_with fail
  refine (H.out _).mono ?_
  rintro e w1 ⟨rfl, hb⟩
  go_wp2
  go_ret
  exact ⟨rfl, hb⟩
end Go.Proofs.YtebjedbppiphgaaGreatDoor.Txt
namespace Go.Proofs.YtebjedbppiphgaaGreatDoor.Txt
open Go.RowKit Kit Reg
theorem own_lit (w : World) (o : Value) (B : Nat) (hB : B ≤ w.heap.size) (ho : o = .slice (some ⟨w.heap.size, 0, none⟩) 0 0) : OwnB B o [] (w.alloc (.cells #[] 5)) := by
  subst ho
  exact World.ownsRow_lit w #[] 0 hB (by decide) rfl
theorem one_cell (x : Value) (h : x.oneCell' = true) : ∀ u ∈ [x], u.oneCell' = true := fun u hu => by
  simp only [List.mem_singleton] at hu
  subst hu
  exact h
/-- what strings.TrimSuffix has to answer at one blank -/
def CutsBlank : Prop := ∀ (s : ByteArray) (w : World), s.size ≤ 1000000 → Calls Tryz.prog 217 #[.string s, .string ⟨#[32]⟩] w fun e w' => e = .returned (.string ⟨(Lib.trimSuffix s.data.toList [32]).toArray⟩) ∧ w = w'
set_option maxRecDepth 100000 in
set_option maxHeartbeats 4000000 in
theorem trim_c (HTS : CutsBlank) (t : ByteArray) (l : List UInt8) (hs : t.data.toList = l) (h9 : t.size ≤ 1000000) (w : World) :
    Calls Tryz.prog 106 #[.string t] w fun e w' => e = .returned (.string ⟨(trimL l).toArray⟩) ∧ Below w.heap.size w w' := by
  obtain ⟨i0, hi, hz0, hz1, hz2⟩ := info_parts infoB
  obtain ⟨w0, hw0⟩ : ∃ w0, w0 = w.alloc (.cells #[] 5) := ⟨_, rfl⟩
  have hs0 : w0.heap.size = w.heap.size + 1 := by rw [hw0]; simp
  obtain ⟨cap, w1, hcv, hcap, hcells, hb1⟩ := bytes_of t w0
  have h1 : OwnB w.heap.size (.slice (some ⟨w.heap.size, 0, none⟩) 0 0) [] w0 := by rw [hw0]; exact own_lit w _ _ (Nat.le_refl _) rfl
  rw [hs, hs0] at hcells
  rw [hs0] at hcv
  have hb0 : Below w.heap.size w w0 := by rw [hw0]; exact below1 _ _
  have hb2 := Lib.hid (on hb0 hb1)
  have H1 := Lib.hid (h1.on hb1)
  have HC := Lib.hid hcells
  rw [hw0] at hcv
  have hl : l.length = t.size := by rw [← hs, len]
  have hlt : w.heap.size + 1 < w1.heap.size := hcells.1
  have HTS := Lib.hid HTS
  have HE := Lib.hid (trim_eq l 32)
  have HPL := Lib.hid (trP_len l 32)
  clear hcells hs hb1 hb0 h1
  have H32 : Hid (((32 : UInt8).toNat : Int) = 32) := Lib.hid rfl
  go_enter Tryz.func106, Tryz.ntmps106
  go_wp2
  go_loopw [3, 4, 11] (fun v av i wr => ∃ (k : Nat) (x : UInt8) (y : Int) (acc : List UInt8), k ≤ t.size ∧ i = .int .i64 k ∧ av = .int .u8 y ∧ Hid ((x.toNat : Int) = y) ∧ OwnB w.heap.size v acc wr ∧ Hid (some (w.heap.size + 1) ≠ v.ownBlock) ∧
    Hid (CellsAt wr (w.heap.size + 1) (Lib.byteCells l)) ∧ Hid (acc ++ trP x (l.drop k) = trP 32 l) ∧ Below w.heap.size w wr) (fun _ _ i _ => t.size - (intOf i).toNat)
  case atStart => exact ⟨0, 32, 32, [], Nat.zero_le _, rfl, rfl, H32, H1.out, Lib.hid (by simp [Value.ownBlock]), HC, Lib.hid rfl, hb2.out⟩
  case round =>
    clear H1 HC hcv hb2 H32 hw0 hs0
    obtain ⟨k, x, y, acc, hk, rfl, rfl, hx, hrow, hne, hc, hw, hb⟩ := hrel
    have hbs := hb.size
    have hal : acc.length ≤ 1000000 := by
      have h1 := HPL.out
      rw [← hw.out, List.length_append] at h1
      omega
    by_cases hlt2 : k < t.size
    · obtain ⟨c, hc1, hc2⟩ := drop_at (l := l) (k := k) (by omega)
      obtain ⟨p1, p2⟩ := hc.out.2 k _ (byteCells_at _ _ _ hc1)
      have p3 := hc.out.1
      by_cases hcc : (c.toNat : Int) = 32
      · have hc32 : c = 32 := UInt8.toNat_inj.1 (by have : (32 : UInt8).toNat = 32 := rfl
                                                    omega)
        by_cases hy : y = 32
        · have hx32 : x = 32 := UInt8.toNat_inj.1 (by have : (32 : UInt8).toNat = 32 := rfl
                                                      have := hx.out
                                                      omega)
          have HN : Hid (acc ++ trP c (l.drop (k + 1)) = trP 32 l) := Lib.hid (by rw [← hw.out, hc2, trP_cons, if_pos ⟨hc32, hx32⟩]; rfl)
          have HX := Lib.hid (show (c.toNat : Int) = 32 from hcc)
          have q1 : ((c.toNat : Int) == 32) = true := by simpa using hcc
          have q2 : ((c.toNat : Int) != 32) = false := by simp [bne, q1]
          subst hy
          clear hcc hc32 hx32 hx hw hc1 hc2
          go_wp2
          go_roundw
          case rel => exact ⟨k + 1, c, _, acc, by omega, by go_num, rfl, by first | exact HX | exact Lib.hid rfl, hrow, hne, hc, HN, hb⟩
          case measure => simp [intOf]; omega
        · have hx32 : x ≠ 32 := fun e => hy (by rw [← hx.out, e]; rfl)
          have HN : Hid ((acc ++ [c]) ++ trP c (l.drop (k + 1)) = trP 32 l) := Lib.hid (by rw [← hw.out, hc2, trP_cons, if_neg (fun e => hx32 e.2)]; simp)
          have HX : Hid ((c.toNat : Int) = c.toNat) := Lib.hid rfl
          have q1 : ((c.toNat : Int) == 32) = true := by simpa using hcc
          have q2 : ((c.toNat : Int) != 32) = false := by simp [bne, q1]
          have q3 : (y == 32) = false := by simpa using hy
          have q4 : (y != 32) = true := by simp [bne, q3]
          clear hcc hc32 hx32 hx hw hc1 hc2
          go_wp2_with (at_builtin; refine wpList_append_own_at _ rfl _ _ 50 rfl w.heap.size 5 i0 (.int .u8 0) 1 1 Tryz.underlying50 hi hz0 hz1 hz2 rfl (by decide) _ _ _ rfl (hrow.alloc _) ⟨_, 0, none⟩ 1 1 [.int .u8 (c.toNat : Int)] rfl rfl (cell_one_new _ _ _) (one_cell _ rfl) (by unfold maxLen; omega) (by omega) (by simp; omega) ?_)
          intro v1 w2 hown1 hg1 _ hloc1
          have hb3 := OwnB.below hrow hb (Nat.le_refl _) hg1
          have hrow1 := OwnB.snoc c _ rfl hown1
          have hc3 := Lib.hid (cells_grown (hc.out.on_alloc _) hg1 hne.out)
          have hne1 : Hid (some (w.heap.size + 1) ≠ v1.ownBlock) := Lib.hid (by
            rcases hloc1 with h | h
            · rw [h]; exact hne.out
            · rw [h]; simp; omega)
          clear hown1 hg1 hrow hb hc hne hloc1
          go_wp2
          go_roundw
          case rel => exact ⟨k + 1, c, _, acc ++ [c], by omega, by go_num, rfl, by first | exact HX | exact Lib.hid rfl, hrow1, hne1, hc3, HN, hb3⟩
          case measure => simp [intOf]; omega
      · have hc32 : c ≠ 32 := fun e => hcc (by rw [e]; rfl)
        have HN : Hid ((acc ++ [c]) ++ trP c (l.drop (k + 1)) = trP 32 l) := Lib.hid (by rw [← hw.out, hc2, trP_cons, if_neg (fun e => hc32 e.1)]; simp)
        have HX : Hid ((c.toNat : Int) = c.toNat) := Lib.hid rfl
        have q1 : ((c.toNat : Int) == 32) = false := by simpa using hcc
        have q2 : ((c.toNat : Int) != 32) = true := by simp [bne, q1]
        clear hcc hc32 hx hw hc1 hc2
        go_wp2_with (at_builtin; refine wpList_append_own_at _ rfl _ _ 50 rfl w.heap.size 5 i0 (.int .u8 0) 1 1 Tryz.underlying50 hi hz0 hz1 hz2 rfl (by decide) _ _ _ rfl (hrow.alloc _) ⟨_, 0, none⟩ 1 1 [.int .u8 (c.toNat : Int)] rfl rfl (cell_one_new _ _ _) (one_cell _ rfl) (by unfold maxLen; omega) (by omega) (by simp; omega) ?_)
        intro v1 w2 hown1 hg1 _ hloc1
        have hb3 := OwnB.below hrow hb (Nat.le_refl _) hg1
        have hrow1 := OwnB.snoc c _ rfl hown1
        have hc3 := Lib.hid (cells_grown (hc.out.on_alloc _) hg1 hne.out)
        have hne1 : Hid (some (w.heap.size + 1) ≠ v1.ownBlock) := Lib.hid (by
          rcases hloc1 with h | h
          · rw [h]; exact hne.out
          · rw [h]; simp; omega)
        clear hown1 hg1 hrow hb hc hne hloc1
        go_wp2
        go_roundw
        case rel => exact ⟨k + 1, c, _, acc ++ [c], by omega, by go_num, rfl, by first | exact HX | exact Lib.hid rfl, hrow1, hne1, hc3, HN, hb3⟩
        case measure => simp [intOf]; omega
    · obtain rfl : k = t.size := by omega
      rw [← hl, List.drop_length] at hw
      have hx2 : acc = trP 32 l := by rw [← hw.out]; exact (List.append_nil _).symm
      subst hx2
      have hconv := hrow.conv
      have HT := Lib.hid (HTS.out ⟨(trP 32 l).toArray⟩)
      have hsz : (⟨(trP 32 l).toArray⟩ : ByteArray).size ≤ 1000000 := by rw [ByteArray.size, List.size_toArray]; exact hal
      have HTE : Hid (Lib.trimSuffix ((⟨(trP 32 l).toArray⟩ : ByteArray).data.toList) [32] = trimL l) := Lib.hid HE.out
      clear hw hrow hc hne HPL
      generalize (⟨(trP 32 l).toArray⟩ : ByteArray) = z at *
      go_wp2_with fail
      refine (HT.out _ hsz).mono ?_
      rintro e w3 ⟨rfl, rfl⟩
      rw [HTE.out]
      go_wp2
      go_ret
      exact ⟨rfl, hb⟩
end Go.Proofs.YtebjedbppiphgaaGreatDoor.Txt
