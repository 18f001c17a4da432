/- What the program's written, Upper, Lower, Proper and Trim answer (over the landed text of package text): for every text of at most a million bytes. -/
import Derived.Test.YtckcoogmfgegeaaDoorTxtLeaf
import Derived.Laws.IdiomStrings
import Derived.LoopTactic
namespace Go.Proofs.YtckcoogmfgegeaaDoor.Txt
open Go.RowKit Kit Reg

theorem at_add (b j : Nat) : ((⟨b, 0, none⟩ : Addr).add j) = ⟨b, j, none⟩ := by unfold Addr.add; split <;> simp_all
theorem byteCells_at (l : List UInt8) (k : Nat) (c : UInt8) (h : l[k]? = some c) : (Lib.byteCells l)[k]? = some (.int .u8 (c.toNat : Int)) := by
  simp [Lib.byteCells, h]
theorem byteCells_set (l : List UInt8) (k : Nat) (c : UInt8) : (Lib.byteCells l).set k (.int .u8 (c.toNat : Int)) = Lib.byteCells (l.set k c) := by
  simp [Lib.byteCells, List.map_set]
theorem conv_cells {w : World} {b cap : Nat} {l : List UInt8} (n : Nat) (hn : l.length = n) (h : CellsAt w b (Lib.byteCells l)) :
    (convert 47 9 (.slice (some ⟨b, 0, none⟩) n cap)).run Tryd.prog w = .ok (.string ⟨l.toArray⟩) w := by
  subst hn
  refine run_convert_bytes_back w _ _ _ ⟨b, 0, none⟩ cap l Tryd.underlying47 Tryd.underlying5 Tryd.underlying9 (fun j hj => ?_)
  rw [at_add]
  exact (h.2 j _ (byteCells_at l j l[j] (List.getElem?_eq_getElem hj))).1
/-- a text as bytes: new memory -/
theorem bytes_of (t : ByteArray) (w : World) : ∃ cap w1, (convert 9 47 (.string t)).run Tryd.prog w = .ok (.slice (some ⟨w.heap.size, 0, none⟩) t.size cap) w1 ∧ t.size ≤ cap ∧
    CellsAt w1 w.heap.size (Lib.byteCells t.data.toList) ∧ Below w.heap.size w w1 := by
  refine ⟨_, _, run_bytes_of_string w _ _ _ t Tryd.underlying9 Tryd.underlying47 Tryd.underlying5, grownCap_ge _ _ _ _, ⟨by show w.drew.heap.size < (w.drew.alloc _).heap.size; simp, fun i x hx => ?_⟩, ?_⟩
  · have hi : i < t.data.size := by
      have h := (List.getElem?_eq_some_iff.1 hx).1
      rw [Lib.byteCells_length, len] at h
      exact h
    have hx2 : x = .int .u8 (t.data[i].toNat : Int) := by
      have h := byteCells_at t.data.toList i t.data[i] (by rw [List.getElem?_eq_getElem (by simpa using hi)]; simp)
      rw [hx] at h
      exact Option.some.inj h
    subst hx2
    have e : w.heap.size = w.drew.heap.size := rfl
    rw [e, World.cell?_alloc_mark, World.frozen?_alloc_mark]
    refine ⟨bytesRow_at t _ i hi, ?_⟩
    have hge := grownCap_ge w t.size 0 5
    have : i < (bytesRow t (grownCap w t.size 0 5)).size := by
      unfold bytesRow
      have e2 : t.size = t.data.size := rfl
      simp
      omega
    simp
    omega
  · exact on_alloc (drew_below (n := 1) rfl) _
theorem drop_at {l : List UInt8} {k : Nat} (h : k < l.length) : ∃ c, l[k]? = some c ∧ l.drop k = c :: l.drop (k + 1) := ⟨l[k], List.getElem?_eq_getElem h, List.drop_eq_getElem_cons h⟩
theorem set_mid (a r : List UInt8) (c y : UInt8) : (a ++ c :: r).set a.length y = (a ++ [y]) ++ r := by simp
set_option maxRecDepth 100000 in
set_option maxHeartbeats 2000000 in
theorem written_c (t : ByteArray) (l : List UInt8) (hs : t.data.toList = l) (h9 : t.size ≤ 1000000) (f o : Nat) (hf : f ≤ 1) (ho : o ≤ 1) (w : World) :
    Calls Tryd.prog 23 #[.string t, .int .i64 (f : Int), .int .i64 (o : Int)] w fun e w' => e = .returned (.string ⟨(wrL f o f l).toArray⟩) ∧ Below w.heap.size w w' := by
  obtain ⟨cap, w1, hcv, hcap, hcells, hb1⟩ := bytes_of t w
  rw [hs] at hcells
  have hl : l.length = t.size := by rw [← hs, len]
  have HT := Lib.hid (fun c k hk w => turned_c c k hk w)
  have HL := Lib.hid (fun c b hb w => letter_c c b hb w)
  have hlt : w.heap.size < w1.heap.size := hcells.1
  have H1 : Hid (CellsAt w1 w.heap.size (Lib.byteCells l)) := Lib.hid hcells
  have HB1 := Lib.hid hb1
  clear hcells hs hb1
  go_enter Tryd.func23, Tryd.ntmps23
  go_wp2
  go_loopw [8, 16] (fun nx i wr => ∃ (k x : Nat) (acc : List UInt8), k ≤ t.size ∧ x ≤ 1 ∧ i = .int .i64 k ∧ nx = .int .i64 x ∧ acc.length = k ∧ Hid (CellsAt wr w.heap.size (Lib.byteCells (acc ++ l.drop k))) ∧ Hid (acc ++ wrL f o x (l.drop k) = wrL f o f l) ∧ Hid (Below w.heap.size w wr)) (fun _ i _ => t.size - (intOf i).toNat)
  case atStart => exact ⟨0, f, [], Nat.zero_le _, hf, rfl, rfl, rfl, H1, Lib.hid rfl, HB1⟩
  case round =>
    clear H1 HB1 hcv
    obtain ⟨k, x, acc, hk, hx, rfl, rfl, hacc, hc, hw, hb⟩ := hrel
    by_cases hlt2 : k < t.size
    · obtain ⟨c, hc1, hc2⟩ := drop_at (l := l) (k := k) (by omega)
      have hat : (acc ++ l.drop k)[k]? = some c := by
        rw [List.getElem?_append_right (by omega), hc2, hacc, Nat.sub_self]; rfl
      obtain ⟨p1, p2⟩ := hc.out.2 k _ (byteCells_at _ _ _ hat)
      have p3 := hc.out.1
      have HN := Lib.hid (HT.out c x hx)
      obtain ⟨b, hb2⟩ : ∃ b, isL c = b := ⟨_, rfl⟩
      have HL2 := Lib.hid (HL.out c b hb2)
      have HA : Hid ((acc ++ [wayB x c]) ++ wrL f o (if b then o else f) (l.drop (k + 1)) = wrL f o f l) := Lib.hid (by
        rw [← hw.out, hc2, wr_cons, nextW, hb2]; simp)
      have HC : Hid (CellsAt (wr.setCell ⟨w.heap.size, k, none⟩ (.int .u8 ((wayB x c).toNat : Int))) w.heap.size (Lib.byteCells ((acc ++ [wayB x c]) ++ l.drop (k + 1)))) := Lib.hid (by
        have h := hc.out.set (i := k) (by rw [Lib.byteCells_length, List.length_append, List.length_drop]; omega) (.int .u8 ((wayB x c).toNat : Int))
        rw [byteCells_set, hc2, ← hacc, set_mid, hacc] at h
        exact h)
      have HB := Lib.hid (hb.out.setCell (p := ⟨w.heap.size, k, none⟩) (Nat.le_refl _) (.int .u8 ((wayB x c).toNat : Int)))
      have hacc2 : (acc ++ [wayB x c]).length = k + 1 := by simp [hacc]
      clear hat hc2 hc1 hb2 hw hc hb hacc
      go_wp2_with fail
      refine (HN.out _).mono ?_
      rintro e w2 ⟨rfl, rfl⟩
      go_wp2_with fail
      refine (HL2.out _).mono ?_
      rintro e w2 ⟨rfl, rfl⟩
      clear p1 p2 p3 HN HL2 HT HL
      generalize wr.setCell ⟨w.heap.size, k, none⟩ (.int .u8 ((wayB x c).toNat : Int)) = w3 at *
      cases b
      all_goals
        go_wp2
        go_roundw
        case rel => exact ⟨k + 1, _, acc ++ [wayB x c], by omega, by first | exact hf | exact ho, by go_num, rfl, hacc2, HC, HA, HB⟩
        case measure => simp [intOf]; omega
    · obtain rfl : k = t.size := by omega
      rw [← hl, List.drop_length] at hc hw
      have hx2 : acc = wrL f o f l := by rw [← hw.out]; exact (List.append_nil _).symm
      rw [List.append_nil, hx2] at hc
      rw [hx2] at hacc
      have hcv := conv_cells (cap := cap) t.size hacc hc.out
      clear hc hw hx2 hacc
      go_wp2
      go_ret
      exact ⟨rfl, hb.out⟩
theorem upper_c (t : ByteArray) (h9 : t.size ≤ 1000000) (w : World) : Calls Tryd.prog 8 #[.string t] w fun e w' => e = .returned (.string ⟨(wrL 0 0 0 t.data.toList).toArray⟩) ∧ Below w.heap.size w w' := by
  have H := Lib.hid (fun w => written_c t _ rfl h9 0 0 (by omega) (by omega) w)
  go_enter Tryd.func8, Tryd.ntmps8
  go_wp2_with fail
  refine (H.out _).mono ?_
  rintro e w1 ⟨rfl, hb⟩
  go_wp2
  go_ret
  exact ⟨rfl, hb⟩
theorem lower_c (t : ByteArray) (h9 : t.size ≤ 1000000) (w : World) : Calls Tryd.prog 9 #[.string t] w fun e w' => e = .returned (.string ⟨(wrL 1 1 1 t.data.toList).toArray⟩) ∧ Below w.heap.size w w' := by
  have H := Lib.hid (fun w => written_c t _ rfl h9 1 1 (by omega) (by omega) w)
  go_enter Tryd.func9, Tryd.ntmps9
  go_wp2_with fail
  refine (H.out _).mono ?_
  rintro e w1 ⟨rfl, hb⟩
  go_wp2
  go_ret
  exact ⟨rfl, hb⟩
theorem proper_c (t : ByteArray) (h9 : t.size ≤ 1000000) (w : World) : Calls Tryd.prog 10 #[.string t] w fun e w' => e = .returned (.string ⟨(wrL 0 1 0 t.data.toList).toArray⟩) ∧ Below w.heap.size w w' := by
  have H := Lib.hid (fun w => written_c t _ rfl h9 0 1 (by omega) (by omega) w)
  go_enter Tryd.func10, Tryd.ntmps10
  go_wp2_with fail
  refine (H.out _).mono ?_
  rintro e w1 ⟨rfl, hb⟩
  go_wp2
  go_ret
  exact ⟨rfl, hb⟩
end Go.Proofs.YtckcoogmfgegeaaDoor.Txt
