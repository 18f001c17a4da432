/- What the program's Trim and the reference's Turn, Trim answer: for every text of at most a million bytes. -/
import Derived.Test.YtckcoogmfgegeaaDoorTxtGo
namespace Go.Proofs.YtckcoogmfgegeaaDoor.Txt
open Go.RowKit Kit Reg

theorem own_lit (w : World) (o : Value) (B : Nat) (hB : B ≤ w.heap.size) (ho : o = .slice (some ⟨w.heap.size, 0, none⟩) 0 0) : OwnB B o [] (w.alloc (.cells #[] 5)) := by
  subst ho
  exact World.ownsRow_lit w #[] 0 hB (by decide) rfl
theorem one_cell (x : Value) (h : x.oneCell' = true) : ∀ u ∈ [x], u.oneCell' = true := fun u hu => by
  simp only [List.mem_singleton] at hu
  subst hu
  exact h
/-- what strings.TrimSuffix has to answer at one blank -/
def CutsBlank : Prop := ∀ (s : ByteArray) (w : World), s.size ≤ 1000000 → Calls Tryd.prog 24 #[.string s, .string ⟨#[32]⟩] w fun e w' => e = .returned (.string ⟨(Lib.trimSuffix s.data.toList [32]).toArray⟩) ∧ w = w'
set_option maxRecDepth 100000 in
set_option maxHeartbeats 4000000 in
theorem trim_c (HTS : CutsBlank) (t : ByteArray) (l : List UInt8) (hs : t.data.toList = l) (h9 : t.size ≤ 1000000) (w : World) :
    Calls Tryd.prog 11 #[.string t] w fun e w' => e = .returned (.string ⟨(trimL l).toArray⟩) ∧ Below w.heap.size w w' := by
  obtain ⟨i0, hi, hz0, hz1, hz2⟩ := info_parts infoB
  obtain ⟨w0, hw0⟩ : ∃ w0, w0 = w.alloc (.cells #[] 5) := ⟨_, rfl⟩
  have hs0 : w0.heap.size = w.heap.size + 1 := by rw [hw0]; simp
  obtain ⟨cap, w1, hcv, hcap, hcells, hb1⟩ := bytes_of t w0
  have h1 : OwnB w.heap.size (.slice (some ⟨w.heap.size, 0, none⟩) 0 0) [] w0 := by rw [hw0]; exact own_lit w _ _ (Nat.le_refl _) rfl
  rw [hs, hs0] at hcells
  rw [hs0] at hcv
  have hb0 : Below w.heap.size w w0 := by rw [hw0]; exact below1 _ _
  have hb2 := Lib.hid (on hb0 hb1)
  have H1 := Lib.hid (h1.on hb1)
  have HC := Lib.hid hcells
  rw [hw0] at hcv
  have hl : l.length = t.size := by rw [← hs, len]
  have hlt : w.heap.size + 1 < w1.heap.size := hcells.1
  have HTS := Lib.hid HTS
  have HE := Lib.hid (trim_eq l 32)
  have HPL := Lib.hid (trP_len l 32)
  clear hcells hs hb1 hb0 h1
  have H32 : Hid (((32 : UInt8).toNat : Int) = 32) := Lib.hid rfl
  go_enter Tryd.func11, Tryd.ntmps11
  go_wp2
  go_loopw [3, 4, 11] (fun v av i wr => ∃ (k : Nat) (x : UInt8) (y : Int) (acc : List UInt8), k ≤ t.size ∧ i = .int .i64 k ∧ av = .int .u8 y ∧ Hid ((x.toNat : Int) = y) ∧ OwnB w.heap.size v acc wr ∧ Hid (some (w.heap.size + 1) ≠ v.ownBlock) ∧
    Hid (CellsAt wr (w.heap.size + 1) (Lib.byteCells l)) ∧ Hid (acc ++ trP x (l.drop k) = trP 32 l) ∧ Below w.heap.size w wr) (fun _ _ i _ => t.size - (intOf i).toNat)
  case atStart => exact ⟨0, 32, 32, [], Nat.zero_le _, rfl, rfl, H32, H1.out, Lib.hid (by simp [Value.ownBlock]), HC, Lib.hid rfl, hb2.out⟩
  case round =>
    clear H1 HC hcv hb2 H32 hw0 hs0
    obtain ⟨k, x, y, acc, hk, rfl, rfl, hx, hrow, hne, hc, hw, hb⟩ := hrel
    have hbs := hb.size
    have hal : acc.length ≤ 1000000 := by
      have h1 := HPL.out
      rw [← hw.out, List.length_append] at h1
      omega
    by_cases hlt2 : k < t.size
    · obtain ⟨c, hc1, hc2⟩ := drop_at (l := l) (k := k) (by omega)
      obtain ⟨p1, p2⟩ := hc.out.2 k _ (byteCells_at _ _ _ hc1)
      have p3 := hc.out.1
      by_cases hcc : (c.toNat : Int) = 32
      · have hc32 : c = 32 := UInt8.toNat_inj.1 (by have : (32 : UInt8).toNat = 32 := rfl
                                                    omega)
        by_cases hy : y = 32
        · have hx32 : x = 32 := UInt8.toNat_inj.1 (by have : (32 : UInt8).toNat = 32 := rfl
                                                      have := hx.out
                                                      omega)
          have HN : Hid (acc ++ trP c (l.drop (k + 1)) = trP 32 l) := Lib.hid (by rw [← hw.out, hc2, trP_cons, if_pos ⟨hc32, hx32⟩]; rfl)
          have HX := Lib.hid (show (c.toNat : Int) = 32 from hcc)
          have q1 : ((c.toNat : Int) == 32) = true := by simpa using hcc
          have q2 : ((c.toNat : Int) != 32) = false := by simp [bne, q1]
          subst hy
          clear hcc hc32 hx32 hx hw hc1 hc2
          go_wp2
          go_roundw
          case rel => exact ⟨k + 1, c, _, acc, by omega, by go_num, rfl, by first | exact HX | exact Lib.hid rfl, hrow, hne, hc, HN, hb⟩
          case measure => simp [intOf]; omega
        · have hx32 : x ≠ 32 := fun e => hy (by rw [← hx.out, e]; rfl)
          have HN : Hid ((acc ++ [c]) ++ trP c (l.drop (k + 1)) = trP 32 l) := Lib.hid (by rw [← hw.out, hc2, trP_cons, if_neg (fun e => hx32 e.2)]; simp)
          have HX : Hid ((c.toNat : Int) = c.toNat) := Lib.hid rfl
          have q1 : ((c.toNat : Int) == 32) = true := by simpa using hcc
          have q2 : ((c.toNat : Int) != 32) = false := by simp [bne, q1]
          have q3 : (y == 32) = false := by simpa using hy
          have q4 : (y != 32) = true := by simp [bne, q3]
          clear hcc hc32 hx32 hx hw hc1 hc2
          go_wp2_with (at_builtin; refine wpList_append_own_at _ rfl _ _ 47 rfl w.heap.size 5 i0 (.int .u8 0) 1 1 Tryd.underlying47 hi hz0 hz1 hz2 rfl (by decide) _ _ _ rfl (hrow.alloc _) ⟨_, 0, none⟩ 1 1 [.int .u8 (c.toNat : Int)] rfl rfl (cell_one_new _ _ _) (one_cell _ rfl) (by unfold maxLen; omega) (by omega) (by simp; omega) ?_)
          intro v1 w2 hown1 hg1 _ hloc1
          have hb3 := OwnB.below hrow hb (Nat.le_refl _) hg1
          have hrow1 := OwnB.snoc c _ rfl hown1
          have hc3 := Lib.hid (cells_grown (hc.out.on_alloc _) hg1 hne.out)
          have hne1 : Hid (some (w.heap.size + 1) ≠ v1.ownBlock) := Lib.hid (by
            rcases hloc1 with h | h
            · rw [h]; exact hne.out
            · rw [h]; simp; omega)
          clear hown1 hg1 hrow hb hc hne hloc1
          go_wp2
          go_roundw
          case rel => exact ⟨k + 1, c, _, acc ++ [c], by omega, by go_num, rfl, by first | exact HX | exact Lib.hid rfl, hrow1, hne1, hc3, HN, hb3⟩
          case measure => simp [intOf]; omega
      · have hc32 : c ≠ 32 := fun e => hcc (by rw [e]; rfl)
        have HN : Hid ((acc ++ [c]) ++ trP c (l.drop (k + 1)) = trP 32 l) := Lib.hid (by rw [← hw.out, hc2, trP_cons, if_neg (fun e => hc32 e.1)]; simp)
        have HX : Hid ((c.toNat : Int) = c.toNat) := Lib.hid rfl
        have q1 : ((c.toNat : Int) == 32) = false := by simpa using hcc
        have q2 : ((c.toNat : Int) != 32) = true := by simp [bne, q1]
        clear hcc hc32 hx hw hc1 hc2
        go_wp2_with (at_builtin; refine wpList_append_own_at _ rfl _ _ 47 rfl w.heap.size 5 i0 (.int .u8 0) 1 1 Tryd.underlying47 hi hz0 hz1 hz2 rfl (by decide) _ _ _ rfl (hrow.alloc _) ⟨_, 0, none⟩ 1 1 [.int .u8 (c.toNat : Int)] rfl rfl (cell_one_new _ _ _) (one_cell _ rfl) (by unfold maxLen; omega) (by omega) (by simp; omega) ?_)
        intro v1 w2 hown1 hg1 _ hloc1
        have hb3 := OwnB.below hrow hb (Nat.le_refl _) hg1
        have hrow1 := OwnB.snoc c _ rfl hown1
        have hc3 := Lib.hid (cells_grown (hc.out.on_alloc _) hg1 hne.out)
        have hne1 : Hid (some (w.heap.size + 1) ≠ v1.ownBlock) := Lib.hid (by
          rcases hloc1 with h | h
          · rw [h]; exact hne.out
          · rw [h]; simp; omega)
        clear hown1 hg1 hrow hb hc hne hloc1
        go_wp2
        go_roundw
        case rel => exact ⟨k + 1, c, _, acc ++ [c], by omega, by go_num, rfl, by first | exact HX | exact Lib.hid rfl, hrow1, hne1, hc3, HN, hb3⟩
        case measure => simp [intOf]; omega
    · obtain rfl : k = t.size := by omega
      rw [← hl, List.drop_length] at hw
      have hx2 : acc = trP 32 l := by rw [← hw.out]; exact (List.append_nil _).symm
      subst hx2
      have hconv := hrow.conv
      have HT := Lib.hid (HTS.out ⟨(trP 32 l).toArray⟩)
      have hsz : (⟨(trP 32 l).toArray⟩ : ByteArray).size ≤ 1000000 := by rw [ByteArray.size, List.size_toArray]; exact hal
      have HTE : Hid (Lib.trimSuffix ((⟨(trP 32 l).toArray⟩ : ByteArray).data.toList) [32] = trimL l) := Lib.hid HE.out
      clear hw hrow hc hne HPL
      generalize (⟨(trP 32 l).toArray⟩ : ByteArray) = z at *
      go_wp2_with fail
      refine (HT.out _ hsz).mono ?_
      rintro e w3 ⟨rfl, rfl⟩
      rw [HTE.out]
      go_wp2
      go_ret
      exact ⟨rfl, hb⟩
end Go.Proofs.YtckcoogmfgegeaaDoor.Txt
