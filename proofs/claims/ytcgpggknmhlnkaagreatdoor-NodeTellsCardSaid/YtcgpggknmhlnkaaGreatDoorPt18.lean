/- What the reference's Parse of a label answers: for every text of at most 2^63 - 3 bytes. -/
import Derived.Test.YtcgpggknmhlnkaaGreatDoorPt17
namespace Go.Proofs.YtcgpggknmhlnkaaGreatDoor.Cats
open Go.RowKit
/-- a reader's answer -/
def TellEnd (t : List UInt8) (w : World) (e : Ending) (w' : World) : Prop := ∃ (l : Int) (s : Nat) (b : Bool), e = .returned (.agg #[.int .i64 l, .int .u64 s, .bool b]) ∧ LabIs t l s b ∧ Below w.heap.size w w'
theorem slot_kept3 {w w2 : World} {x y z : Value} {ty : TypeId} (hb : Below (w.heap.size + 1) (w.alloc (.cells #[x, y, z] ty)) w2) :
    w2.cell? ⟨w.heap.size, 0, none⟩ = some x ∧ w2.cell? ⟨w.heap.size, 1, none⟩ = some y ∧ w2.cell? ⟨w.heap.size, 2, none⟩ = some z ∧
      w2.frozen? ⟨w.heap.size, 0, none⟩ = false ∧ w2.frozen? ⟨w.heap.size, 1, none⟩ = false ∧ w2.frozen? ⟨w.heap.size, 2, none⟩ = false ∧ w.heap.size < w2.heap.size := by
  refine ⟨?_, ?_, ?_, ?_, ?_, ?_, ?_⟩
  · rw [hb.cell (p := ⟨w.heap.size, 0, none⟩) (by simp), World.cell?_alloc_at _ _ _ _ rfl]; rfl
  · rw [hb.cell (p := ⟨w.heap.size, 1, none⟩) (by simp), World.cell?_alloc_at _ _ _ _ rfl]; rfl
  · rw [hb.cell (p := ⟨w.heap.size, 2, none⟩) (by simp), World.cell?_alloc_at _ _ _ _ rfl]; rfl
  · rw [hb.frozen (p := ⟨w.heap.size, 0, none⟩) (by simp)]; exact World.frozen?_alloc_at _ _ _ _ rfl
  · rw [hb.frozen (p := ⟨w.heap.size, 1, none⟩) (by simp)]; exact World.frozen?_alloc_at _ _ _ _ rfl
  · rw [hb.frozen (p := ⟨w.heap.size, 2, none⟩) (by simp)]; exact World.frozen?_alloc_at _ _ _ _ rfl
  · have := hb.size; simp at this; omega
theorem three_set {w2 : World} {b : Nat} {x y z u v r : Value} (c0 : w2.cell? ⟨b, 0, none⟩ = some x) (c1 : w2.cell? ⟨b, 1, none⟩ = some y) (c2 : w2.cell? ⟨b, 2, none⟩ = some z) :
    (((w2.setCell ⟨b, 0, none⟩ u).setCell ⟨b, 1, none⟩ v).setCell ⟨b, 2, none⟩ r).cell? ⟨b, 0, none⟩ = some u ∧ (((w2.setCell ⟨b, 0, none⟩ u).setCell ⟨b, 1, none⟩ v).setCell ⟨b, 2, none⟩ r).cell? ⟨b, 1, none⟩ = some v ∧
      (((w2.setCell ⟨b, 0, none⟩ u).setCell ⟨b, 1, none⟩ v).setCell ⟨b, 2, none⟩ r).cell? ⟨b, 2, none⟩ = some r := by
  have h0 : (w2.setCell ⟨b, 0, none⟩ u).cell? ⟨b, 0, none⟩ = some u := by simp [go_sem, c0]
  have h1 : (w2.setCell ⟨b, 0, none⟩ u).cell? ⟨b, 1, none⟩ = some y := by simp [go_sem, c1]
  have h2 : (w2.setCell ⟨b, 0, none⟩ u).cell? ⟨b, 2, none⟩ = some z := by simp [go_sem, c2]
  have h3 : ((w2.setCell ⟨b, 0, none⟩ u).setCell ⟨b, 1, none⟩ v).cell? ⟨b, 0, none⟩ = some u := by simp [go_sem, h0]
  have h4 : ((w2.setCell ⟨b, 0, none⟩ u).setCell ⟨b, 1, none⟩ v).cell? ⟨b, 1, none⟩ = some v := by simp [go_sem, h1]
  have h5 : ((w2.setCell ⟨b, 0, none⟩ u).setCell ⟨b, 1, none⟩ v).cell? ⟨b, 2, none⟩ = some z := by simp [go_sem, h2]
  exact ⟨by simp [go_sem, h3], by simp [go_sem, h4], by simp [go_sem, h5]⟩
theorem below_set3 {w w2 : World} {o : Obj} (hb : Below (w.heap.size + 1) (w.alloc o) w2) (u v r : Value) : Below w.heap.size w (((w2.setCell ⟨w.heap.size, 0, none⟩ u).setCell ⟨w.heap.size, 1, none⟩ v).setCell ⟨w.heap.size, 2, none⟩ r) :=
  ((((below1 w o).trans (Below.mono (B' := w.heap.size) hb (by omega))).setCell (p := ⟨w.heap.size, 0, none⟩) (Nat.le_refl _) u).setCell (p := ⟨w.heap.size, 1, none⟩) (Nat.le_refl _) v).setCell (p := ⟨w.heap.size, 2, none⟩) (Nat.le_refl _) r

theorem pair_kept {w w2 : World} {o : Obj} {x y : Value} {ty : TypeId} (hb : Below ((w.alloc o).alloc (.cells #[x, y] ty)).heap.size ((w.alloc o).alloc (.cells #[x, y] ty)) w2) :
    w2.cell? ⟨w.heap.size + 1, 0, none⟩ = some x ∧ w2.cell? ⟨w.heap.size + 1, 1, none⟩ = some y := by
  have e : w.heap.size + 1 = (w.alloc o).heap.size := by simp
  refine ⟨?_, ?_⟩
  · rw [hb.cell (p := ⟨w.heap.size + 1, 0, none⟩) (by simp), World.cell?_alloc_at _ _ _ _ e]; rfl
  · rw [hb.cell (p := ⟨w.heap.size + 1, 1, none⟩) (by simp), World.cell?_alloc_at _ _ _ _ e]; rfl
set_option maxRecDepth 100000 in
set_option maxHeartbeats 1000000 in
theorem rlabparse_top (t : ByteArray) (ht : (t.toList == [116, 111, 112]) = true) (w : World) : Calls Tryz.prog 45 #[.string t] w (TellEnd t.data.toList w) := by
  have Ht := Lib.hid (fun w1 => rtop_c w1)
  have HL : Hid (LabIs t.data.toList 15 allN true) := Lib.hid (.inl ⟨rfl, by omega, by omega, U_all, by
    have h : t.data.toList = [116, 111, 112] := by rw [← Lib.toList_data]; simpa using ht
    rw [h]
    decide⟩)
  generalize allN = N at *
  go_enter Tryz.func45, Tryz.ntmps45
  go_wp2_with fail
  refine (Ht.out _).mono ?_
  rintro e w2 ⟨rfl, hb⟩
  obtain ⟨c0, c1, c2, f0, f1, f2, hz⟩ := slot_kept3 (w := w) (hb.mono (by simp))
  obtain ⟨e0, e1, e2⟩ := three_set (u := .int .i64 15) (v := .int .u64 N) (r := .bool true) c0 c1 c2
  go_wp2
  refine bodyPost_ret (v := .agg #[.int .i64 15, .int .u64 N, .bool true]) (by simp [results, Tryz.results45, go_sem, e0, e1, e2]) rfl ⟨_, _, _, rfl, HL.out, ?_⟩
  exact below_set3 (hb.mono (by simp)) _ _ _

set_option maxRecDepth 100000 in
set_option maxHeartbeats 2000000 in
theorem rlabparse_no (t : ByteArray) (ht : (t.toList == [116, 111, 112]) = false) (hl : t.size ≤ 9223372036854775807) (w : World) : Calls Tryz.prog 45 #[.string t] w (TellEnd t.data.toList w) := by
  have hN : NoneBelow t.data.toList 0 := NoneBelow.zero (by rw [← Lib.toList_data]; simpa using ht)
  go_enter Tryz.func45, Tryz.ntmps45
  go_wp2
  go_loopw [3] (fun i wr => ∃ n : Nat, n ≤ 16 ∧ i = .int .i64 n ∧ NoneBelow t.data.toList n ∧ Below (w.heap.size + 1) (w.alloc (.cells #[.int .i64 0, .int .u64 0, .bool false] 58)) wr) (fun i _ => 16 - (intOf i).toNat)
  case atStart => exact ⟨0, by omega, rfl, hN, Below.refl _ _⟩
  case round =>
    clear hN
    obtain ⟨n, hn, rfl, hN, hb⟩ := hrel
    by_cases hlt : n ≤ 15
    · have Hd := Lib.hid (fun w1 => digits_c n (by omega) w1)
      have hdl := digs_length n
      have hsz := hb.size
      simp at hsz
      cases hq : (t.toList == digs n)
      · go_wp2_with fail
        refine (Hd.out _).mono ?_
        rintro e w2 ⟨rfl, hb2⟩
        have hb3 := hb.trans (Below.mono (B' := w.heap.size + 1) hb2 (by omega))
        clear hb hb2
        have hd : t.data.toList ≠ digs n := by rw [← Lib.toList_data]; simpa using hq
        have hts := Lib.size_eq t
        by_cases hle : t.size ≤ (digs n).length
        · have hnext := hN.odd hlt hd (fun x e => by
            have := congrArg List.length e
            simp only [List.length_append, List.length_cons] at this
            omega)
          clear hd hts
          go_wp2
          go_roundw
          case rel => exact ⟨n + 1, by omega, by go_num, hnext, hb3⟩
          case measure => simp [intOf]; omega
        · cases hpre : ((t.extract 0 ((digs n).length + 1)).toList == ((⟨(digs n).toArray⟩ : ByteArray) ++ ⟨#[58]⟩).toList)
          · have hnext := hN.odd hlt hd (fun x e => by
              have hne : ¬ (t.extract 0 ((digs n).length + 1)).toList = ((⟨(digs n).toArray⟩ : ByteArray) ++ ⟨#[58]⟩).toList := by simpa using hpre
              apply hne
              rw [Lib.extract_toList, mk_two (digs n) [58], ByteArray.toList_mk, e]
              simp [List.take_append, List.take_of_length_le])
            clear hd hts
            go_wp2
            go_roundw
            case rel => exact ⟨n + 1, by omega, by go_num, hnext, hb3⟩
            case measure => simp [intOf]; omega
          · have hx : t.data.toList = digs n ++ 58 :: (t.extract ((digs n).length + 1) t.size).data.toList := by
              have he : (t.extract 0 ((digs n).length + 1)).toList = ((⟨(digs n).toArray⟩ : ByteArray) ++ ⟨#[58]⟩).toList := by simpa using hpre
              rw [Lib.extract_toList, mk_two (digs n) [58], ByteArray.toList_mk] at he
              simp only [List.drop_zero, Nat.sub_zero] at he
              rw [Lib.extract_data, List.take_of_length_le (by simp)]
              conv => lhs; rw [← List.take_append_drop ((digs n).length + 1) t.data.toList]
              rw [he]
              simp
            have hRs : (t.extract ((digs n).length + 1) t.size).size ≤ 9223372036854775805 := by
              have hd1 : 1 ≤ (digs n).length := by unfold digs; split <;> simp
              rw [Lib.size_eq, Lib.extract_data, List.length_take, List.length_drop, ← Lib.size_eq]
              omega
            clear hts
            have hd' := Lib.hid hd
            have hx' := Lib.hid hx
            clear hd hx
            go_wp2_with fail
            generalize t.extract ((digs n).length + 1) t.size = R at *
            have hRP := Lib.hid (fun w1 => rparse_core R hRs w1)
            have hU := parse_u R.data.toList
            cases hP : parseF R.data.toList with
            | mk S ok =>
              rw [hP] at hRP hU
              have hSU := Lib.hid hU
              clear hU
              refine (hRP.out _).mono ?_
              rintro e w4 ⟨rfl, hb4⟩
              have hb5 := hb3.trans (Below.mono (B' := w.heap.size + 1) hb4 (by have := hb3.size; simp at this; omega))
              have hz4 : w.heap.size + 1 ≤ w4.heap.size := by have := hb5.size; simpa using this
              clear hb4 hb3 hRP
              cases ok
              · have hnext := hN.bad hlt hd'.out hx'.out hP
                clear hP
                go_wp2
                go_roundw
                case rel => exact ⟨n + 1, by omega, by go_num, hnext, (hb5.alloc hz4 _).alloc (by simp; omega) _⟩
                case measure => simp [intOf]; omega
              · have hT := Lib.hid (fun w1 => rlabtext_c (n : Int) S hSU.out w1)
                have hPP := Lib.hid hP
                clear hP
                generalize hlab : labT (n : Int) S = L at *
                cases hq2 : (L == t.toList)
                · have hne : labT (n : Int) S ≠ t.data.toList := by rw [hlab, ← Lib.toList_data]; simpa using hq2
                  have hnext := hN.other hlt hd'.out hx'.out hPP.out hne
                  clear hne hlab
                  go_wp2_with fail
                  refine (hT.out _).mono ?_
                  rintro e w5 ⟨rfl, hb6⟩
                  have hb7 := ((hb5.alloc hz4 _).alloc (by simp; omega) _).trans (Below.mono (B' := w.heap.size + 1) hb6 (by simp; omega))
                  clear hb5 hb6
                  go_wp2
                  go_roundw
                  case rel => exact ⟨n + 1, by omega, by go_num, hnext, hb7⟩
                  case measure => simp [intOf]; omega
                · have HL := Lib.hid (NoneBelow.found (t := t.data.toList) hlt hPP.out (by rw [hlab, ← Lib.toList_data]; simpa using hq2))
                  clear hlab
                  go_wp2_with fail
                  refine (hT.out _).mono ?_
                  rintro e w5 ⟨rfl, hb6⟩
                  have hb7 := ((hb5.alloc hz4 _).alloc (by simp; omega) _).trans (Below.mono (B' := w.heap.size + 1) hb6 (by simp; omega))
                  have hc := pair_kept (w := w4) hb6
                  obtain ⟨c0, c1, c2, f0, f1, f2, hz⟩ := slot_kept3 (w := w) hb7
                  obtain ⟨e0, e1, e2⟩ := three_set (u := .int .i64 n) (v := .int .u64 S) (r := .bool true) c0 c1 c2
                  obtain ⟨p0, p1⟩ := hc
                  clear hb5 hb6
                  go_wp2
                  refine bodyPost_ret (v := .agg #[.int .i64 n, .int .u64 S, .bool true]) (by simp [results, Tryz.results45, go_sem, e0, e1, e2]) rfl ⟨_, _, _, rfl, HL.out, ?_⟩
                  exact below_set3 hb7 _ _ _
      · go_wp2_with fail
        refine (Hd.out _).mono ?_
        rintro e w2 ⟨rfl, hb2⟩
        have hb3 := hb.trans (Below.mono (B' := w.heap.size + 1) hb2 (by omega))
        clear hb hb2
        obtain ⟨c0, c1, c2, f0, f1, f2, hz⟩ := slot_kept3 (w := w) hb3
        obtain ⟨e0, e1, e2⟩ := three_set (u := .int .i64 n) (v := .int .u64 0) (r := .bool true) c0 c1 c2
        have HL := Lib.hid (NoneBelow.bare (t := t.data.toList) hlt (by rw [← Lib.toList_data]; simpa using hq))
        go_wp2
        refine bodyPost_ret (v := .agg #[.int .i64 n, .int .u64 0, .bool true]) (by simp [results, Tryz.results45, go_sem, e0, e1, e2]) rfl ⟨_, _, _, rfl, HL.out, ?_⟩
        exact below_set3 hb3 _ _ _
    · obtain rfl : n = 16 := by omega
      obtain ⟨c0, c1, c2, f0, f1, f2, hz⟩ := slot_kept3 (w := w) hb
      obtain ⟨e0, e1, e2⟩ := three_set (u := .int .i64 0) (v := .int .u64 0) (r := .bool false) c0 c1 c2
      have HL := Lib.hid hN.done
      go_wp2
      refine bodyPost_ret (v := .agg #[.int .i64 0, .int .u64 0, .bool false]) (by simp [results, Tryz.results45, go_sem, e0, e1, e2]) rfl ⟨0, 0, false, rfl, HL.out, ?_⟩
      exact below_set3 hb _ _ _
theorem rlabparse_c (t : ByteArray) (hl : t.size ≤ 9223372036854775807) (w : World) : Calls Tryz.prog 45 #[.string t] w (TellEnd t.data.toList w) := by
  cases ht : (t.toList == [116, 111, 112])
  · exact rlabparse_no t ht hl w
  · exact rlabparse_top t ht w
end Go.Proofs.YtcgpggknmhlnkaaGreatDoor.Cats
