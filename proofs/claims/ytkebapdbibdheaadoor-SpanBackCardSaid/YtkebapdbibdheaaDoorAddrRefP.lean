/- What the reference's Parse of a cell answers: every text. -/
import Derived.Test.YtkebapdbibdheaaDoorAddrRef
namespace Go.Proofs.YtkebapdbibdheaaDoor.Addr
open Go.RowKit Kit

/-- a reader's answer: a cell, and whether there is one -/
def FoundEnd (t : List UInt8) (w : World) (e : Ending) (w' : World) : Prop := ∃ (r c : Int) (b : Bool), e = .returned (.agg #[.int .i64 r, .int .i64 c, .bool b]) ∧ CellIs t r c b ∧ Below w.heap.size w w'
theorem ext_take (t : ByteArray) (k : Nat) : (t.extract 0 k).data.toList = t.data.toList.take k := by
  rw [Lib.extract_data, List.drop_zero, Nat.sub_zero]
theorem ext_drop (t : ByteArray) (k : Nat) : (t.extract k t.size).data.toList = t.data.toList.drop k := by
  rw [Lib.extract_data, List.take_of_length_le (by rw [List.length_drop, Lib.size_eq]; omega)]
set_option maxRecDepth 100000 in
set_option maxHeartbeats 2000000 in
theorem rparse_c (t : ByteArray) (w : World) : Calls Tryd.prog 41 #[.string t] w (FoundEnd t.data.toList w) := by
  have h0 := NoCut.one t.data.toList
  have hts := Lib.size_eq t
  go_enter Tryd.func41, Tryd.ntmps41
  go_wp2
  go_loopw [3] (fun i wr => ∃ k : Nat, 1 ≤ k ∧ k ≤ 3 ∧ i = .int .i64 k ∧ NoCut t.data.toList k ∧ Below (w.alloc (.cells #[.int .i64 0, .int .i64 0, .bool false] 59)).heap.size (w.alloc (.cells #[.int .i64 0, .int .i64 0, .bool false] 59)) wr) (fun i _ => 3 - (intOf i).toNat)
  case atStart => exact ⟨1, by omega, by omega, rfl, h0, Below.refl _ _⟩
  case round =>
    clear h0
    obtain ⟨k, hk1, hk3, rfl, hN, hb⟩ := hrel
    by_cases hlt : k ≤ 2
    · by_cases hle : k ≤ t.size
      · have Hc := Lib.hid (fun w1 => rcolumn_c (t.extract 0 k) w1)
        have Hn := Lib.hid (fun w1 => rnumber_c (t.extract k t.size) w1)
        rw [ext_take] at Hc
        rw [ext_drop] at Hn
        clear hts
        go_wp2_with fail
        refine (Hc.out _).mono ?_
        rintro e w2 ⟨n, b, rfl, hcol, hb2⟩
        have hb3 := on hb hb2
        have hq := CellsAt.new w2 [.int .i64 n, .bool b] 67
        clear hb hb2 Hc
        go_wp2_with fail
        refine (Hn.out _).mono ?_
        rintro e w3 ⟨m, c, rfl, hnum, hb4⟩
        have hq1 := (hq.on hb4).on_alloc (.cells #[.int .i64 m, .bool c] 67)
        have hz : w2.heap.size < w3.heap.size := (hq.on hb4).1
        have hr1 := CellsAt.new w3 [.int .i64 m, .bool c] 67
        have hb5 := on_alloc (on (on_alloc hb3 (.cells #[.int .i64 n, .bool b] 67)) hb4) (.cells #[.int .i64 m, .bool c] 67)
        clear hb3 hb4 hq Hn
        obtain ⟨p0, p1, _, _⟩ := hq1.two
        obtain ⟨r0, r1, _, _⟩ := hr1.two
        clear hq1 hr1
        cases b with
        | false =>
          have hnext := hN.col hcol
          clear hN hcol hnum
          go_wp2
          go_roundw
          case rel => exact ⟨k + 1, by omega, by omega, by go_num, hnext, hb5⟩
          case measure => simp [intOf]; omega
        | true =>
          cases c with
          | false =>
            have hnext := hN.num hnum
            clear hN hcol hnum
            go_wp2
            go_roundw
            case rel => exact ⟨k + 1, by omega, by omega, by go_num, hnext, hb5⟩
            case measure => simp [intOf]; omega
          | true =>
            have HL := Lib.hid (CellIs.both hcol hnum)
            obtain ⟨hc, hw⟩ := slot (cs := [.int .i64 0, .int .i64 0, .bool false]) hb5
            obtain ⟨c0, c1, c2, f0, f1, f2⟩ := hc.three
            obtain ⟨e0, e1, e2⟩ := three_set (u := .int .i64 m) (v := .int .i64 n) (r := .bool true) c0 c1 c2
            clear hb5 hc hcol hnum hN
            go_wp2
            exact bodyPost_ret (v := .agg #[.int .i64 m, .int .i64 n, .bool true]) (by simp [results, Tryd.results41, go_sem, e0, e1, e2]) rfl ⟨_, _, _, rfl, HL.out, set3 hw (Nat.le_refl _) _ _ _⟩
      · have HL := Lib.hid (hN.done (.inr (by omega)))
        obtain ⟨hc, hw⟩ := slot (cs := [.int .i64 0, .int .i64 0, .bool false]) hb
        obtain ⟨c0, c1, c2, f0, f1, f2⟩ := hc.three
        obtain ⟨e0, e1, e2⟩ := three_set (u := .int .i64 0) (v := .int .i64 0) (r := .bool false) c0 c1 c2
        clear hb hc hN hts
        go_wp2
        exact bodyPost_ret (v := .agg #[.int .i64 0, .int .i64 0, .bool false]) (by simp [results, Tryd.results41, go_sem, e0, e1, e2]) rfl ⟨_, _, _, rfl, HL.out, set3 hw (Nat.le_refl _) _ _ _⟩
    · have HL := Lib.hid (hN.done (.inl (by omega)))
      obtain ⟨hc, hw⟩ := slot (cs := [.int .i64 0, .int .i64 0, .bool false]) hb
      obtain ⟨c0, c1, c2, f0, f1, f2⟩ := hc.three
      obtain ⟨e0, e1, e2⟩ := three_set (u := .int .i64 0) (v := .int .i64 0) (r := .bool false) c0 c1 c2
      clear hb hc hN hts
      go_wp2
      exact bodyPost_ret (v := .agg #[.int .i64 0, .int .i64 0, .bool false]) (by simp [results, Tryd.results41, go_sem, e0, e1, e2]) rfl ⟨_, _, _, rfl, HL.out, set3 hw (Nat.le_refl _) _ _ _⟩
end Go.Proofs.YtkebapdbibdheaaDoor.Addr
