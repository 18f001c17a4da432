/- AddrParses: the law returns true for every text, and makes new memory alone. -/
import Derived.Test.YtoomggpjdnbggaaDoorAddrAlive
import Derived.Test.YtoomggpjdnbggaaDoorAddrRefP
namespace Go.Proofs.YtoomggpjdnbggaaDoor.Addr
open Go.RowKit Kit Cats

set_option maxRecDepth 100000 in
set_option maxHeartbeats 2000000 in
theorem parses_c (t : ByteArray) (w : World) (hL : Libs w) : Calls Tryd.prog 4 #[.string t] w fun e w' => e = .returned (.bool true) ∧ Below w.heap.size w w' := by
  have HA := Lib.hid (fun w1 h => alive_c w1 h)
  have HL := Lib.hid hL
  clear hL
  by_cases hs : 100 < t.size
  · go_enter Tryd.func4, Tryd.ntmps4
    go_wp2_with fail
    refine (HA.out _ HL.out).mono ?_
    rintro e w1 ⟨rfl, hb⟩
    go_wp2
    go_ret
    exact ⟨rfl, hb⟩
  · have H1 := Lib.hid (fun w1 => column_c t (by omega) w1)
    have H2 := Lib.hid (fun w1 h => number_c t (by omega) w1 h)
    have H3 := Lib.hid (fun w1 h => parse_c t (by omega) w1 h)
    have H4 := Lib.hid (fun w1 => rcolumn_c t w1)
    have H5 := Lib.hid (fun w1 => rnumber_c t w1)
    have H6 := Lib.hid (fun w1 => rparse_c t w1)
    go_enter Tryd.func4, Tryd.ntmps4
    go_wp2_with fail
    refine (H1.out _).mono ?_
    rintro e w1 ⟨c, b, rfl, hc, hb1⟩
    go_wp2_with fail
    refine (H2.out _ (HL.out.grown hb1)).mono ?_
    rintro e w2 ⟨n, b2, rfl, hn, hb2⟩
    replace hb1 := on hb1 hb2
    clear hb2
    go_wp2_with fail
    refine (H3.out _ (HL.out.grown hb1)).mono ?_
    rintro e w3 ⟨r, s, b3, rfl, hx, hb3⟩
    replace hb1 := on_alloc (on hb1 hb3) (.cells #[.int .i64 r, .int .i64 s] 23)
    have hz := CellsAt.new w3 [.int .i64 r, .int .i64 s] 23
    clear hb3
    go_wp2_with fail
    refine (H4.out _).mono ?_
    rintro e w4 ⟨c', b', rfl, hc', hb4⟩
    obtain ⟨rfl, rfl⟩ := hc'.unique hc
    replace hb1 := on hb1 hb4
    replace hz := hz.on hb4
    clear hb4 hc hc'
    go_wp2_with fail
    refine (H5.out _).mono ?_
    rintro e w5 ⟨n', b2', rfl, hn', hb5⟩
    obtain ⟨rfl, rfl⟩ := hn'.unique hn
    replace hb1 := on hb1 hb5
    replace hz := hz.on hb5
    clear hb5 hn hn'
    go_wp2_with fail
    refine (H6.out _).mono ?_
    rintro e w6 ⟨r', s', b3', rfl, hx', hb6⟩
    obtain ⟨rfl, rfl, rfl⟩ := hx'.unique hx
    replace hb1 := on hb1 hb6
    replace hz := hz.on hb6
    clear hb6 hx hx'
    obtain ⟨c0, c1, _, _⟩ := (((hz.on_alloc (.cells #[.int .i64 c', .bool b'] 34)).on_alloc (.cells #[.int .i64 n', .bool b2'] 34)).on_alloc (.cells #[.int .i64 r', .int .i64 s', .bool b3'] 37)).two
    replace hb1 := on_alloc (on_alloc (on_alloc hb1 (.cells #[.int .i64 c', .bool b'] 34)) (.cells #[.int .i64 n', .bool b2'] 34)) (.cells #[.int .i64 r', .int .i64 s', .bool b3'] 37)
    clear hz
    go_wp2_with fail
    refine (HA.out _ (HL.out.grown hb1)).mono ?_
    rintro e w7 ⟨rfl, hb7⟩
    replace hb1 := on hb1 hb7
    clear hb7
    go_wp2
    go_ret
    exact ⟨rfl, hb1⟩
end Go.Proofs.YtoomggpjdnbggaaDoor.Addr
