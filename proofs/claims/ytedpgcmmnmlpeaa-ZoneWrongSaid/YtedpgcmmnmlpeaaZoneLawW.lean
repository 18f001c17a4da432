/- ZoneWrong: the law returns true for every list of zones and every grid, and makes new memory alone. -/
import Derived.Test.YtedpgcmmnmlpeaaZoneAlive
namespace Go.Proofs.Ytedpgcmmnmlpeaa.Zone
open Go.RowKit Kit Reg Go.Proofs.Ytedpgcmmnmlpeaa.Span Go.Proofs.Ytedpgcmmnmlpeaa.Lab
open Go.Proofs.Ytedpgcmmnmlpeaa.Cats (U U_or U_zero)

set_option maxRecDepth 100000 in
set_option maxHeartbeats 2000000 in
theorem wrong_law (A : Option Addr) (n cap : Nat) (zs : List Zn) (rows cols : Int) (w : World) (hz : n ≤ 60 → ZonesR w A n zs) :
    Calls Try.prog 5 #[.slice A n cap, .int .i64 rows, .int .i64 cols] w fun e w' => e = .returned (.bool true) ∧ Below w.heap.size w w' := by
  have HA := Lib.hid alive_c
  by_cases hn : 60 < n
  · have hd : decide (60 < (n : Int)) = true := by simp; omega
    clear hz
    go_enter Try.func5, Try.ntmps5
    go_wp2_with fail
    refine (HA.out _).mono ?_
    rintro e w1 ⟨rfl, hb1⟩
    go_wp2
    go_ret
    exact ⟨rfl, hb1⟩
  · have hd : decide (60 < (n : Int)) = false := by simp; omega
    have HZ := Lib.hid (hz (by omega))
    obtain ⟨p, e, hpe⟩ : ∃ p e, wrongF 0 zs rows cols = (p, e) := ⟨_, _, rfl⟩
    have H1 := Lib.hid (fun w1 h => wrong_c A n cap zs rows cols p e hpe w1 h)
    have H2 := Lib.hid (fun w1 h => rwrong_c A n cap zs rows cols p e hpe w1 h)
    have hp : (p == p) = true := by simp
    have he : (e == e) = true := by simp
    clear hz hpe
    go_enter Try.func5, Try.ntmps5
    go_wp2_with fail
    refine (H1.out _ HZ.out).mono ?_
    rintro e' w1 ⟨rfl, hb0⟩
    have HZ2 := Lib.hid (HZ.out.on hb0)
    go_wp2_with fail
    refine (H2.out _ HZ2.out).mono ?_
    rintro e' w2 ⟨rfl, hb2⟩
    replace hb0 := on_alloc (on hb0 hb2) (.cells #[.int .i64 p, .int .i64 e] 47)
    clear hb2
    go_wp2_with fail
    refine (HA.out _).mono ?_
    rintro e' w3 ⟨rfl, hb3⟩
    replace hb0 := on hb0 hb3
    clear hb3
    go_wp2
    go_ret
    exact ⟨rfl, hb0⟩
end Go.Proofs.Ytedpgcmmnmlpeaa.Zone
