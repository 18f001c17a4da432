/- ZoneBehind: the law returns true for every list of zones, every zone and every cell, and makes new memory alone. -/
import Derived.Test.YtedpgcmmnmlpeaaZoneApp
namespace Go.Proofs.Ytedpgcmmnmlpeaa.Zone
open Go.RowKit Kit Reg Go.Proofs.Ytedpgcmmnmlpeaa.Span Go.Proofs.Ytedpgcmmnmlpeaa.Lab
open Go.Proofs.Ytedpgcmmnmlpeaa.Cats (U U_or U_zero)

/-- what stands in memory behind the appends -/
def St (w : World) (A A2 A4 : Option Addr) (n : Nat) (zs : List Zn) (z : Zn) (x y : Int) (V : World) : Prop :=
  ZonesR V A n zs ∧ ZonesR V A2 (1 + n) (z :: zs) ∧ ZonesR V A4 (n + 1) (zs ++ [z]) ∧ CellsAt V w.heap.size [.int .i64 z.a, .int .i64 z.b, .int .i64 z.c, .int .i64 z.d, .int .i64 z.l, .int .u64 z.s] ∧ CellsAt V (w.heap.size + 1) [.int .i64 x, .int .i64 y] ∧ Below w.heap.size w V
theorem St.on {w : World} {A A2 A4 : Option Addr} {n : Nat} {zs : List Zn} {z : Zn} {x y : Int} {V V' : World} (h : St w A A2 A4 n zs z x y V) (hb : Below V.heap.size V V') : St w A A2 A4 n zs z x y V' :=
  ⟨h.1.on hb, h.2.1.on hb, h.2.2.1.on hb, h.2.2.2.1.on hb, h.2.2.2.2.1.on hb, Kit.on h.2.2.2.2.2 hb⟩
set_option maxRecDepth 100000 in
set_option maxHeartbeats 8000000 in
theorem behind_big (A : Option Addr) (n cap : Nat) (z : Zn) (x y : Int) (w : World) (hn : 60 < n) :
    Calls Try.prog 4 #[.slice A n cap, .agg #[.int .i64 z.a, .int .i64 z.b, .int .i64 z.c, .int .i64 z.d, .int .i64 z.l, .int .u64 z.s], .agg #[.int .i64 x, .int .i64 y]] w fun e w' => e = .returned (.bool true) ∧ Below w.heap.size w w' := by
  have HA := Lib.hid alive_c
  have hb0 := below2 w (.cells #[.int .i64 z.a, .int .i64 z.b, .int .i64 z.c, .int .i64 z.d, .int .i64 z.l, .int .u64 z.s] 41) (.cells #[.int .i64 x, .int .i64 y] 24)
  have hd : decide (60 < (n : Int)) = true := by simp; omega
  go_enter Try.func4, Try.ntmps4
  go_wp2_with fail
  refine (HA.out _).mono ?_
  rintro e w1 ⟨rfl, hb1⟩
  replace hb0 := on hb0 hb1
  go_wp2
  go_ret
  exact ⟨rfl, hb0⟩
end Go.Proofs.Ytedpgcmmnmlpeaa.Zone
