/- ZoneBehind: the law returns true for every list of zones, every zone and every cell, and makes new memory alone. -/
import Derived.Test.YtedpgcmmnmlpeaaZoneLawB1
import Derived.Test.YtedpgcmmnmlpeaaZoneLawB2
import Derived.Test.YtedpgcmmnmlpeaaZoneLawB3
namespace Go.Proofs.Ytedpgcmmnmlpeaa.Zone
open Go.RowKit Kit Reg Go.Proofs.Ytedpgcmmnmlpeaa.Span Go.Proofs.Ytedpgcmmnmlpeaa.Lab
open Go.Proofs.Ytedpgcmmnmlpeaa.Cats (U U_or U_zero)

theorem behind_law (A : Option Addr) (n cap : Nat) (zs : List Zn) (z : Zn) (x y : Int) (hus : U z.s) (w : World) (hz : n ≤ 60 → ZonesR w A n zs) (hcap : A = none → cap = 0) :
    Calls Try.prog 4 #[.slice A n cap, .agg #[.int .i64 z.a, .int .i64 z.b, .int .i64 z.c, .int .i64 z.d, .int .i64 z.l, .int .u64 z.s], .agg #[.int .i64 x, .int .i64 y]] w fun e w' => e = .returned (.bool true) ∧ Below w.heap.size w w' := by
  by_cases hn : 60 < n
  · exact behind_big A n cap z x y w hn
  replace hz := hz (by omega)
  cases hcov : covF zs x y with
  | true => exact behind_cov A n cap zs z x y hus w hz hcap hn hcov
  | false =>
    cases hh : z.has x y with
    | false => exact behind_none A n cap zs z x y hus w hz hcap hn hcov hh
    | true =>
      cases hq : (z.l == 0) with
      | false => exact behind_has_l A n cap zs z x y hus w hz hcap hn hcov hh hq (by rw [hq]; rfl)
      | true =>
        cases hq1 : ((z.s : Int) == 0) with
        | false => exact behind_has_s A n cap zs z x y hus w hz hcap hn hcov hh hq hq1 (by rw [hq, hq1]; rfl)
        | true => exact behind_has_0 A n cap zs z x y hus w hz hcap hn hcov hh hq hq1 (by rw [hq, hq1]; rfl)
end Go.Proofs.Ytedpgcmmnmlpeaa.Zone
