/- What the program's Of answers: the container of any cell, for any slice that reads as zones. -/
import Derived.Test.YtedpgcmmnmlpeaaZoneText
import Derived.Test.YtedpgcmmnmlpeaaLabLeafs
import Derived.Test.YtedpgcmmnmlpeaaSpanHas
namespace Go.Proofs.Ytedpgcmmnmlpeaa.Zone
open Go.RowKit Kit Reg Go.Proofs.Ytedpgcmmnmlpeaa.Span Go.Proofs.Ytedpgcmmnmlpeaa.Lab
open Go.Proofs.Ytedpgcmmnmlpeaa.Cats (U U_or U_zero)

set_option maxRecDepth 100000 in
set_option maxHeartbeats 2000000 in
theorem of_c (A : Option Addr) (n cap : Nat) (zs : List Zn) (x y l : Int) (s : Nat) (hc : contF zs x y = (l, s)) (w : World) (hz : ZonesR w A n zs) :
    Calls Try.prog 11 #[.slice A n cap, .agg #[.int .i64 x, .int .i64 y]] w fun e w' => e = .returned (.agg #[.int .i64 l, .int .u64 s]) ∧ Below w.heap.size w w' := by
  obtain ⟨hlen, hmax, _, _⟩ := id hz
  have HZ := Lib.hid hz
  have HL := Lib.hid hlen
  have HC := Lib.hid hc
  clear hz hlen hc
  have hb0 := below2 w (.cells #[.int .i64 x, .int .i64 y] 24) (.cells #[.int .i64 0, .int .u64 0] 30)
  have hx := (CellsAt.new w [.int .i64 x, .int .i64 y] 24).on_alloc (.cells #[.int .i64 0, .int .u64 0] 30)
  have hr := CellsAt.new (w.alloc (.cells #[.int .i64 x, .int .i64 y] 24)) [.int .i64 0, .int .u64 0] 30
  rw [show (w.alloc (.cells #[.int .i64 x, .int .i64 y] 24)).heap.size = w.heap.size + 1 by simp] at hr
  go_enter Try.func11, Try.ntmps11
  go_wp2
  go_loopw [9] (fun i wr => ∃ k : Nat, k ≤ n ∧ i = .int .i64 k ∧ Hid (contF (zs.drop k) x y = (l, s)) ∧ Below w.heap.size w wr ∧ CellsAt wr w.heap.size [.int .i64 x, .int .i64 y] ∧ CellsAt wr (w.heap.size + 1) [.int .i64 0, .int .u64 0]) (fun i _ => n - (intOf i).toNat)
  case atStart => exact ⟨0, Nat.zero_le _, rfl, HC, hb0, hx, hr⟩
  case round =>
    clear hb0 hx hr
    obtain ⟨k, hk, rfl, HK, hb0, hx, hr⟩ := hrel
    by_cases hlt : k < n
    · obtain ⟨z, hzk⟩ : ∃ z, zs[k]? = some z := ⟨_, List.getElem?_eq_getElem (by rw [HL.out]; exact hlt)⟩
      obtain ⟨_, _, _, h4⟩ := HZ.out.on hb0
      obtain ⟨b, o, rfl, hblt, hcell⟩ := h4 (by omega)
      obtain ⟨c0, c1, c2, c3, c4, c5⟩ := zone_six (hcell k z hzk)
      have HZk := Lib.hid hzk
      clear h4 hcell hzk
      cases hh : z.has x y with
      | false =>
        have HN : Hid (contF (zs.drop (k + 1)) x y = (l, s)) := by rw [← contF_miss HZk.out hh]; exact HK
        have HH := Lib.hid (fun w1 => has_c z.a z.b z.c z.d x y false hh w1)
        clear hh
        have hv := CellsAt.new wr z.cells 41
        have l0 := hx.1
        have l1 := hr.1
        obtain ⟨x0, x1, _⟩ := hx.two
        replace hb0 := on_alloc hb0 (.cells #[.int .i64 z.a, .int .i64 z.b, .int .i64 z.c, .int .i64 z.d, .int .i64 z.l, .int .u64 z.s] 41)
        replace hx := hx.on_alloc (.cells #[.int .i64 z.a, .int .i64 z.b, .int .i64 z.c, .int .i64 z.d, .int .i64 z.l, .int .u64 z.s] 41)
        replace hr := hr.on_alloc (.cells #[.int .i64 z.a, .int .i64 z.b, .int .i64 z.c, .int .i64 z.d, .int .i64 z.l, .int .u64 z.s] 41)
        go_wp2_with fail
        refine (HH.out _).mono ?_
        rintro e w1 ⟨rfl, hb1⟩
        replace hb0 := on hb0 hb1
        replace hx := hx.on hb1
        replace hr := hr.on hb1
        clear hb1 hv c0 c1 c2 c3 c4 c5 x0 x1
        go_wp2
        go_roundw
        case rel => exact ⟨k + 1, by omega, by go_num, HN, hb0, hx, hr⟩
        case measure => simp [intOf]; omega
      | true =>
        have HN : (z.l, z.s) = (l, s) := by rw [← contF_hit HZk.out hh]; exact HK.out
        simp only [Prod.mk.injEq] at HN
        obtain ⟨rfl, rfl⟩ := HN
        have HH := Lib.hid (fun w1 => has_c z.a z.b z.c z.d x y true hh w1)
        clear hh
        have hv := CellsAt.new wr z.cells 41
        have l0 := hx.1
        have l1 := hr.1
        obtain ⟨x0, x1, _⟩ := hx.two
        replace hb0 := on_alloc hb0 (.cells #[.int .i64 z.a, .int .i64 z.b, .int .i64 z.c, .int .i64 z.d, .int .i64 z.l, .int .u64 z.s] 41)
        replace hr := hr.on_alloc (.cells #[.int .i64 z.a, .int .i64 z.b, .int .i64 z.c, .int .i64 z.d, .int .i64 z.l, .int .u64 z.s] 41)
        go_wp2_with fail
        refine (HH.out _).mono ?_
        rintro e w1 ⟨rfl, hb1⟩
        replace hb0 := on hb0 hb1
        replace hr := hr.on hb1
        obtain ⟨_, _, _, _, v4, v5⟩ := six (hv.on hb1)
        clear hb1 hv c0 c1 c2 c3 c4 c5 x0 x1 hx
        obtain ⟨r0, r1, f0, f1⟩ := hr.two
        obtain ⟨e0, e1, _⟩ := (hr.put2 (.int .i64 z.l) (.int .u64 z.s)).two
        go_wp2
        exact bodyPost_ret (v := .agg #[.int .i64 z.l, .int .u64 z.s]) (by simp [results, Try.results11, go_sem, e0, e1]) rfl ⟨rfl, set2 hb0 (by omega) _ _⟩
    · obtain rfl : k = n := by omega
      have HE := HK.out
      rw [← HL.out, contF_end] at HE
      simp only [Prod.mk.injEq] at HE
      obtain ⟨rfl, rfl⟩ := HE
      clear hx
      have l1 := hr.1
      have HB := Lib.hid (fun w1 => bottom_c w1)
      go_wp2_with fail
      refine (HB.out _).mono ?_
      rintro e w1 ⟨rfl, hb1⟩
      replace hb0 := on hb0 hb1
      replace hr := hr.on hb1
      clear hb1
      obtain ⟨r0, r1, f0, f1⟩ := hr.two
      obtain ⟨e0, e1, _⟩ := (hr.put2 (.int .i64 0) (.int .u64 0)).two
      go_wp2
      exact bodyPost_ret (v := .agg #[.int .i64 0, .int .u64 0]) (by simp [results, Try.results11, go_sem, e0, e1]) rfl ⟨rfl, set2 hb0 (by omega) _ _⟩
end Go.Proofs.Ytedpgcmmnmlpeaa.Zone
