/- The laws' same and moved, of tokens that are. Written by wip/gen21same.py. -/
import Derived.Test.YtmoednmgmmgjeaaDoorLexRows
import Derived.Lib.QuietBelow
import Derived.BigQuiet
import Derived.Deep.QuietTactic
import Derived.StillTail
namespace Go.Proofs.YtmoednmgmmgjeaaDoor.Lex
open Go.RowKit Kit Reg

theorem alike_at {T U : List Tok} (h : Alike T U) {k : Nat} {x u : Tok} (hx : T[k]? = some x) (hu : U[k]? = some u) : x.k = u.k ∧ x.t = u.t ∧ x.n = u.n := by
  have h1 := congrArg (·[k]?) h
  simp only [List.getElem?_map, hx, hu, Option.map_some, Option.some.injEq, Prod.mk.injEq] at h1
  exact h1
theorem alike_len {T U : List Tok} (h : Alike T U) : T.length = U.length := by
  have h1 := congrArg List.length h
  rwa [List.length_map, List.length_map] at h1

set_option maxRecDepth 100000 in
set_option maxHeartbeats 4000000 in
theorem moved_c (A B : Option Addr) (n cap cap2 : Nat) (T U : List Tok) (hn9 : n ≤ 1000) (hA : Alike T U) (w : World) (hz : ToksR w A n T) (hz2 : ToksR w B n U) : Calls Tryd.prog 6 #[.slice A n cap, .slice B n cap2] w fun e w' => e = .returned (.bool true) ∧ Below w.heap.size w w' := by
  have HZ := Lib.hid hz
  have HZ2 := Lib.hid hz2
  have HA := Lib.hid hA
  clear hz hz2 hA
  go_enter Tryd.func6, Tryd.ntmps6
  go_wp2_with fail
  go_loopw [14] (fun x wr => ∃ k : Nat, k ≤ n ∧ x = .int .i64 k ∧ Below w.heap.size w wr) (fun x _ => n - (intOf x).toNat)
  case atStart => exact ⟨0, Nat.zero_le _, rfl, Below.refl _ _⟩
  case round =>
    obtain ⟨k, hk, rfl, hb0⟩ := hrel
    by_cases hlt : k < n
    · obtain ⟨x, hx⟩ : ∃ x, T[k]? = some x := ⟨_, List.getElem?_eq_getElem (by rw [HZ.out.1]; exact hlt)⟩
      obtain ⟨u, hu⟩ : ∃ u, U[k]? = some u := ⟨_, List.getElem?_eq_getElem (by rw [HZ2.out.1]; exact hlt)⟩
      obtain ⟨q1, q2, q3⟩ := alike_at HA.out hx hu
      obtain ⟨b, o, rfl, hblt, y0, y1, y2, y3⟩ := (HZ.out.on hb0).at hx
      obtain ⟨c, q, rfl, hclt, z0, z1, z2, z3⟩ := (HZ2.out.on hb0).at hu
      rw [← q1] at z0
      rw [← q2] at z2
      rw [← q3] at z3
      have t1 : (x.k != x.k) = false := by simp
      have t3 : ((⟨x.t.toArray⟩ : ByteArray).toList == (⟨x.t.toArray⟩ : ByteArray).toList) = true := by simp
      have t4 : (x.n != x.n) = false := by simp
      have hy := CellsAt.new wr [.int .i64 x.k, .int .i64 (x.at' : Int), .string ⟨x.t.toArray⟩, .int .i64 x.n] 27
      have hb2 := on_alloc hb0 (.cells #[.int .i64 x.k, .int .i64 (x.at' : Int), .string ⟨x.t.toArray⟩, .int .i64 x.n] 27)
      have z0' := kept (below1 wr (.cells #[.int .i64 x.k, .int .i64 (x.at' : Int), .string ⟨x.t.toArray⟩, .int .i64 x.n] 27)) z0
      have z1' := kept (below1 wr (.cells #[.int .i64 x.k, .int .i64 (x.at' : Int), .string ⟨x.t.toArray⟩, .int .i64 x.n] 27)) z1
      have z2' := kept (below1 wr (.cells #[.int .i64 x.k, .int .i64 (x.at' : Int), .string ⟨x.t.toArray⟩, .int .i64 x.n] 27)) z2
      have z3' := kept (below1 wr (.cells #[.int .i64 x.k, .int .i64 (x.at' : Int), .string ⟨x.t.toArray⟩, .int .i64 x.n] 27)) z3
      clear hx hu q1 q2 q3 z0 z1 z2 z3 hb0
      go_wp2_with fail
      clear y0 y1 y2 y3
      obtain ⟨y0, y1, y2, y3, _⟩ := hy.four
      generalize wr.alloc (.cells #[.int .i64 x.k, .int .i64 (x.at' : Int), .string ⟨x.t.toArray⟩, .int .i64 x.n] 27) = W at *
      have X0 := fun d os => cell_regrown y0 d os
      have X1 := fun d os => cell_regrown y1 d os
      have X2 := fun d os => cell_regrown y2 d os
      have X3 := fun d os => cell_regrown y3 d os
      have Z0 := fun d os => cell_regrown z0' d os
      have Z1 := fun d os => cell_regrown z1' d os
      have Z2 := fun d os => cell_regrown z2' d os
      have Z3 := fun d os => cell_regrown z3' d os
      clear hy y0 y1 y2 y3 z0' z1' z2' z3'
      refine wp_region_quiet_below (by kernel_rfl) (by kernel_rfl) ?_
      repeat (go_big_quiet_step (first | fail))
      refine wpQuiet_nil ?_
      intro _ hw'
      obtain ⟨⟨dq, osq⟩, hw''⟩ := hw'
      subst hw''
      replace hb2 := hb2.trans ((below_regrown W dq osq).mono hb2.size)
      go_wp2
      go_roundw
      case rel => exact ⟨k + 1, by omega, by go_num, hb2⟩
      case measure => simp [intOf]; omega
    · obtain rfl : k = n := by omega
      go_wp2_with fail
      go_ret
      exact ⟨rfl, hb0⟩
end Go.Proofs.YtmoednmgmmgjeaaDoor.Lex
