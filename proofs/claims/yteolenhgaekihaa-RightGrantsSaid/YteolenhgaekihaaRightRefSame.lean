/- Whether two rows of texts are the same: what the reference's Same answers of two that are. -/
import Derived.Test.YteolenhgaekihaaRightRows
import Derived.Deep.RegionWith
namespace Go.Proofs.Yteolenhgaekihaa.Right
open Go.RowKit Kit Reg Go.Proofs.Yteolenhgaekihaa.Lab
open Go.Proofs.Yteolenhgaekihaa.Cats (U U_or U_zero)

set_option maxRecDepth 100000 in
set_option maxHeartbeats 4000000 in
theorem rsame_c (v v' : Value) (ns : List ByteArray) (hn9 : ns.length ≤ 140737488355328) (w : World) (h1 : StrsR w v ns) (h2 : StrsR w v' ns) : Calls Try.prog 20 #[v, v'] w fun e w' => e = .returned (.bool true) ∧ Below w.heap.size w w' := by
  obtain ⟨A, cap, rfl, h1⟩ := h1
  obtain ⟨A', cap', rfl, h2⟩ := h2
  have K1 := Lib.hid h1
  have K2 := Lib.hid h2
  clear h1 h2
  obtain ⟨n, hn⟩ : ∃ n, ns.length = n := ⟨_, rfl⟩
  rw [hn] at hn9
  have HN := Lib.hid hn
  rw [hn]
  clear hn
  go_enter Try.func20, Try.ntmps20
  go_wp2
  go_loopw [5] (fun i wr => ∃ k : Nat, k ≤ n ∧ i = .int .i64 k ∧ Below w.heap.size w wr) (fun i _ => n - (intOf i).toNat)
  case atStart => exact ⟨0, Nat.zero_le _, rfl, Below.refl _ _⟩
  case round =>
    obtain ⟨k, hk, rfl, hb⟩ := hrel
    by_cases hlt : k < n
    · obtain ⟨c, hc⟩ : ∃ c, ns[k]? = some c := ⟨_, List.getElem?_eq_getElem (by rw [HN.out]; exact hlt)⟩
      have hne : ns ≠ [] := by intro e; have := HN.out; rw [e] at this; simp at this; omega
      obtain ⟨g, rfl, hg, hc1⟩ := K1.out.resolve_left hne
      obtain ⟨g', rfl, hg', hc2⟩ := K2.out.resolve_left hne
      have x0 := (hb.cell (p := ⟨g, k, none⟩) hg).trans (hc1 k c hc)
      have y0 := (hb.cell (p := ⟨g', k, none⟩) hg').trans (hc2 k c hc)
      have hcc := name_refl c
      clear hc1 hc2 hc
      go_wp2_with fail
      go_region
      all_goals go_wp2
      all_goals go_roundw
      case rel => exact ⟨k + 1, by omega, by go_num, hb.drew⟩
      case measure => simp [intOf]; omega
    · obtain rfl : k = n := by omega
      go_wp2
      go_ret
      exact ⟨rfl, hb⟩
end Go.Proofs.Yteolenhgaekihaa.Right
