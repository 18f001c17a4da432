/- What the program's Read and Lead answer (over the landed text of package digits): for every text below 2^47 bytes. -/
import Derived.Test.YtmoednmgmmgjeaaDoorDigGo
import Derived.Lib.QuietBelow
namespace Go.Proofs.YtmoednmgmmgjeaaDoor.Dig
open Go.RowKit Kit Dec

/-- three results -/
def ThreeB (n : Int) (m : Nat) (b : Bool) (w : World) : Ending → World → Prop := fun e w' => e = .returned (.tuple #[.int .i64 n, .int .i64 m, .bool b]) ∧ Below w.heap.size w w'
set_option maxRecDepth 100000 in
set_option maxHeartbeats 2000000 in
theorem lead_c (t : ByteArray) (hl : t.size ≤ 281474976710656) (n : Int) (m : Nat) (k : Bool) (hn : leadD t.data.toList = (n, m, k)) (w : World) (hL : Libs w) : Calls Tryd.prog 10 #[.string t] w (ThreeB n m k w) := by
  have H1 : Hid (∀ w1, Calls Tryd.prog 19 #[.string t, .int .i64 30] w1 (Texts (wholeL 30 t.data.toList) (partR (restL 30 t.data.toList)) w1)) := Lib.hid (fun w1 => split_c t 30 (by omega) hl w1)
  have HL := Lib.hid hL
  have HN := Lib.hid hn
  clear hL hn
  go_enter Tryd.func10, Tryd.ntmps10
  go_wp2_with fail
  refine (H1.out _).mono ?_
  rintro e w1 ⟨a, b, rfl, ha, hb, rfl⟩
  have hal : a.size ≤ 30 := by rw [← len, ha]; exact wholeL_len _ _
  have hbl : b.size ≤ 4 := by rw [← len, hb]; exact partR_len _
  obtain ⟨⟨x, j⟩, hx⟩ : ∃ r, meantD false a.data.toList b.data.toList = r := ⟨_, rfl⟩
  obtain ⟨s, hs⟩ : ∃ s, sizeL a.data.toList b.data.toList = s := ⟨_, rfl⟩
  have H2 := Lib.hid (fun w1 => dsize_c a b (by omega) (by omega) s hs w1)
  have H3 := Lib.hid (fun w1 hL => meant_c false ⟨#[]⟩ a b rfl (by rw [ha]; exact wholeL_all _ _) (by rw [hb]; exact partR_all _) (by omega) hbl x j hx w1 hL)
  have hr := HN.out
  unfold leadD at hr
  rw [← ha, ← hb, hs, hx] at hr
  clear hs hx HN H1 ha hb
  cases j
  · obtain ⟨rfl, h2⟩ := Prod.mk.inj hr
    obtain ⟨rfl, rfl⟩ := Prod.mk.inj h2
    clear hr h2
    go_wp2_with fail
    refine (H3.out _ HL.out).mono ?_
    rintro e w2 ⟨rfl, hb2⟩
    go_wp2
    go_ret3
    exact ⟨rfl, hb2⟩
  · obtain ⟨rfl, h2⟩ := Prod.mk.inj hr
    obtain ⟨rfl, rfl⟩ := Prod.mk.inj h2
    clear hr h2
    go_wp2_with fail
    refine (H3.out _ HL.out).mono ?_
    rintro e w2 ⟨rfl, hb2⟩
    go_wp2_with (go_at_call 21; refine (H2.out _).mono ?_; rintro e w' ⟨rfl, rfl⟩)
    go_ret3
    exact ⟨rfl, hb2⟩
end Go.Proofs.YtmoednmgmmgjeaaDoor.Dig
