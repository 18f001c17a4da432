/- That the statements' own check of life answers yes: in every world. -/
import Derived.Test.YtdnnnkeadgcknaaDoorCatsTextGo
namespace Go.Proofs.YtdnnnkeadgcknaaDoor.Cats
open Go.RowKit

theorem ints_two (w : World) (a b : Int) : Ints (w.alloc (.cells #[.int .i64 a, .int .i64 b] 3)) (some ⟨w.heap.size, 0, none⟩) 2 [a, b] := by
  refine ⟨rfl, by unfold maxLen; omega, fun _ => ⟨w.heap.size, 0, rfl, by simp, fun k hk => ?_⟩⟩
  rw [World.cell?_alloc_at _ _ _ _ rfl]
  match k, hk with
  | 0, _ => rfl
  | 1, _ => rfl
/-- the set of 5 and 63 -/
def TwoIs (N : Nat) : Prop := N = 9223372036854775840
theorem TwoIs.set {N : Nat} (h : TwoIs N) : SetIs [5, 63] N true := by subst h; unfold SetIs; decide +kernel
theorem TwoIs.parse {N : Nat} (h : TwoIs N) : parseF [53, 44, 54, 51] = (N, true) := by subst h; decide +kernel
theorem TwoIs.text {N : Nat} (h : TwoIs N) : textL N = [53, 44, 54, 51] := (text_parse h.parse).1
theorem TwoIs.U {N : Nat} (h : TwoIs N) : U N := (text_parse h.parse).2
theorem TwoIs.pop {N : Nat} (h : TwoIs N) : pop N = 2 := by subst h; decide +kernel
theorem TwoIs.has {N : Nat} (h : TwoIs N) : hasB N 63 = true ∧ hasB N 6 = false := by subst h; decide +kernel
theorem TwoIs.eq {N : Nat} (h : TwoIs N) : ((N : Int) == 9223372036854775840) = true := by subst h; decide +kernel
theorem TwoIs.mk : ∃ N, TwoIs N := ⟨_, rfl⟩

set_option maxHeartbeats 1000000 in
theorem alive_c (w : World) : Calls Tryd.prog 15 #[] w fun e w' => e = .returned (.bool true) ∧ Below w.heap.size w w' := by
  obtain ⟨N, hN⟩ := TwoIs.mk
  have heq := hN.eq
  have hself : ((N : Int) == (N : Int)) = true := by simp
  have HOf := Lib.hid (fun w1 h => of_c (some ⟨w.heap.size, 0, none⟩) 2 2 [5, 63] N true w1 h hN.set)
  have HParse := Lib.hid (fun w1 => parse_c ⟨#[53, 44, 54, 51]⟩ (by decide) w1)
  have HText := Lib.hid (fun w1 => text_c N hN.U w1)
  have HT := Lib.hid hN.text
  have HCount := Lib.hid (fun w1 => count_c N hN.U w1)
  have HP := Lib.hid hN.pop
  have HHas := Lib.hid (fun w1 => has_c N 63 true hN.U hN.has.1 w1)
  have HHas2 := Lib.hid (fun w1 => has_c N 6 false hN.U hN.has.2 w1)
  go_enter Tryd.func15, Tryd.ntmps15
  go_wp2_with fail
  refine (HOf.out _ (ints_two w 5 63)).mono ?_
  rintro e w1 ⟨rfl, rfl⟩
  go_wp2_with fail
  refine (HParse.out _).mono ?_
  rintro e w2 hp
  obtain ⟨rfl, hw⟩ : e = .returned (.tuple #[.int .u64 N, .bool true]) ∧ Drawn (w.alloc (.cells #[.int .i64 5, .int .i64 63] 3)) w2 := by
    obtain ⟨h1, h2⟩ := hp
    rw [show parseF (ByteArray.mk #[53, 44, 54, 51]).data.toList = (N, true) from hN.parse] at h1
    exact ⟨h1, h2⟩
  have hb2 : Below w.heap.size w w2 := ((Below.refl _ _).alloc (Nat.le_refl _) _).trans (hw.below.mono (by simp))
  clear hp hw
  go_wp2_with fail
  refine (HText.out _).mono ?_
  rintro e w3 ⟨rfl, hb3⟩
  rw [HT.out]
  have hb4 := hb2.trans (hb3.mono hb2.size)
  clear hb2 hb3
  go_wp2_with fail
  refine (HCount.out _).mono ?_
  rintro e w4 ⟨rfl, rfl⟩
  rw [HP.out]
  go_wp2_with fail
  refine (HHas.out _).mono ?_
  rintro e w5 ⟨rfl, rfl⟩
  go_wp2_with fail
  refine (HHas2.out _).mono ?_
  rintro e w6 ⟨rfl, rfl⟩
  go_wp2
  go_ret
  exact ⟨rfl, hb4⟩
end Go.Proofs.YtdnnnkeadgcknaaDoor.Cats
