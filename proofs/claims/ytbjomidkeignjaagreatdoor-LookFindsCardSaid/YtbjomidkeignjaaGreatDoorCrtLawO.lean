/- What the statement CritOf answers: yes, for every value. -/
import Derived.Test.YtbjomidkeignjaaGreatDoorCrtAlive
import Derived.Test.YtbjomidkeignjaaGreatDoorG9
namespace Go.Proofs.YtbjomidkeignjaaGreatDoor.Crt
open Go.RowKit Kit Reg Dec Dig Val

theorem trims_stars : TrimsStars := fun s w hs => Tryz.strings_Trim_one s 42 (by decide) w (by omega)
/-- what Of answers at any value that may be and is no fault -/
theorem of_any (k n : Int) (t : ByteArray) (h : mayV k n t = true) (h4 : ¬ k = 4) : ∃ op k2 n2 t2, 7 ≤ op ∧ op ≤ 12 ∧ mayV k2 n2 t2 = true ∧ (k2 = 1 ∨ k2 = 2 ∨ k2 = 3) ∧
    (∀ w1, CLibs w1 → Calls Tryz.prog 64 #[.agg #[.int .i64 k, .int .i64 n, .string t]] w1 (CritIs op k2 n2 t2 true w1)) ∧
    (∀ w1, Calls Tryz.prog 67 #[.agg #[.int .i64 k, .int .i64 n, .string t]] w1 (RCritIs op k2 n2 t2 w1)) := by
  have h0 := h
  rcases may_ways h with ⟨rfl, rfl, rfl⟩ | ⟨rfl, rfl, _⟩ | ⟨rfl, rfl, ht⟩ | ⟨rfl, rfl, _⟩ | ⟨rfl, rfl⟩
  · exact ⟨7, 2, 0, ⟨#[]⟩, by decide, by decide, by decide +kernel, .inr (.inl rfl), fun w1 _ => of_e 0 _ w1, fun w1 => rof_e w1⟩
  · exact ⟨7, 1, n, ⟨#[]⟩, by decide, by decide, h0, .inl rfl, fun w1 _ => of_n n _ w1, fun w1 => rof_n n _ w1⟩
  · obtain ⟨⟨op, m⟩, hs⟩ : ∃ r, splitL t.data.toList = r := ⟨_, rfl⟩
    obtain ⟨⟨k2, n2, t2⟩, hm⟩ : ∃ r, meantV (t.extract m t.size) = r := ⟨_, rfl⟩
    have ho := split_op t.data.toList
    rw [hs] at ho
    have hu : (t.extract m t.size).size ≤ 256 := by rw [ByteArray.size_extract]; omega
    obtain ⟨q1, q2⟩ := meant_may hu hm
    exact ⟨op, k2, n2, t2, ho.1, ho.2, q1, q2, fun w1 hw => of_words t ht op m hs k2 n2 t2 hm w1 hw, fun w1 => rof_text t ht op m hs k2 n2 t2 hm w1⟩
  · exact ⟨7, 3, n, ⟨#[]⟩, by decide, by decide, h0, .inr (.inr rfl), fun w1 _ => of_b n _ w1, fun w1 => rof_b n _ w1⟩
  · exact absurd rfl h4
end Go.Proofs.YtbjomidkeignjaaGreatDoor.Crt
