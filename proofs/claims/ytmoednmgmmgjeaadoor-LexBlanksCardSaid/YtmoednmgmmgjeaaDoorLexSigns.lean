/- The signs: both sides' rows of them, in lists; what the reference's sign answers. -/
import Derived.Test.YtmoednmgmmgjeaaDoorLexRLeaf
import Derived.Test.YtmoednmgmmgjeaaDoorLexRows
import Derived.Lib.Strings
import Derived.Lib.QuietBelow
import Derived.BigQuiet
import Derived.Deep.QuietTactic
import Derived.StillTail
namespace Go.Proofs.YtmoednmgmmgjeaaDoor.Lex
open Go.RowKit Kit Reg Dec Dig

def ones1 : List (List UInt8) := ones.map fun b => [b]
def signsR : List (List UInt8) := [35, 82, 69, 70] :: (twos ++ ones1)
def signsP : List (List UInt8) := twos ++ ([35, 82, 69, 70] :: ones1)
/-- the first of these with which a text begins -/
def findS : List (List UInt8) → List UInt8 → List UInt8
  | [], _ => []
  | p :: S, l => if l.take p.length = p then p else findS S l
theorem findS_group {n : Nat} (S : List (List UInt8)) (l : List UInt8) : ∀ T : List (List UInt8), (∀ p ∈ T, p.length = n) → findS (T ++ S) l = if l.take n ∈ T then l.take n else findS S l
  | [], _ => by rw [if_neg (by simp)]; rfl
  | p :: T, h => by
    have hp := h p (List.mem_cons_self ..)
    have ih := findS_group S l T fun q hq => h q (List.mem_cons_of_mem _ hq)
    rw [List.cons_append, findS, hp, ih]
    by_cases h1 : l.take n = p
    · rw [if_pos h1, if_pos (by rw [h1]; exact List.mem_cons_self ..), h1]
    · rw [if_neg h1]
      by_cases h2 : l.take n ∈ T
      · rw [if_pos h2, if_pos (List.mem_cons_of_mem _ h2)]
      · rw [if_neg h2, if_neg (fun e => (List.mem_cons.1 e).elim h1 h2)]
theorem ones1_len : ∀ p ∈ ones1, p.length = 1 := fun p hp => by
  obtain ⟨b, _, rfl⟩ := List.mem_map.1 hp
  rfl
theorem ones1_iff (l : List UInt8) : l.take 1 ∈ ones1 ↔ oneB l = true := by
  cases l with
  | nil =>
    refine ⟨fun h => ?_, fun h => by cases h⟩
    have := ones1_len _ h
    simp at this
  | cons b r =>
    show [b] ∈ ones.map _ ↔ decide (b ∈ ones) = true
    rw [decide_eq_true_iff, List.mem_map]
    exact ⟨fun ⟨c, hc, e⟩ => by obtain rfl : c = b := by simpa using e
                                exact hc, fun h => ⟨b, h, rfl⟩⟩
theorem find_ones (l : List UInt8) : findS ones1 l = if oneB l = true then l.take 1 else [] := by
  have := findS_group (n := 1) [] l ones1 ones1_len
  rw [List.append_nil] at this
  rw [this]
  by_cases h : oneB l = true
  · rw [if_pos h, if_pos ((ones1_iff l).2 h)]
  · rw [if_neg h, if_neg (fun e => h ((ones1_iff l).1 e))]
    rfl
theorem findR (l : List UInt8) : findS signsR l = l.take (signN l) := by
  unfold signsR signN
  rw [findS]
  by_cases h : l.take 4 = [35, 82, 69, 70]
  · rw [if_pos h, if_pos (show l.take ([35, 82, 69, 70] : List UInt8).length = [35, 82, 69, 70] from h), h]
  rw [if_neg h, if_neg (show ¬ l.take ([35, 82, 69, 70] : List UInt8).length = [35, 82, 69, 70] from h), findS_group (n := 2) ones1 l twos (fun p hp => (two_len hp).1), find_ones]
  by_cases h2 : l.take 2 ∈ twos
  · rw [if_pos h2, if_pos h2]
  rw [if_neg h2, if_neg h2]
  by_cases h1 : oneB l = true
  · rw [if_pos h1, if_pos h1]
  · rw [if_neg h1, if_neg h1, List.take_zero]
theorem findP (l : List UInt8) : findS signsP l = l.take (signN l) := by
  rw [← findR]
  unfold signsP signsR
  rw [findS_group (n := 2) _ l twos (fun p hp => (two_len hp).1), findS, findS, findS_group (n := 2) ones1 l twos (fun p hp => (two_len hp).1)]
  by_cases h : l.take 4 = [35, 82, 69, 70]
  · rw [if_pos (show l.take ([35, 82, 69, 70] : List UInt8).length = [35, 82, 69, 70] from h), if_pos (show l.take ([35, 82, 69, 70] : List UInt8).length = [35, 82, 69, 70] from h), if_neg]
    intro h2
    have h3 := (two_len h2).2
    cases l with
    | nil => simp at h
    | cons b q =>
      have hb : b = 35 := by simp at h; exact h.1
      exact h3 (by rw [hb]; rfl)
  · rw [if_neg (show ¬ l.take ([35, 82, 69, 70] : List UInt8).length = [35, 82, 69, 70] from h), if_neg (show ¬ l.take ([35, 82, 69, 70] : List UInt8).length = [35, 82, 69, 70] from h)]
theorem find_hit : ∀ {S : List (List UInt8)} {l p : List UInt8} {k : Nat}, (∀ j q, j < k → S[j]? = some q → l.take q.length ≠ q) → S[k]? = some p → l.take p.length = p → findS S l = p
  | [], _, _, _, _, hk, _ => by simp at hk
  | q :: S, l, p, 0, _, hk, hp => by
    obtain rfl : q = p := by simpa using hk
    rw [findS, if_pos hp]
  | q :: S, l, p, k + 1, h, hk, hp => by
    rw [findS, if_neg (h 0 q (by omega) rfl)]
    exact find_hit (fun j u hj hu => h (j + 1) u (Nat.succ_lt_succ hj) (by simpa using hu)) (by simpa using hk) hp
theorem find_none : ∀ {S : List (List UInt8)} {l : List UInt8}, (∀ (j : Nat) (q : List UInt8), S[j]? = some q → l.take q.length ≠ q) → findS S l = []
  | [], _, _ => rfl
  | q :: S, l, h => by
    rw [findS, if_neg (h 0 q rfl)]
    exact find_none fun j u hu => h (j + 1) u (by simpa using hu)
theorem none_more {S : List (List UInt8)} {l p : List UInt8} {k : Nat} (h : ∀ j q, j < k → S[j]? = some q → l.take q.length ≠ q) (hk : S[k]? = some p) (hp : l.take p.length ≠ p) : ∀ j q, j < k + 1 → S[j]? = some q → l.take q.length ≠ q := fun j q hj hq => by
  rcases Nat.lt_or_ge j k with h1 | h1
  · exact h j q h1 hq
  · obtain rfl : j = k := by omega
    obtain rfl : p = q := Option.some.inj (hk.symm.trans hq)
    exact hp
theorem prefix_iff (l p : List UInt8) : Lib.hasPrefix l p = decide (l.take p.length = p) := by
  have h : Lib.hasPrefix l p = true ↔ l.take p.length = p := by
    unfold Lib.hasPrefix
    rw [List.isPrefixOf_iff_prefix, List.prefix_iff_eq_take]
    exact eq_comm
  by_cases h1 : l.take p.length = p
  · rw [decide_eq_true h1]; exact h.2 h1
  · rw [decide_eq_false h1]; exact Bool.eq_false_iff.2 fun e => h1 (h.1 e)
theorem sign_short : ∀ p ∈ signsR, p.length ≤ 4 := by decide +kernel
theorem lits_new (w : World) (L : List (List UInt8)) (ty : TypeId) :
    w.heap.size < (w.alloc (.cells (L.map fun x => Value.string ⟨x.toArray⟩).toArray ty)).heap.size ∧ ∀ k x, L[k]? = some x → (w.alloc (.cells (L.map fun x => Value.string ⟨x.toArray⟩).toArray ty)).cell? ⟨w.heap.size, k, none⟩ = some (.string ⟨x.toArray⟩) := by
  have h := CellsAt.new w (L.map fun x => Value.string ⟨x.toArray⟩) ty
  exact ⟨h.1, fun k x hx => (h.2 k _ (by rw [List.getElem?_map, hx]; rfl)).1⟩
end Go.Proofs.YtmoednmgmmgjeaaDoor.Lex
