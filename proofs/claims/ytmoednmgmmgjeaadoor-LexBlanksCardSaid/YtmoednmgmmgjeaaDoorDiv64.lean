/- What math/bits.Div64 answers where the quotient has 64 bits: two digits of 32 bits, each estimated and mended. -/
import Derived.Test.YtmoednmgmmgjeaaDoorDivMath
import Derived.Test.YtmoednmgmmgjeaaDoorShelf
import Derived.Deep.CutBlock
import Derived.Deep.DeepCutAuto
namespace Go.Proofs.YtmoednmgmmgjeaaDoor.Dec
open Go.RowKit Kit
/-- the world has drawn some orders, and is else as it was -/
def Drawn (w wr : World) : Prop := ∃ q, wr = w.drewN q
theorem Drawn.refl (w : World) : Drawn w w := ⟨0, rfl⟩
theorem mask32 (a : Nat) (ha : a < 18446744073709551616) : bits .and .u64 (a : Int) 4294967295 = ((a % 4294967296 : Nat) : Int) := Mul64.maskN a ha
theorem wrapU {a : Nat} (ha : a < 18446744073709551616) : IntKind.u64.wrap (a : Int) = (a : Int) := Mul64.wrapN a ha
/-- what stands in the lower s bits is joined -/
theorem joined (a b s : Nat) (hs : s ≤ 64) (h : a * 2 ^ s < 18446744073709551616) (hb : b < 2 ^ s) : bits .or .u64 ((a * 2 ^ s : Nat) : Int) (b : Int) = ((a * 2 ^ s + b : Nat) : Int) := by
  have hp : 2 ^ s ≤ 18446744073709551616 := Nat.pow_le_pow_right (n := 2) (by omega) hs
  rw [bits_or_u64_nat _ _ h (Nat.lt_of_lt_of_le hb hp), ← Nat.shiftLeft_eq, Nat.shiftLeft_add_eq_or_of_lt hb]
/-- the words of an estimate -/
theorem est_words {u y1 y0 d : Nat} (hu : u < y1 * 4294967296 + y0) (h0 : y0 < 4294967296) (h1 : 2147483648 ≤ y1) (h2 : y1 < 4294967296) (hd : d < 4294967296) :
    ∃ q r : Nat, Est u y1 y0 d q r ∧ r < 4294967296 ∧ IntKind.u64.wrap ((u : Int) / (y1 : Int)) = (q : Int) ∧ IntKind.u64.wrap ((u : Int) - IntKind.u64.wrap ((q : Int) * (y1 : Int))) = (r : Int) := by
  have hS := Est.start hu h0 h1 hd
  have hr : u % y1 < y1 := Nat.mod_lt u (by omega)
  have e : (u : Int) / (y1 : Int) = ((u / y1 : Nat) : Int) := by rw [Int.natCast_ediv]
  generalize u / y1 = q at *
  generalize u % y1 = r at *
  obtain ⟨s1, s2, s3⟩ := hS
  refine ⟨q, r, ⟨s1, s2, s3⟩, by omega, by rw [e]; exact wrapU (by omega), ?_⟩
  rw [← Int.natCast_mul]
  generalize q * y1 = m at *
  rw [wrapU (by omega), show (u : Int) - (m : Int) = (r : Int) by omega]
  exact wrapU (by omega)
theorem off_words {u d q y r : Nat} (h : u * 4294967296 + d = q * y + r) (hr : r < 18446744073709551616) :
    IntKind.u64.wrap (IntKind.u64.wrap (IntKind.u64.wrap ((u : Int) * 4294967296) + (d : Int)) - IntKind.u64.wrap ((q : Int) * (y : Int))) = (r : Int) := by
  rw [IntKind.wrap_u64, IntKind.wrap_u64, IntKind.wrap_u64, IntKind.wrap_u64]
  exact take_off h hr
/-- how the loop's test stands, a number too great by one or more -/
theorem Est.test {u y1 y0 Y d Q k m : Nat} (h : Est u y1 y0 d k m) (hY : y1 * 4294967296 + y0 = Y) (h1 : 2147483648 ≤ y1) (hQ : (u * 4294967296 + d) / Y = Q) :
    Q ≤ k ∧ k ≤ 4294967297 ∧ (Q < k ↔ m * 4294967296 + d < k * y0) := by
  subst hY hQ
  exact ⟨h.ge, h.le, est_cond (by omega) h.sum⟩
theorem Est.less {u y1 y0 Y d Q k m : Nat} (h : Est u y1 y0 d (k + 1) m) (hY : y1 * 4294967296 + y0 = Y) (h1 : 2147483648 ≤ y1) (h0 : y0 < 4294967296) (hQ : (u * 4294967296 + d) / Y = Q) (hlt : Q < k + 1) :
    Est u y1 y0 d k (m + y1) ∧ (4294967296 ≤ m + y1 → k = Q) := by
  subst hY hQ
  have hn := h.next hlt
  refine ⟨hn, fun hg => ?_⟩
  have h2 := est_stop (d := d) (by omega) hn.sum h0 (by have := h.le; simp only [Nat.add_sub_cancel]; omega) hg
  simp only [Nat.add_sub_cancel] at h2
  omega
/-- two digits, together -/
theorem two_digits {hi lo y s U X Y x1 x0 : Nat} (hp : 0 < 2 ^ s) (hY : y * 2 ^ s = Y) (hm : U * 18446744073709551616 + X = (hi * 18446744073709551616 + lo) * 2 ^ s) (hX : x1 * 4294967296 + x0 = X) :
    (U * 4294967296 + x1) / Y * 4294967296 + ((U * 4294967296 + x1) % Y * 4294967296 + x0) / Y = (hi * 18446744073709551616 + lo) / y ∧
    ((U * 4294967296 + x1) % Y * 4294967296 + x0) % Y / 2 ^ s = (hi * 18446744073709551616 + lo) % y := by
  obtain ⟨d1, d2⟩ := @digit (U * 4294967296 + x1) Y x0
  have e : (U * 4294967296 + x1) * 4294967296 + x0 = U * 18446744073709551616 + X := by clear hm hY d1 d2; subst hX; omega
  rw [← d1, ← d2, e, hm, ← hY, Nat.mul_div_mul_right _ _ hp, Nat.mul_mod_mul_right, Nat.mul_div_cancel _ hp]
  exact ⟨rfl, rfl⟩

end Go.Proofs.YtmoednmgmmgjeaaDoor.Dec
