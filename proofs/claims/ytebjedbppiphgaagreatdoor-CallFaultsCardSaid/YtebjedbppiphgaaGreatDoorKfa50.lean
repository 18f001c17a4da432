/- CallFaults, put together. -/
import Derived.Test.YtebjedbppiphgaaGreatDoorKfa49
namespace Go.Proofs.YtebjedbppiphgaaGreatDoor.Cal
open Go.RowKit Kit Reg Dec Dig Val Fld
open Crt (CLibs)
theorem faults_c (op fn ak an : Int) (at_ : ByteArray) (bk bn : Int) (bt : ByteArray) (fa1 : -9223372036854775808 ≤ an) (fa2 : an ≤ 9223372036854775807) (fb1 : -9223372036854775808 ≤ bn) (fb2 : bn ≤ 9223372036854775807) (w : World) (hL : CLibs w) :
    Calls Tryz.prog 5 #[.agg #[.int .i64 op, .int .i64 fn], .agg #[.int .i64 ak, .int .i64 an, .string at_], .agg #[.int .i64 bk, .int .i64 bn, .string bt]] w fun e w' => e = .returned (.bool true) ∧ Below w.heap.size w w' := by
  cases h : mayV ak an at_
  · exact faults_1 op fn ak an at_ bk bn bt w h hL
  cases h2 : mayV bk bn bt
  · exact faults_2 op fn ak an at_ bk bn bt w h h2 hL
  by_cases ho1 : op < 1
  · exact faults_3 op fn ak an at_ bk bn bt w h h2 ho1 hL
  by_cases ho : 12 < op
  · exact faults_4 op fn ak an at_ bk bn bt w h h2 ho1 ho hL
  have oa : Ok ⟨ak, an, at_⟩ := ⟨h, fa1, fa2⟩
  have ob : Ok ⟨bk, bn, bt⟩ := ⟨h2, fb1, fb2⟩
  have HV : ∀ (w1 : World), CLibs w1 → Calls Tryz.prog 9 #[.int .i64 op, .agg #[.int .i64 ak, .int .i64 an, .string at_], .agg #[.int .i64 bk, .int .i64 bn, .string bt]] w1 (IsV (binV op ⟨ak, an, at_⟩ ⟨bk, bn, bt⟩) w1) := fun w1 hL1 => bin_c op ⟨ak, an, at_⟩ ⟨bk, bn, bt⟩ oa ob w1 hL1.1
  by_cases h4 : ak = 4
  · obtain ⟨n, e, hn⟩ := fault_is oa h4
    have e1 : ak = 4 := congrArg Vl.k e
    have e2 : an = n := congrArg Vl.n e
    have e3 : at_ = ⟨#[]⟩ := congrArg Vl.t e
    subst e1 e2 e3
    rw [show (⟨4, an, ⟨#[]⟩⟩ : Vl) = fV an from rfl, bin_f1 ho1 ho] at HV
    cases hf : Fnm.fitsF fn 1
    · exact faults_8 op fn an bk bn bt w h h2 ho1 ho hf HV hL
    by_cases hx : fn = 13 ∨ fn = 14 ∨ fn = 15
    · exact faults_9 op fn an bk bn bt w h h2 ho1 ho hf hx HV hL
    have x13 : ¬ fn = 13 := fun e => hx (.inl e)
    have x14 : ¬ fn = 14 := fun e => hx (.inr (.inl e))
    have x15 : ¬ fn = 15 := fun e => hx (.inr (.inr e))
    by_cases hr : 29 ≤ fn ∧ fn ≤ 33
    · exact faults_10 op fn an bk bn bt w h h2 ho1 ho hf x13 x14 x15 hr HV hL
    have hno : ¬ (fn = 13 ∨ fn = 14 ∨ fn = 15 ∨ (29 ≤ fn ∧ fn ≤ 33)) := by omega
    by_cases k1 : kdF fn 0 = 118
    · have HC := fun (A : Option Addr) (b : Nat) (w1 : World) hz (hL1 : CLibs w1) => call_fault hf hno (.inl k1) an hn A b w1 hz hL1.1
      by_cases hlo : fn < 29
      · exact faults_12a118 op fn an bk bn bt w h h2 ho1 ho hf x13 x14 x15 hlo k1 hn HC HV hL
      · exact faults_12b118 op fn an bk bn bt w h h2 ho1 ho hf x13 x14 x15 (by omega) k1 hn HC HV hL
    by_cases k2 : kdF fn 0 = 108
    · have HC := fun (A : Option Addr) (b : Nat) (w1 : World) hz (hL1 : CLibs w1) => call_fault hf hno (.inr k2) an hn A b w1 hz hL1.1
      by_cases hlo : fn < 29
      · exact faults_12a108 op fn an bk bn bt w h h2 ho1 ho hf x13 x14 x15 hlo k2 hn HC HV hL
      · exact faults_12b108 op fn an bk bn bt w h h2 ho1 ho hf x13 x14 x15 (by omega) k2 hn HC HV hL
    by_cases hlo : fn < 29
    · exact faults_11a op fn an bk bn bt w h h2 ho1 ho hf x13 x14 x15 hlo k1 k2 HV hL
    · exact faults_11b op fn an bk bn bt w h h2 ho1 ho hf x13 x14 x15 (by omega) k1 k2 HV hL
  by_cases g4 : bk = 4
  · obtain ⟨n, e, hn⟩ := fault_is ob g4
    have e1 : bk = 4 := congrArg Vl.k e
    have e2 : bn = n := congrArg Vl.n e
    have e3 : bt = ⟨#[]⟩ := congrArg Vl.t e
    subst e1 e2 e3
    rcases bin_f2 ho1 ho oa h4 bn with e | ⟨m, e, hm⟩
    · rw [show (⟨4, bn, ⟨#[]⟩⟩ : Vl) = fV bn from rfl, e] at HV
      exact faults_6 op fn ak an at_ bn ⟨#[]⟩ w h h2 ho1 ho h4 HV hL
    · rw [show (⟨4, bn, ⟨#[]⟩⟩ : Vl) = fV bn from rfl, e] at HV
      by_cases hmn : m = bn
      · subst hmn
        exact faults_6 op fn ak an at_ m ⟨#[]⟩ w h h2 ho1 ho h4 HV hL
      · exact faults_7 op fn ak an at_ bn m m ⟨#[]⟩ w h h2 ho1 ho h4 hmn (fun w1 hL1 => by have hh := num_c ⟨ak, an, at_⟩ oa w1 hL1.1; rw [hm] at hh; exact hh) HV hL
  · exact faults_5 op fn ak an at_ bk bn bt _ _ _ w h h2 ho1 ho h4 g4 HV hL
end Go.Proofs.YtebjedbppiphgaaGreatDoor.Cal
