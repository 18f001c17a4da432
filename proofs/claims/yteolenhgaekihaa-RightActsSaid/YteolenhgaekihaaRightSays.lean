/- What the program's functions on users and grants have to answer, as hypotheses of the laws' walks; and plain facts on that. -/
import Derived.Test.YteolenhgaekihaaRightRows
namespace Go.Proofs.Yteolenhgaekihaa.Right
open Go.RowKit Kit Reg Go.Proofs.Yteolenhgaekihaa.Lab
open Go.Proofs.Yteolenhgaekihaa.Cats (U U_or U_zero)

/-- up to where the first user of a name may act -/
def clearF : List Us → ByteArray → Int × Nat × Bool
  | [], _ => (0, 0, false)
  | u :: r, t => if (u.name.toList == t.toList) = true then (u.l, u.s, true) else clearF r t
theorem clear_find : ∀ (us : List Us) (t : ByteArray) (k : Nat), (findI us t k = -1 ∧ clearF us t = (0, 0, false)) ∨ ∃ i u, us[i]? = some u ∧ findI us t k = ((k + i : Nat) : Int) ∧ clearF us t = (u.l, u.s, true)
  | [], _, _ => .inl ⟨rfl, rfl⟩
  | u :: r, t, k => by
    unfold findI clearF
    by_cases h : (u.name.toList == t.toList) = true
    · rw [if_pos h, if_pos h]
      exact .inr ⟨0, u, rfl, by simp, rfl⟩
    · rw [if_neg h, if_neg h]
      rcases clear_find r t (k + 1) with ⟨h1, h2⟩ | ⟨i, v, h1, h2, h3⟩
      · exact .inl ⟨h1, h2⟩
      · exact .inr ⟨i + 1, v, by simpa using h1, by rw [h2]; congr 1; omega, h3⟩
def leaksB (gs : List Gr) (l : Int) (s : Nat) : Bool := gs.any fun g => g.leaks l s
theorem leaksB_len (gs : List Gr) (l : Int) (s : Nat) : leaksB gs l s = decide (0 < (leakyF gs l s).length) := by
  rw [Bool.eq_iff_iff, decide_eq_true_eq, List.length_pos_iff_exists_mem, leaksB, List.any_eq_true]
  exact ⟨fun ⟨g, h1, h2⟩ => ⟨g, List.mem_filter.2 ⟨h1, h2⟩⟩, fun ⟨g, h⟩ => ⟨g, (List.mem_filter.1 h).1, (List.mem_filter.1 h).2⟩⟩

def NameSays : Prop := ∀ (t : ByteArray) (w : World), Calls Try.prog 10 #[.string t] w fun e w' => e = .returned (.bool (nameB t.data.toList)) ∧ Below w.heap.size w w'
def FindSays : Prop := ∀ (A : Option Addr) (n cap : Nat) (us : List Us) (t : ByteArray) (w : World), UsersR w A n us →
  Calls Try.prog 8 #[.slice A n cap, .string t] w fun e w' => e = .returned (.tuple #[.agg #[.int .i64 (clearF us t).1, .int .u64 (clearF us t).2.1], .bool (clearF us t).2.2]) ∧ Below w.heap.size w w'
def ActsSays : Prop := ∀ (A : Option Addr) (n cap : Nat) (us : List Us) (t : ByteArray) (l : Int) (s : Nat) (w : World), U s → UsersR w A n us →
  Calls Try.prog 14 #[.slice A n cap, .string t, .agg #[.int .i64 l, .int .u64 s]] w fun e w' => e = .returned (.int .i64 (actsI us t l s)) ∧ Below w.heap.size w w'
def LowersSays : Prop := ∀ (A : Option Addr) (n cap : Nat) (gs : List Gr) (t : ByteArray) (l : Int) (s : Nat) (j : Int) (r : Nat) (w : World), U s → U r → GrantsR w A n gs →
  Calls Try.prog 16 #[.slice A n cap, .string t, .agg #[.int .i64 l, .int .u64 s], .agg #[.int .i64 j, .int .u64 r]] w fun e w' => e = .returned (.bool (lowersB gs t l s j r)) ∧ Below w.heap.size w w'
def LeaksSays : Prop := ∀ (A : Option Addr) (n cap : Nat) (gs : List Gr) (l : Int) (s : Nat) (w : World), U s → GrantsR w A n gs →
  Calls Try.prog 18 #[.slice A n cap, .agg #[.int .i64 l, .int .u64 s]] w fun e w' => e = .returned (.bool (leaksB gs l s)) ∧ Below w.heap.size w w'
def HoldersSays : Prop := ∀ (A : Option Addr) (n cap : Nat) (gs : List Gr) (l : Int) (s : Nat) (w : World), U s → n ≤ 1000 → GrantsR w A n gs →
  Calls Try.prog 21 #[.slice A n cap, .agg #[.int .i64 l, .int .u64 s]] w fun e w' => ∃ v, e = .returned v ∧ StrsR w' v (holdersF gs l s) ∧ Below w.heap.size w w'
def UsersSays : Prop := ∀ (A : Option Addr) (n cap : Nat) (us : List Us) (w : World), n ≤ cap → UsersR w A n us →
  Calls Try.prog 12 #[.slice A n cap] w fun e w' => e = .returned (.tuple #[.int .i64 (wrongU us 0 us).1, .int .i64 (wrongU us 0 us).2]) ∧ Below w.heap.size w w'
def GrantsSays : Prop := ∀ (A : Option Addr) (n cap : Nat) (gs : List Gr) (A2 : Option Addr) (n2 cap2 : Nat) (us : List Us) (w : World), GrantsR w A n gs → UsersR w A2 n2 us →
  Calls Try.prog 26 #[.slice A n cap, .slice A2 n2 cap2] w fun e w' => e = .returned (.tuple #[.int .i64 (wrongG us 0 gs).1, .int .i64 (wrongG us 0 gs).2]) ∧ Below w.heap.size w w'
structure Says : Prop where
  name : NameSays
  find : FindSays
  acts : ActsSays
  lowers : LowersSays
  leaks : LeaksSays
  holders : HoldersSays
  users : UsersSays
  grants : GrantsSays
end Go.Proofs.Yteolenhgaekihaa.Right
