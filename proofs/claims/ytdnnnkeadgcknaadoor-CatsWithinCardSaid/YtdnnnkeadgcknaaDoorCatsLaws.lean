/- What the statements CatsWithin and CatsTells answer: yes, for every input. -/
import Derived.Test.YtdnnnkeadgcknaaDoorCatsAlive
namespace Go.Proofs.YtdnnnkeadgcknaaDoor.Cats
open Go.RowKit

theorem withinB_iff {a b : Nat} (ha : U a) (hb : U b) : withinB a b = true ↔ ∀ i, a.testBit i = true → b.testBit i = true := by
  rw [← andNot_iff a b ha hb, beq_iff_eq]
  constructor
  · intro h i hi
    have h2 : (a &&& b).testBit i = a.testBit i := by rw [h]
    rw [Nat.testBit_and, hi] at h2
    simpa using h2
  · intro h
    apply Nat.eq_of_testBit_eq
    intro i
    rw [Nat.testBit_and]
    cases hi : a.testBit i
    · rfl
    · rw [h i hi]; rfl
theorem withinB_refl {a : Nat} (ha : U a) : withinB a a = true := (withinB_iff ha ha).2 fun _ h => h
theorem withinB_antisymm {a b : Nat} (ha : U a) (hb : U b) (h1 : withinB a b = true) (h2 : withinB b a = true) : a = b := by
  apply Nat.eq_of_testBit_eq
  intro i
  rw [Bool.eq_iff_iff]
  exact ⟨(withinB_iff ha hb).1 h1 i, (withinB_iff hb ha).1 h2 i⟩
theorem withinB_trans {a b c : Nat} (ha : U a) (hb : U b) (hc : U c) (h1 : withinB a b = true) (h2 : withinB b c = true) : withinB a c = true :=
  (withinB_iff ha hc).2 fun i hi => (withinB_iff hb hc).1 h2 i ((withinB_iff ha hb).1 h1 i hi)

set_option maxHeartbeats 2000000 in
theorem within_law (a b c : Nat) (ha : U a) (hb : U b) (hc : U c) (w : World) : Calls Tryd.prog 4 #[.int .u64 a, .int .u64 b, .int .u64 c] w fun e w' => e = .returned (.bool true) ∧ Below w.heap.size w w' := by
  have HA := Lib.hid ha
  have HB := Lib.hid hb
  have HC := Lib.hid hc
  have Haa := Lib.hid (withinB_refl ha)
  clear ha hb hc
  cases hab : withinB a b
  · have Hab := Lib.hid hab
    clear hab
    go_enter Tryd.func4, Tryd.ntmps4
    go_wp2_with fail
    refine (within_c a b false HA.out HB.out Hab.out _).mono ?_
    rintro e w1 ⟨rfl, rfl⟩
    go_wp2_with fail
    refine (rwithin_c a b false HA.out HB.out Hab.out _).mono ?_
    rintro e w1 ⟨rfl, rfl⟩
    go_wp2_with fail
    refine (within_c a a true HA.out HA.out Haa.out _).mono ?_
    rintro e w1 ⟨rfl, rfl⟩
    go_wp2_with fail
    refine (within_c a b false HA.out HB.out Hab.out _).mono ?_
    rintro e w1 ⟨rfl, rfl⟩
    go_wp2_with fail
    refine (within_c a b false HA.out HB.out Hab.out _).mono ?_
    rintro e w1 ⟨rfl, rfl⟩
    go_wp2_with fail
    refine (alive_c _).mono ?_
    rintro e w1 ⟨rfl, hbl⟩
    go_wp2
    go_ret
    exact ⟨rfl, hbl⟩
  · have Hab := Lib.hid hab
    clear hab
    cases hba : withinB b a
    · have Hba := Lib.hid hba
      clear hba
      cases hbc : withinB b c
      · have Hbc := Lib.hid hbc
        clear hbc
        go_enter Tryd.func4, Tryd.ntmps4
        go_wp2_with fail
        refine (within_c a b true HA.out HB.out Hab.out _).mono ?_
        rintro e w1 ⟨rfl, rfl⟩
        go_wp2_with fail
        refine (rwithin_c a b true HA.out HB.out Hab.out _).mono ?_
        rintro e w1 ⟨rfl, rfl⟩
        go_wp2_with fail
        refine (within_c a a true HA.out HA.out Haa.out _).mono ?_
        rintro e w1 ⟨rfl, rfl⟩
        go_wp2_with fail
        refine (within_c a b true HA.out HB.out Hab.out _).mono ?_
        rintro e w1 ⟨rfl, rfl⟩
        go_wp2_with fail
        refine (within_c b a false HB.out HA.out Hba.out _).mono ?_
        rintro e w1 ⟨rfl, rfl⟩
        go_wp2_with fail
        refine (within_c a b true HA.out HB.out Hab.out _).mono ?_
        rintro e w1 ⟨rfl, rfl⟩
        go_wp2_with fail
        refine (within_c b c false HB.out HC.out Hbc.out _).mono ?_
        rintro e w1 ⟨rfl, rfl⟩
        go_wp2_with fail
        refine (alive_c _).mono ?_
        rintro e w1 ⟨rfl, hbl⟩
        go_wp2
        go_ret
        exact ⟨rfl, hbl⟩
      · have Hbc := Lib.hid hbc
        clear hbc
        have Hac := Lib.hid (withinB_trans HA.out HB.out HC.out Hab.out Hbc.out)
        go_enter Tryd.func4, Tryd.ntmps4
        go_wp2_with fail
        refine (within_c a b true HA.out HB.out Hab.out _).mono ?_
        rintro e w1 ⟨rfl, rfl⟩
        go_wp2_with fail
        refine (rwithin_c a b true HA.out HB.out Hab.out _).mono ?_
        rintro e w1 ⟨rfl, rfl⟩
        go_wp2_with fail
        refine (within_c a a true HA.out HA.out Haa.out _).mono ?_
        rintro e w1 ⟨rfl, rfl⟩
        go_wp2_with fail
        refine (within_c a b true HA.out HB.out Hab.out _).mono ?_
        rintro e w1 ⟨rfl, rfl⟩
        go_wp2_with fail
        refine (within_c b a false HB.out HA.out Hba.out _).mono ?_
        rintro e w1 ⟨rfl, rfl⟩
        go_wp2_with fail
        refine (within_c a b true HA.out HB.out Hab.out _).mono ?_
        rintro e w1 ⟨rfl, rfl⟩
        go_wp2_with fail
        refine (within_c b c true HB.out HC.out Hbc.out _).mono ?_
        rintro e w1 ⟨rfl, rfl⟩
        go_wp2_with fail
        refine (within_c a c true HA.out HC.out Hac.out _).mono ?_
        rintro e w1 ⟨rfl, rfl⟩
        go_wp2_with fail
        refine (alive_c _).mono ?_
        rintro e w1 ⟨rfl, hbl⟩
        go_wp2
        go_ret
        exact ⟨rfl, hbl⟩
    · have Hba := Lib.hid hba
      clear hba
      have hne : ((a : Int) != (b : Int)) = false := by
        have h := withinB_antisymm HA.out HB.out Hab.out Hba.out
        simp [h]
      cases hbc : withinB b c
      · have Hbc := Lib.hid hbc
        clear hbc
        go_enter Tryd.func4, Tryd.ntmps4
        go_wp2_with fail
        refine (within_c a b true HA.out HB.out Hab.out _).mono ?_
        rintro e w1 ⟨rfl, rfl⟩
        go_wp2_with fail
        refine (rwithin_c a b true HA.out HB.out Hab.out _).mono ?_
        rintro e w1 ⟨rfl, rfl⟩
        go_wp2_with fail
        refine (within_c a a true HA.out HA.out Haa.out _).mono ?_
        rintro e w1 ⟨rfl, rfl⟩
        go_wp2_with fail
        refine (within_c a b true HA.out HB.out Hab.out _).mono ?_
        rintro e w1 ⟨rfl, rfl⟩
        go_wp2_with fail
        refine (within_c b a true HB.out HA.out Hba.out _).mono ?_
        rintro e w1 ⟨rfl, rfl⟩
        go_wp2_with fail
        refine (within_c a b true HA.out HB.out Hab.out _).mono ?_
        rintro e w1 ⟨rfl, rfl⟩
        go_wp2_with fail
        refine (within_c b c false HB.out HC.out Hbc.out _).mono ?_
        rintro e w1 ⟨rfl, rfl⟩
        go_wp2_with fail
        refine (alive_c _).mono ?_
        rintro e w1 ⟨rfl, hbl⟩
        go_wp2
        go_ret
        exact ⟨rfl, hbl⟩
      · have Hbc := Lib.hid hbc
        clear hbc
        have Hac := Lib.hid (withinB_trans HA.out HB.out HC.out Hab.out Hbc.out)
        go_enter Tryd.func4, Tryd.ntmps4
        go_wp2_with fail
        refine (within_c a b true HA.out HB.out Hab.out _).mono ?_
        rintro e w1 ⟨rfl, rfl⟩
        go_wp2_with fail
        refine (rwithin_c a b true HA.out HB.out Hab.out _).mono ?_
        rintro e w1 ⟨rfl, rfl⟩
        go_wp2_with fail
        refine (within_c a a true HA.out HA.out Haa.out _).mono ?_
        rintro e w1 ⟨rfl, rfl⟩
        go_wp2_with fail
        refine (within_c a b true HA.out HB.out Hab.out _).mono ?_
        rintro e w1 ⟨rfl, rfl⟩
        go_wp2_with fail
        refine (within_c b a true HB.out HA.out Hba.out _).mono ?_
        rintro e w1 ⟨rfl, rfl⟩
        go_wp2_with fail
        refine (within_c a b true HA.out HB.out Hab.out _).mono ?_
        rintro e w1 ⟨rfl, rfl⟩
        go_wp2_with fail
        refine (within_c b c true HB.out HC.out Hbc.out _).mono ?_
        rintro e w1 ⟨rfl, rfl⟩
        go_wp2_with fail
        refine (within_c a c true HA.out HC.out Hac.out _).mono ?_
        rintro e w1 ⟨rfl, rfl⟩
        go_wp2_with fail
        refine (alive_c _).mono ?_
        rintro e w1 ⟨rfl, hbl⟩
        go_wp2
        go_ret
        exact ⟨rfl, hbl⟩
end Go.Proofs.YtdnnnkeadgcknaaDoor.Cats
