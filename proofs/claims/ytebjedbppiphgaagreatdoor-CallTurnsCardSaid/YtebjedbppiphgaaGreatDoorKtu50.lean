/- CallTurns of two values, the whole way. Written by wip/gen21n.py.
   CallTurns, put together. -/
import Derived.Test.YtebjedbppiphgaaGreatDoorKtu45
import Derived.Test.YtebjedbppiphgaaGreatDoorKtu46
import Derived.Test.YtebjedbppiphgaaGreatDoorKtu47
import Derived.Test.YtebjedbppiphgaaGreatDoorKtu48
import Derived.Test.YtebjedbppiphgaaGreatDoorKtu49
namespace Go.Proofs.YtebjedbppiphgaaGreatDoor.Cal
open Go.RowKit Kit Reg Dec Dig Val Fld
open Crt (CLibs)
theorem turns_5 (ak an : Int) (at_ : ByteArray) (bk bn : Int) (bt : ByteArray) (dk dn : Int) (dt : ByteArray) (ek en : Int) (et : ByteArray) (sk sn : Int) (st : ByteArray) (pk pn : Int) (pt : ByteArray) (w : World) (h : mayV ak an at_ = true) (h2 : mayV bk bn bt = true) (g4 : ¬ ak = 4) (h4 : ¬ bk = 4)
    (HD : ∀ w1, CLibs w1 → Calls Tryz.prog 9 #[.int .i64 2, .agg #[.int .i64 bk, .int .i64 bn, .string bt], .agg #[.int .i64 ak, .int .i64 an, .string at_]] w1 (ValIs dk dn dt w1)) (HE : ∀ w1, CLibs w1 → Calls Tryz.prog 9 #[.int .i64 2, .agg #[.int .i64 ak, .int .i64 an, .string at_], .agg #[.int .i64 bk, .int .i64 bn, .string bt]] w1 (ValIs ek en et w1)) (HS : ∀ w1, CLibs w1 → Calls Tryz.prog 9 #[.int .i64 1, .agg #[.int .i64 ak, .int .i64 an, .string at_], .agg #[.int .i64 bk, .int .i64 bn, .string bt]] w1 (ValIs sk sn st w1)) (HP : ∀ w1, CLibs w1 → Calls Tryz.prog 9 #[.int .i64 3, .agg #[.int .i64 ak, .int .i64 an, .string at_], .agg #[.int .i64 bk, .int .i64 bn, .string bt]] w1 (ValIs pk pn pt w1))
    (HM : dk = 1 → ∀ w1, CLibs w1 → Calls Tryz.prog 11 #[.agg #[.int .i64 dk, .int .i64 dn, .string dt]] w1 (ValIs ek en et w1))
    (HS2 : sk = 1 → ∀ w1, CLibs w1 → Calls Tryz.prog 9 #[.int .i64 1, .agg #[.int .i64 bk, .int .i64 bn, .string bt], .agg #[.int .i64 ak, .int .i64 an, .string at_]] w1 (ValIs sk sn st w1))
    (HP2 : pk = 1 → ∀ w1, CLibs w1 → Calls Tryz.prog 9 #[.int .i64 3, .agg #[.int .i64 bk, .int .i64 bn, .string bt], .agg #[.int .i64 ak, .int .i64 an, .string at_]] w1 (ValIs pk pn pt w1))
    (HT : ∀ k : Nat, k < 3 → ∃ o0 o1 nx ny : Int, ([7, 8, 9, 12, 11, 10] : List Int)[k * 2]? = some o0 ∧ ([7, 8, 9, 12, 11, 10] : List Int)[k * 2 + 1]? = some o1 ∧ nx + ny = 1 ∧ (-1 ≤ nx ∧ nx ≤ 1 ∧ -1 ≤ ny ∧ ny ≤ 1) ∧
      (∀ w1, CLibs w1 → Calls Tryz.prog 9 #[.int .i64 o0, .agg #[.int .i64 ak, .int .i64 an, .string at_], .agg #[.int .i64 bk, .int .i64 bn, .string bt]] w1 (ValIs 3 nx ⟨#[]⟩ w1)) ∧ (∀ w1, CLibs w1 → Calls Tryz.prog 9 #[.int .i64 o1, .agg #[.int .i64 ak, .int .i64 an, .string at_], .agg #[.int .i64 bk, .int .i64 bn, .string bt]] w1 (ValIs 3 ny ⟨#[]⟩ w1)))
    (hL : CLibs w) :
    Calls Tryz.prog 6 #[.agg #[.int .i64 ak, .int .i64 an, .string at_], .agg #[.int .i64 bk, .int .i64 bn, .string bt]] w (LawEnd w) := by
  by_cases c1 : dk = 1
  · by_cases c2 : sk = 1
    · exact turns_5yy ak an at_ bk bn bt dk dn dt ek en et sk sn st pk pn pt w h h2 g4 h4 HD HE HS HP HM HS2 HP2 HT c1 c2 hL
    · exact turns_5yn ak an at_ bk bn bt dk dn dt ek en et sk sn st pk pn pt w h h2 g4 h4 HD HE HS HP HM HS2 HP2 HT c1 c2 hL
  · by_cases c2 : sk = 1
    · exact turns_5ny ak an at_ bk bn bt dk dn dt ek en et sk sn st pk pn pt w h h2 g4 h4 HD HE HS HP HM HS2 HP2 HT c1 c2 hL
    · exact turns_5nn ak an at_ bk bn bt dk dn dt ek en et sk sn st pk pn pt w h h2 g4 h4 HD HE HS HP HM HS2 HP2 HT c1 c2 hL
end Go.Proofs.YtebjedbppiphgaaGreatDoor.Cal
namespace Go.Proofs.YtebjedbppiphgaaGreatDoor.Cal
open Go.RowKit Kit Reg Dec Dig Val Fld
open Crt (CLibs)
theorem bin_ok {a b : Vl} (ha : Ok a) (hb : Ok b) (h : (binV 2 b a).k = 1) : Ok (binV 2 b a) := by
  rcases bin_nums (k := 1) (by decide) hb ha with ⟨x, y, _, _, hx, hy, e⟩ | ⟨_, e⟩
  · have e2 : binV 2 b a = gV (subD x y) := e
    rw [e2]
    refine gV_ok _ ?_
    unfold subD giveD okD
    split
    · rename_i h2
      simp only [Bool.and_eq_true, decide_eq_true_eq] at h2
      omega
    · show (0 : Int) ≤ _
      decide
  · have e2 : (binV 2 b a).k = 4 := e
    rw [e2] at h
    cases h
theorem bit_room (b : Bool) : -1 ≤ (bV b).n ∧ (bV b).n ≤ 1 := by cases b <;> exact ⟨by decide, by decide⟩
theorem turns_c (ak an : Int) (at_ : ByteArray) (bk bn : Int) (bt : ByteArray) (fa1 : -9223372036854775808 ≤ an) (fa2 : an ≤ 9223372036854775807) (fb1 : -9223372036854775808 ≤ bn) (fb2 : bn ≤ 9223372036854775807) (w : World) (hL : CLibs w) :
    Calls Tryz.prog 6 #[.agg #[.int .i64 ak, .int .i64 an, .string at_], .agg #[.int .i64 bk, .int .i64 bn, .string bt]] w fun e w' => e = .returned (.bool true) ∧ Below w.heap.size w w' := by
  cases h : mayV ak an at_
  · exact turns_1 ak an at_ bk bn bt w h hL
  cases h2 : mayV bk bn bt
  · exact turns_2 ak an at_ bk bn bt w h h2 hL
  by_cases g4 : ak = 4
  · subst g4
    exact turns_3 an at_ bk bn bt w h h2 hL
  by_cases h4 : bk = 4
  · subst h4
    exact turns_4 ak an at_ bn bt w h h2 g4 hL
  have oa : Ok ⟨ak, an, at_⟩ := ⟨h, fa1, fa2⟩
  have ob : Ok ⟨bk, bn, bt⟩ := ⟨h2, fb1, fb2⟩
  have HB : ∀ (op : Int) (w1 : World), CLibs w1 → Calls Tryz.prog 9 #[.int .i64 op, .agg #[.int .i64 ak, .int .i64 an, .string at_], .agg #[.int .i64 bk, .int .i64 bn, .string bt]] w1 (IsV (binV op ⟨ak, an, at_⟩ ⟨bk, bn, bt⟩) w1) := fun op w1 hL1 => bin_c op ⟨ak, an, at_⟩ ⟨bk, bn, bt⟩ oa ob w1 hL1.1
  have HR : ∀ (op : Int) (w1 : World), CLibs w1 → Calls Tryz.prog 9 #[.int .i64 op, .agg #[.int .i64 bk, .int .i64 bn, .string bt], .agg #[.int .i64 ak, .int .i64 an, .string at_]] w1 (IsV (binV op ⟨bk, bn, bt⟩ ⟨ak, an, at_⟩) w1) := fun op w1 hL1 => bin_c op ⟨bk, bn, bt⟩ ⟨ak, an, at_⟩ ob oa w1 hL1.1
  have HT : ∀ k : Nat, 6 ≤ k → k < 12 → ∀ w1, CLibs w1 → Calls Tryz.prog 9 #[.int .i64 ((k : Int) + 1), .agg #[.int .i64 ak, .int .i64 an, .string at_], .agg #[.int .i64 bk, .int .i64 bn, .string bt]] w1 (ValIs 3 (bV (truthC k (cmpV ⟨ak, an, at_⟩ ⟨bk, bn, bt⟩))).n ⟨#[]⟩ w1) := fun k k6 k12 w1 hL1 => by
    have e := HB ((k : Int) + 1) w1 hL1
    rw [bin_truth k6 k12 (a := ⟨ak, an, at_⟩) (b := ⟨bk, bn, bt⟩) g4 h4] at e
    exact e
  have H1 := truth_one (cmpV ⟨ak, an, at_⟩ ⟨bk, bn, bt⟩)
  refine turns_5 ak an at_ bk bn bt _ _ _ _ _ _ _ _ _ _ _ _ w h h2 g4 h4 (HR 2) (HB 2) (HB 1) (HB 3) (fun hd w1 hL1 => ?_) (fun hs w1 hL1 => ?_) (fun hp w1 hL1 => ?_) (fun k hk => ?_) hL
  · have e := minus_c _ (bin_ok oa ob hd) w1 hL1.1
    rw [turn_sign oa ob hd] at e
    exact e
  · have e := HR 1 w1 hL1
    rw [turn_sum oa ob hs] at e
    exact e
  · have e := HR 3 w1 hL1
    rw [turn_product oa ob hp] at e
    exact e
  · have r6 := bit_room (truthC 6 (cmpV ⟨ak, an, at_⟩ ⟨bk, bn, bt⟩))
    have r7 := bit_room (truthC 7 (cmpV ⟨ak, an, at_⟩ ⟨bk, bn, bt⟩))
    have r8 := bit_room (truthC 8 (cmpV ⟨ak, an, at_⟩ ⟨bk, bn, bt⟩))
    have r9 := bit_room (truthC 9 (cmpV ⟨ak, an, at_⟩ ⟨bk, bn, bt⟩))
    have r10 := bit_room (truthC 10 (cmpV ⟨ak, an, at_⟩ ⟨bk, bn, bt⟩))
    have r11 := bit_room (truthC 11 (cmpV ⟨ak, an, at_⟩ ⟨bk, bn, bt⟩))
    have hk3 : k = 0 ∨ k = 1 ∨ k = 2 := by omega
    rcases hk3 with rfl | rfl | rfl
    · exact ⟨7, 8, _, _, rfl, rfl, H1.1, ⟨r6.1, r6.2, r7.1, r7.2⟩, HT 6 (by decide) (by decide), HT 7 (by decide) (by decide)⟩
    · exact ⟨9, 12, _, _, rfl, rfl, H1.2.1, ⟨r8.1, r8.2, r11.1, r11.2⟩, HT 8 (by decide) (by decide), HT 11 (by decide) (by decide)⟩
    · exact ⟨11, 10, _, _, rfl, rfl, H1.2.2, ⟨r10.1, r10.2, r9.1, r9.2⟩, HT 10 (by decide) (by decide), HT 9 (by decide) (by decide)⟩
end Go.Proofs.YtebjedbppiphgaaGreatDoor.Cal
