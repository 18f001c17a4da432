/- What the reference's ref and arg answer. Written by wip/gen22arg.py. -/
import Derived.Test.YtcgpggknmhlnkaaGreatDoorPt05
import Derived.Test.YtcgpggknmhlnkaaGreatDoorPt07
import Derived.Test.YtcgpggknmhlnkaaGreatDoorPt18
namespace Go.Proofs.YtcgpggknmhlnkaaGreatDoor.Nod
open Go.RowKit Kit Reg
open Go.Proofs.YtcgpggknmhlnkaaGreatDoor.Cats (LabIs LabIs.unique)
open Classical in
/-- is a text a label's? -/
noncomputable def labB (t : List UInt8) : Bool := decide (∃ l s, LabIs t l s true)
theorem labB_is {t : List UInt8} {l : Int} {s : Nat} {b : Bool} (h : LabIs t l s b) : labB t = b := by
  classical
  unfold labB
  cases b with
  | true => simp only [decide_eq_true_eq]; exact ⟨l, s, h⟩
  | false => simp only [decide_eq_false_iff_not]; exact fun ⟨l', s', h'⟩ => by have := (h.unique h').2.2; cases this
/-- may a node be an argument of a kind? -/
noncomputable def argV (kd : UInt8) (h : Hd) : Bool :=
  if kd = 118 ∨ kd = 101 then !(h.k == 4) else if kd = 114 ∨ kd = 110 then decide (2 ≤ h.k) && decide (h.k ≤ 4)
  else if kd = 116 then (h.k == 1) && ((h.vk == 2) && labB h.vt.data.toList) else kd == 108
theorem kd_no {kd : UInt8} {m : Nat} (hm : m < 256) (h : ¬ kd = UInt8.ofNat m) : ((kd.toNat : Int) == (m : Int)) = false := beq_eq_false_iff_ne.2 fun e => h (UInt8.toNat_inj.1 (by rw [UInt8.toNat_ofNat_of_lt' (by show m < 256; exact hm)]; omega))
set_option maxRecDepth 100000 in
set_option maxHeartbeats 1000000 in
theorem rref_c (r c : Int) (p l : Bool) (b : Bool) (hb : Addr.mayB r c = b) (w : World) : Calls Tryz.prog 32 #[.agg #[.int .i64 r, .int .i64 c, .bool p, .bool l]] w fun e w' => e = .returned (.bool b) ∧ Below w.heap.size w w' := by
  have HH := Lib.hid (fun w1 => Addr.rmay_c r c b hb w1)
  have hb00 := below1 w (.cells #[.int .i64 r, .int .i64 c, .bool p, .bool l] 25)
  clear hb
  go_enter Tryz.func32, Tryz.ntmps32
  go_wp2_with fail
  refine (HH.out _).mono ?_
  rintro e w2 ⟨rfl, hb2⟩
  have hb := on hb00 hb2
  go_wp2_with fail
  go_ret
  exact ⟨rfl, hb⟩
theorem field_told (l : Int) (s : Nat) (b : Bool) (w : World) : (Instr.field 58 (.agg #[.int .i64 l, .int .u64 s, .bool b]) 1).run Tryz.prog w = .ok (.bool b) w := by kernel_rfl
set_option maxRecDepth 100000 in
set_option maxHeartbeats 4000000 in
theorem rarg_c (kd : UInt8) (h : Hd) (A : Option Addr) (n c : Nat) (hs : h.vt.size ≤ 9223372036854775807) (r : Bool) (hr : argV kd h = r) (w : World) : Calls Tryz.prog 33 #[.int .u8 (kd.toNat : Int), .agg #[.int .i64 h.k, .int .i64 h.op, .int .i64 h.vk, .int .i64 h.vn, .string h.vt, .int .i64 h.ar, .int .i64 h.ac, .bool h.ah, .bool h.al, .int .i64 h.br, .int .i64 h.bc, .bool h.bh, .bool h.bl, .slice A n c]] w fun e w' => e = .returned (.bool r) ∧ Below w.heap.size w w' := by
  have hb00 := below1 w (.cells #[.int .i64 h.k, .int .i64 h.op, .int .i64 h.vk, .int .i64 h.vn, .string h.vt, .int .i64 h.ar, .int .i64 h.ac, .bool h.ah, .bool h.al, .int .i64 h.br, .int .i64 h.bc, .bool h.bh, .bool h.bl, .slice A n c] 28)
  unfold argV at hr
  by_cases h1 : kd = 118
  · subst h1
    rw [if_pos (.inl rfl)] at hr
    have d1 : (h.k != 4) = r := hr
    go_enter Tryz.func33, Tryz.ntmps33
    go_wp2_with fail
    go_ret
    exact ⟨rfl, hb00⟩
  by_cases h2 : kd = 101
  · subst h2
    rw [if_pos (.inr rfl)] at hr
    have d1 : (h.k != 4) = r := hr
    go_enter Tryz.func33, Tryz.ntmps33
    go_wp2_with fail
    go_ret
    exact ⟨rfl, hb00⟩
  have e1 : ((kd.toNat : Int) == 118) = false := kd_no (m := 118) (by decide) h1
  have e2 : ((kd.toNat : Int) == 101) = false := kd_no (m := 101) (by decide) h2
  rw [if_neg (fun q => q.elim h1 h2)] at hr
  by_cases h3 : kd = 114 ∨ kd = 110
  · rw [if_pos h3] at hr
    have e3 : ((kd.toNat : Int) == 114 || (kd.toNat : Int) == 110) = true := by rcases h3 with rfl | rfl <;> rfl
    by_cases h4 : 2 ≤ h.k
    · have d1 : decide (2 ≤ h.k) = true := decide_eq_true h4
      rw [d1, Bool.true_and] at hr
      rcases h3 with rfl | rfl
      · go_enter Tryz.func33, Tryz.ntmps33
        go_wp2_with fail
        go_ret
        exact ⟨rfl, hb00⟩
      · go_enter Tryz.func33, Tryz.ntmps33
        go_wp2_with fail
        go_ret
        exact ⟨rfl, hb00⟩
    · have d1 : decide (2 ≤ h.k) = false := decide_eq_false h4
      rw [d1, Bool.false_and] at hr
      subst hr
      rcases h3 with rfl | rfl
      · go_enter Tryz.func33, Tryz.ntmps33
        go_wp2_with fail
        go_ret
        exact ⟨rfl, hb00⟩
      · go_enter Tryz.func33, Tryz.ntmps33
        go_wp2_with fail
        go_ret
        exact ⟨rfl, hb00⟩
  have e3 : ((kd.toNat : Int) == 114) = false := kd_no (m := 114) (by decide) (fun q => h3 (.inl q))
  have e4 : ((kd.toNat : Int) == 110) = false := kd_no (m := 110) (by decide) (fun q => h3 (.inr q))
  rw [if_neg h3] at hr
  by_cases h5 : kd = 116
  · rw [if_pos h5] at hr
    have e5 : ((kd.toNat : Int) == 116) = true := by rw [h5]; rfl
    clear e1 e2 e3 e4 e5 h1 h2 h3
    subst h5
    cases k1 : (h.k == 1) with
    | false =>
      rw [k1, Bool.false_and] at hr
      subst hr
      go_enter Tryz.func33, Tryz.ntmps33
      go_wp2_with fail
      go_ret
      exact ⟨rfl, hb00⟩
    | true =>
      rw [k1, Bool.true_and] at hr
      cases k2 : (h.vk == 2) with
      | false =>
        rw [k2, Bool.false_and] at hr
        subst hr
        go_enter Tryz.func33, Tryz.ntmps33
        go_wp2_with fail
        go_ret
        exact ⟨rfl, hb00⟩
      | true =>
        rw [k2, Bool.true_and] at hr
        have HH := Lib.hid (fun w1 => Cats.rlabparse_c h.vt hs w1)
        have HR := Lib.hid hr
        clear hr
        go_enter Tryz.func33, Tryz.ntmps33
        go_wp2_with fail
        refine (HH.out _).mono ?_
        rintro e w2 ⟨l, s, b, rfl, hl, hb2⟩
        obtain rfl : b = r := by rw [← HR.out, labB_is hl]
        have hb := on hb00 hb2
        have hfl := field_told l s b w2
        clear hl hb2
        go_wp2_with fail
        go_ret
        exact ⟨rfl, hb⟩
  · rw [if_neg h5] at hr
    have e5 : ((kd.toNat : Int) == 116) = false := kd_no (m := 116) (by decide) h5
    have e6 : ((kd.toNat : Int) == 108) = r := by
      rw [← hr]
      by_cases h6 : kd = 108
      · rw [h6]; rfl
      · exact (kd_no (m := 108) (by decide) h6).trans (beq_eq_false_iff_ne.2 h6).symm
    clear h1 h2 h3 h5 hr
    go_enter Tryz.func33, Tryz.ntmps33
    go_wp2_with fail
    go_ret
    exact ⟨rfl, hb00⟩
end Go.Proofs.YtcgpggknmhlnkaaGreatDoor.Nod
