/- The program's single, cell, written, taken, called, formed. Written by wip/gen22form.py. -/
import Derived.Test.YtcgpggknmhlnkaaDoorPs25
import Derived.Test.YtcgpggknmhlnkaaDoorPs27
import Derived.Test.YtcgpggknmhlnkaaDoorPs30
import Derived.Test.YtcgpggknmhlnkaaDoorPs32
import Derived.Test.YtcgpggknmhlnkaaDoorPs34
import Derived.Test.YtcgpggknmhlnkaaDoorPs08
import Derived.Test.YtcgpggknmhlnkaaDoorPs38
namespace Go.Proofs.YtcgpggknmhlnkaaDoor.Nod
open Go.RowKit Kit Reg
open Go.Proofs.YtcgpggknmhlnkaaDoor.Cats (LabIs Errs LTellEnd lparse_c)
set_option maxRecDepth 100000 in
set_option maxHeartbeats 4000000 in
theorem single_c (h : Hd) (A : Option Addr) (n c : Nat) (r : Bool) (hr : (h.k != 4) = r) (w : World) : Calls Tryd.prog 24 #[.agg #[.int .i64 h.k, .int .i64 h.op, .int .i64 h.vk, .int .i64 h.vn, .string h.vt, .int .i64 h.ar, .int .i64 h.ac, .bool h.ah, .bool h.al, .int .i64 h.br, .int .i64 h.bc, .bool h.bh, .bool h.bl, .slice A n c]] w fun e w' => e = .returned (.bool r) ∧ Below w.heap.size w w' := by
  have hb00 := below1 w (.cells #[.int .i64 h.k, .int .i64 h.op, .int .i64 h.vk, .int .i64 h.vn, .string h.vt, .int .i64 h.ar, .int .i64 h.ac, .bool h.ah, .bool h.al, .int .i64 h.br, .int .i64 h.bc, .bool h.bh, .bool h.bl, .slice A n c] 28)
  go_enter Tryd.func24, Tryd.ntmps24
  go_wp2_with fail
  go_ret
  exact ⟨rfl, hb00⟩
set_option maxRecDepth 100000 in
set_option maxHeartbeats 4000000 in
theorem cell_c (r c : Int) (p l : Bool) (b : Bool) (hb : Addr.mayB r c = b) (w : World) : Calls Tryd.prog 23 #[.agg #[.int .i64 r, .int .i64 c, .bool p, .bool l]] w fun e w' => e = .returned (.bool b) ∧ Below w.heap.size w w' := by
  have HH := Lib.hid (fun w1 => Addr.may_c r c b hb w1)
  have hb00 := below1 w (.cells #[.int .i64 r, .int .i64 c, .bool p, .bool l] 25)
  clear hb
  go_enter Tryd.func23, Tryd.ntmps23
  go_wp2_with fail
  refine (HH.out _).mono ?_
  rintro e w2 ⟨rfl, hb2⟩
  have hb := on hb00 hb2
  go_wp2_with fail
  go_ret
  exact ⟨rfl, hb⟩
set_option maxRecDepth 100000 in
set_option maxHeartbeats 4000000 in
theorem plain_c (t : ByteArray) (ht : t.size ≤ 100000) (c : Bool) (hc : t.data.toList.all Lex.plainB = c) (w : World) : Calls Tryd.prog 28 #[.string t] w fun e w' => e = .returned (.bool c) ∧ w = w' := by
  have HK := Lib.hid (fun i (hi : i < t.size) => Lib.data_getElem? t i hi)
  have HT := Lib.hid (show t.data.toList.length = t.size by rw [Array.length_toList]; rfl)
  have HC := Lib.hid hc
  clear hc
  go_enter Tryd.func28, Tryd.ntmps28
  go_wp2_with fail
  go_loopw [6] (fun x wr => ∃ k : Nat, k ≤ t.size ∧ x = .int .i64 k ∧ Hid ((t.data.toList.take k).all Lex.plainB = true) ∧ w = wr) (fun x _ => t.size - (intOf x).toNat)
  case atStart => exact ⟨0, Nat.zero_le _, rfl, Lib.hid rfl, rfl⟩
  case round =>
    obtain ⟨k, hk, rfl, HA, rfl⟩ := hrel
    by_cases hlt : k < t.size
    · have hb := HK.out k hlt
      cases hp : Lex.plainB t[k] with
      | true =>
        have HN : Hid ((t.data.toList.take (k + 1)).all Lex.plainB = true) := Lib.hid (by rw [all_snoc HA.out hb, hp])
        obtain ⟨h1, h2⟩ := (Lex.plain_iff t[k]).1 hp
        have d1 : decide ((t[k].toNat : Int) < 32) = false := decide_eq_false (by omega)
        have d2 : ((t[k].toNat : Int) == 127) = false := beq_eq_false_iff_ne.2 (by omega)
        clear hb hp h1 h2 HK HT HC HA
        go_wp2_with fail
        go_roundw
        case rel => exact ⟨k + 1, by omega, by go_num, HN, by first | rfl | trivial⟩
        case measure => simp [intOf]; omega
      | false =>
        obtain rfl : c = false := by rw [← HC.out]; exact all_bad hb hp
        by_cases h1 : t[k].toNat < 32
        · have d1 : decide ((t[k].toNat : Int) < 32) = true := decide_eq_true (by omega)
          clear hb hp h1 HK HT HC HA
          go_wp2_with fail
          go_ret
          exact ⟨rfl, rfl⟩
        · have d1 : decide ((t[k].toNat : Int) < 32) = false := decide_eq_false (by omega)
          have d2 : ((t[k].toNat : Int) == 127) = true := by
            refine beq_iff_eq.2 ?_
            have := fun (e : t[k].toNat ≠ 127) => (Lex.plain_iff t[k]).2 ⟨by omega, e⟩
            by_cases h3 : t[k].toNat = 127
            · omega
            · rw [this h3] at hp; cases hp
          clear hb hp h1 HK HT HC HA
          go_wp2_with fail
          go_ret
          exact ⟨rfl, rfl⟩
    · obtain rfl : k = t.size := by omega
      have HW : Hid (t.data.toList.all Lex.plainB = true) := Lib.hid (by have := HA.out; rwa [List.take_of_length_le (by rw [HT.out]; exact Nat.le_refl _)] at this)
      go_wp2_with fail
      go_ret
      exact ⟨by rw [← HC.out, HW.out]; rfl, rfl⟩
/-- may a value be written out, as the program asks it? -/
def litW (h : Hd) : Bool := if h.vk = 2 then Val.mayV h.vk h.vn h.vt && plainT h else if h.vk = 1 then decide (0 ≤ h.vn) && Val.mayV h.vk h.vn h.vt else if h.vk = 3 then Val.mayV h.vk h.vn h.vt else false
theorem may_small {n : Int} {t : ByteArray} (h : Val.mayV 2 n t = true) : t.size ≤ 256 := by
  simp [Val.mayV] at h
  exact h.2
set_option maxRecDepth 100000 in
set_option maxHeartbeats 4000000 in
theorem written_c (h : Hd) (r : Bool) (hr : litW h = r) (w : World) : Calls Tryd.prog 22 #[.agg #[.int .i64 h.vk, .int .i64 h.vn, .string h.vt]] w fun e w' => e = .returned (.bool r) ∧ Below w.heap.size w w' := by
  have HR := Lib.hid hr
  have hb00 := below1 w (.cells #[.int .i64 h.vk, .int .i64 h.vn, .string h.vt] 23)
  clear hr
  by_cases h2 : h.vk = 2
  · have HK := Lib.hid h2
    have d2 : (h.vk == 2) = true := by rw [h2]; rfl
    clear h2
    cases d3 : Val.mayV h.vk h.vn h.vt with
    | false =>
      have HH := Lib.hid (fun w1 => Val.mayv_c h.vk h.vn h.vt _ d3 w1)
      go_enter Tryd.func22, Tryd.ntmps22
      go_wp2_with fail
      refine (HH.out _).mono ?_
      rintro e w2 ⟨rfl, hb2⟩
      have hb := on hb00 hb2
      go_wp2_with fail
      go_ret
      exact ⟨ret_bool (by rw [← HR.out]; simp [litW, HK.out]; rw [← HK.out, d3]; simp), hb⟩
    | true =>
      have HH := Lib.hid (fun w1 => Val.mayv_c h.vk h.vn h.vt _ d3 w1)
      have HP := Lib.hid (fun w1 => plain_c h.vt (by have := d3; rw [HK.out] at this; have := may_small this; omega) (plainT h) rfl w1)
      have hX := CellsAt.new w [.int .i64 h.vk, .int .i64 h.vn, .string h.vt] 23
      go_enter Tryd.func22, Tryd.ntmps22
      go_wp2_with fail
      refine (HH.out _).mono ?_
      rintro e w2 ⟨rfl, hb2⟩
      have hb := on hb00 hb2
      have x2 := ((hX.on hb2).2 2 _ rfl).1
      go_wp2_with fail
      refine (HP.out _).mono ?_
      rintro e w3 ⟨rfl, rfl⟩
      go_wp2_with fail
      go_ret
      exact ⟨ret_bool (by rw [← HR.out]; simp [litW, HK.out]; rw [← HK.out, d3]; simp), hb⟩
  have d2 : (h.vk == 2) = false := beq_eq_false_iff_ne.2 h2
  by_cases h1 : h.vk = 1
  · have HK := Lib.hid h1
    have d1 : (h.vk == 1) = true := by rw [h1]; rfl
    clear h1 h2
    by_cases h0 : h.vn < 0
    · have d0 : decide (h.vn < 0) = true := decide_eq_true h0
      have H0 := Lib.hid h0
      clear h0
      go_enter Tryd.func22, Tryd.ntmps22
      go_wp2_with fail
      go_ret
      exact ⟨ret_bool (by rw [← HR.out]; simp [litW, HK.out]; intro h; have := H0.out; omega), hb00⟩
    · have d0 : decide (h.vn < 0) = false := decide_eq_false h0
      have H0 := Lib.hid h0
      have HH := Lib.hid (fun w1 => Val.mayv_c h.vk h.vn h.vt _ rfl w1)
      clear h0
      go_enter Tryd.func22, Tryd.ntmps22
      go_wp2_with fail
      refine (HH.out _).mono ?_
      rintro e w2 ⟨rfl, hb2⟩
      have hb := on hb00 hb2
      go_wp2_with fail
      go_ret
      exact ⟨ret_bool (by rw [← HR.out]; simp [litW, HK.out]; intro _; have := H0.out; omega), hb⟩
  have d1 : (h.vk == 1) = false := beq_eq_false_iff_ne.2 h1
  by_cases h3 : h.vk = 3
  · have HK := Lib.hid h3
    have d3 : (h.vk == 3) = true := by rw [h3]; rfl
    have HH := Lib.hid (fun w1 => Val.mayv_c h.vk h.vn h.vt _ rfl w1)
    clear h1 h2 h3
    go_enter Tryd.func22, Tryd.ntmps22
    go_wp2_with fail
    refine (HH.out _).mono ?_
    rintro e w2 ⟨rfl, hb2⟩
    have hb := on hb00 hb2
    go_wp2_with fail
    go_ret
    exact ⟨ret_bool (by rw [← HR.out]; simp [litW, HK.out]), hb⟩
  have d3 : (h.vk == 3) = false := beq_eq_false_iff_ne.2 h3
  have HL : Hid (litW h = false) := Lib.hid (by simp [litW, h1, h2, h3])
  clear h1 h2 h3
  go_enter Tryd.func22, Tryd.ntmps22
  go_wp2_with fail
  go_ret
  exact ⟨ret_bool (by rw [← HR.out, HL.out]), hb00⟩
/-- may a node be an argument of a kind, as the program asks it? -/
noncomputable def takV (kd : UInt8) (h : Hd) : Bool :=
  if kd = 118 ∨ kd = 101 then !(h.k == 4) else if kd = 114 ∨ kd = 110 then decide (2 ≤ h.k) && decide (h.k ≤ 4)
  else if kd = 116 then (h.k == 1) && ((h.vk == 2) && labB h.vt.data.toList) else true
theorem tak_arg {kd : UInt8} (hk : kd ∈ [118, 101, 114, 110, 116, 108]) (h : Hd) : takV kd h = argV kd h := by
  unfold takV argV
  by_cases h1 : kd = 118 ∨ kd = 101
  · rw [if_pos h1, if_pos h1]
  rw [if_neg h1, if_neg h1]
  by_cases h2 : kd = 114 ∨ kd = 110
  · rw [if_pos h2, if_pos h2]
  rw [if_neg h2, if_neg h2]
  by_cases h3 : kd = 116
  · rw [if_pos h3, if_pos h3]
  rw [if_neg h3, if_neg h3]
  simp only [List.mem_cons, List.not_mem_nil, or_false] at hk
  rcases hk with rfl | rfl | rfl | rfl | rfl | rfl <;> simp at h1 h2 h3 ⊢
theorem kinds_all : (List.range 78).all (fun k => (List.range 8).all fun i => !(decide ((i : Int) < Fnm.hi k)) || [118, 101, 114, 110, 116, 108].contains (Fnm.kind k i)) = true := by kernel_rfl
theorem kind_in {fn n : Int} {i : Nat} (h : Fnm.fitsF fn n = true) (hi : (i : Int) < n) : Fnm.kindF fn i ∈ [118, 101, 114, 110, 116, 108] := by
  have h0 : 1 ≤ fn ∧ fn ≤ 78 := by
    unfold Fnm.fitsF at h
    have := of_decide_eq_true h
    exact ⟨this.1, this.2.1⟩
  obtain ⟨k, hk, rfl⟩ := Fnm.to_k h0
  rw [Fnm.fits_k hk] at h
  simp only [Bool.and_eq_true, decide_eq_true_eq] at h
  have hi2 : (i : Int) < Fnm.hi k := by omega
  have h8 : Fnm.hi k ≤ 8 := by
    have := Fnm.of_all Fnm.hi_8 hk
    simp only [Bool.and_eq_true, decide_eq_true_eq] at this
    exact this.1.1
  rw [Fnm.kind_k hk hi2]
  have := Fnm.of_all (Fnm.of_all kinds_all hk) (show i < 8 by omega)
  rw [decide_eq_true hi2] at this
  exact List.contains_iff_mem.1 (by simpa using this)
set_option maxRecDepth 100000 in
set_option maxHeartbeats 4000000 in
theorem taken_c (kd : UInt8) (h : Hd) (A : Option Addr) (n c : Nat) (hs : h.vt.size ≤ 281474976710656) (r : Bool) (hr : takV kd h = r) (w : World) (hE : Errs w) : Calls Tryd.prog 31 #[.int .u8 (kd.toNat : Int), .agg #[.int .i64 h.k, .int .i64 h.op, .int .i64 h.vk, .int .i64 h.vn, .string h.vt, .int .i64 h.ar, .int .i64 h.ac, .bool h.ah, .bool h.al, .int .i64 h.br, .int .i64 h.bc, .bool h.bh, .bool h.bl, .slice A n c]] w fun e w' => e = .returned (.bool r) ∧ Below w.heap.size w w' := by
  have HR := Lib.hid hr
  have HE := Lib.hid hE
  have hb00 := below1 w (.cells #[.int .i64 h.k, .int .i64 h.op, .int .i64 h.vk, .int .i64 h.vn, .string h.vt, .int .i64 h.ar, .int .i64 h.ac, .bool h.ah, .bool h.al, .int .i64 h.br, .int .i64 h.bc, .bool h.bh, .bool h.bl, .slice A n c] 28)
  have hX := CellsAt.new w [.int .i64 h.k, .int .i64 h.op, .int .i64 h.vk, .int .i64 h.vn, .string h.vt, .int .i64 h.ar, .int .i64 h.ac, .bool h.ah, .bool h.al, .int .i64 h.br, .int .i64 h.bc, .bool h.bh, .bool h.bl, .slice A n c] 28
  clear hr hE
  by_cases h1 : kd = 118
  · subst h1
    have HS := Lib.hid (fun w1 => single_c h A n c _ rfl w1)
    go_enter Tryd.func31, Tryd.ntmps31
    go_wp2_with fail
    refine (HS.out _).mono ?_
    rintro e w2 ⟨rfl, hb2⟩
    go_wp2_with fail
    go_ret
    exact ⟨ret_bool (by rw [← HR.out]; simp [takV, bne]), on hb00 hb2⟩
  have e1 : ((kd.toNat : Int) == 118) = false := kd_no (m := 118) (by decide) h1
  by_cases h2 : kd = 101
  · subst h2
    have HS := Lib.hid (fun w1 => single_c h A n c _ rfl w1)
    go_enter Tryd.func31, Tryd.ntmps31
    go_wp2_with fail
    refine (HS.out _).mono ?_
    rintro e w2 ⟨rfl, hb2⟩
    go_wp2_with fail
    go_ret
    exact ⟨ret_bool (by rw [← HR.out]; simp [takV, bne]), on hb00 hb2⟩
  have e2 : ((kd.toNat : Int) == 101) = false := kd_no (m := 101) (by decide) h2
  by_cases h34 : kd = 114 ∨ kd = 110
  · have e34 : ((kd.toNat : Int) == 114) = true ∨ (((kd.toNat : Int) == 114) = false ∧ ((kd.toNat : Int) == 110) = true) := by rcases h34 with rfl | rfl <;> simp
    have HV : Hid (takV kd h = (decide (2 ≤ h.k) && decide (h.k ≤ 4))) := Lib.hid (by unfold takV; rw [if_neg (by simp [h1, h2]), if_pos h34])
    clear h1 h2 h34
    by_cases k3 : h.k = 3
    · have d3 : (h.k == 3) = true := beq_iff_eq.2 k3
      have HL : Hid ((decide (2 ≤ h.k) && decide (h.k ≤ 4)) = true) := Lib.hid (by simp; omega)
      clear k3
      rcases e34 with e3 | ⟨e3, e4⟩ <;>
      · go_enter Tryd.func31, Tryd.ntmps31
        go_wp2_with fail
        go_ret
        exact ⟨ret_bool (by rw [← HR.out, HV.out, HL.out]), hb00⟩
    have d3 : (h.k == 3) = false := beq_eq_false_iff_ne.2 k3
    by_cases k4 : h.k = 4
    · have d4 : (h.k == 4) = true := beq_iff_eq.2 k4
      have HL : Hid ((decide (2 ≤ h.k) && decide (h.k ≤ 4)) = true) := Lib.hid (by simp; omega)
      clear k3 k4
      rcases e34 with e3 | ⟨e3, e4⟩ <;>
      · go_enter Tryd.func31, Tryd.ntmps31
        go_wp2_with fail
        go_ret
        exact ⟨ret_bool (by rw [← HR.out, HV.out, HL.out]), hb00⟩
    have d4 : (h.k == 4) = false := beq_eq_false_iff_ne.2 k4
    have HL : Hid ((decide (2 ≤ h.k) && decide (h.k ≤ 4)) = (h.k == 2)) := Lib.hid (by
      by_cases k2 : h.k = 2
      · rw [k2]; rfl
      · rw [beq_eq_false_iff_ne.2 k2]; simp; omega)
    clear k3 k4
    rcases e34 with e3 | ⟨e3, e4⟩ <;>
    · go_enter Tryd.func31, Tryd.ntmps31
      go_wp2_with fail
      go_ret
      exact ⟨ret_bool (by rw [← HR.out, HV.out, HL.out]), hb00⟩
  have e3 : ((kd.toNat : Int) == 114) = false := kd_no (m := 114) (by decide) fun e => h34 (.inl e)
  have e4 : ((kd.toNat : Int) == 110) = false := kd_no (m := 110) (by decide) fun e => h34 (.inr e)
  by_cases h5 : kd = 116
  · have e5 : ((kd.toNat : Int) == 116) = true := by rw [h5]; rfl
    have HV : Hid (takV kd h = ((h.k == 1) && ((h.vk == 2) && labB h.vt.data.toList))) := Lib.hid (by unfold takV; rw [if_neg (by simp [h1, h2]), if_neg h34, if_pos h5])
    have HP := Lib.hid (lparse_c h.vt hs (w.alloc (.cells #[.int .i64 h.k, .int .i64 h.op, .int .i64 h.vk, .int .i64 h.vn, .string h.vt, .int .i64 h.ar, .int .i64 h.ac, .bool h.ah, .bool h.al, .int .i64 h.br, .int .i64 h.bc, .bool h.bh, .bool h.bl, .slice A n c] 28)) (HE.out.grown (below1 _ _)))
    clear h1 h2 h34 h5 hs
    go_enter Tryd.func31, Tryd.ntmps31
    go_wp2_with fail
    refine HP.out.mono ?_
    rintro e w2 ⟨l, s, b, rfl, hl, hb2⟩
    have HB := Lib.hid (labB_is hl)
    have hb := on hb00 hb2
    have hX2 := hX.on hb2
    have lt2 := hX2.1
    have x0 := (hX2.2 0 _ rfl).1
    have x2 := (hX2.2 2 _ rfl).1
    clear hl hb2 hX hX2 HP
    cases k1 : (h.k == 1) with
    | false =>
      go_wp2_with fail
      go_ret
      exact ⟨ret_bool (by rw [← HR.out, HV.out, k1]; rfl), on_alloc hb _⟩
    | true =>
      cases k2 : (h.vk == 2) with
      | false =>
        go_wp2_with fail
        go_ret
        exact ⟨ret_bool (by rw [← HR.out, HV.out, k1, k2]; rfl), on_alloc hb _⟩
      | true =>
        go_wp2_with fail
        go_ret
        exact ⟨ret_bool (by rw [← HR.out, HV.out, k1, k2, HB.out]; rfl), on_alloc hb _⟩
  have e5 : ((kd.toNat : Int) == 116) = false := kd_no (m := 116) (by decide) h5
  have HV : Hid (takV kd h = true) := Lib.hid (by unfold takV; rw [if_neg (by simp [h1, h2]), if_neg h34, if_neg h5])
  clear h1 h2 h34 h5 hs
  go_enter Tryd.func31, Tryd.ntmps31
  go_wp2_with fail
  go_ret
  exact ⟨ret_bool (by rw [← HR.out, HV.out]), hb00⟩
end Go.Proofs.YtcgpggknmhlnkaaDoor.Nod
