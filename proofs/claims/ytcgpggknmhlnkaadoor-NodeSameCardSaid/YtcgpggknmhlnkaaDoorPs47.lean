/- The program's Same: are two trees the same? Written by wip/gen22same.py. -/
import Derived.Test.YtcgpggknmhlnkaaDoorPs44
import Derived.Test.YtcgpggknmhlnkaaDoorPs24
namespace Go.Proofs.YtcgpggknmhlnkaaDoor.Nod
open Go.RowKit Kit Reg
open Classical in
noncomputable def samB (x y : Nd) : Bool := decide (x = y)
open Classical in
noncomputable def foB (F G : Fo) : Bool := decide (F = G)
theorem samB_yes {x y : Nd} (h : x = y) : samB x y = true := by
  classical
  unfold samB
  exact decide_eq_true h
theorem samB_no {x y : Nd} (h : x ≠ y) : samB x y = false := by
  classical
  unfold samB
  exact decide_eq_false h
theorem samB_is {x y : Nd} (h : samB x y = true) : x = y := by
  classical
  unfold samB at h
  exact of_decide_eq_true h
theorem samB_not {x y : Nd} (h : samB x y = false) : x ≠ y := by
  classical
  unfold samB at h
  exact of_decide_eq_false h
theorem foB_yes {F G : Fo} (h : F = G) : foB F G = true := by
  classical
  unfold foB
  exact decide_eq_true h
theorem foB_no {F G : Fo} (h : F ≠ G) : foB F G = false := by
  classical
  unfold foB
  exact decide_eq_false h
theorem samB_fo (h : Hd) (F G : Fo) : samB (h, F) (h, G) = foB F G := by
  by_cases e : F = G
  · rw [foB_yes e, samB_yes (by rw [e])]
  · rw [foB_no e, samB_no (fun e2 => e (congrArg Prod.snd e2))]
theorem fo_ext {F G : Fo} (h : tops F = tops G) : F = G := by rw [← mk_tops F, ← mk_tops G, h]
theorem bytes_ext {s t : ByteArray} (h : s.toList = t.toList) : s = t := by
  rw [ByteArray.toList_eq, ByteArray.toList_eq] at h
  obtain ⟨⟨x⟩⟩ := s
  obtain ⟨⟨y⟩⟩ := t
  have e : x = y := h
  rw [e]
set_option maxRecDepth 100000 in
set_option maxHeartbeats 4000000 in
theorem equal_c (A : Option Addr) (n c : Nat) (F : Fo) (B : Option Addr) (m d : Nat) (G : Fo) (HC : ∀ x ∈ tops F, ∀ (y : Nd) (A : Option Addr) (n c : Nat) (A' : Option Addr) (n' c' : Nat) (w : World), KidsR w A n x.2 → KidsR w A' n' y.2 → Calls Tryd.prog 10 #[.agg #[.int .i64 x.1.k, .int .i64 x.1.op, .int .i64 x.1.vk, .int .i64 x.1.vn, .string x.1.vt, .int .i64 x.1.ar, .int .i64 x.1.ac, .bool x.1.ah, .bool x.1.al, .int .i64 x.1.br, .int .i64 x.1.bc, .bool x.1.bh, .bool x.1.bl, .slice A n c], .agg #[.int .i64 y.1.k, .int .i64 y.1.op, .int .i64 y.1.vk, .int .i64 y.1.vn, .string y.1.vt, .int .i64 y.1.ar, .int .i64 y.1.ac, .bool y.1.ah, .bool y.1.al, .int .i64 y.1.br, .int .i64 y.1.bc, .bool y.1.bh, .bool y.1.bl, .slice A' n' c']] w fun e w' => e = .returned (.bool (samB x y)) ∧ Below w.heap.size w w')
    (r : Bool) (hr : foB F G = r) (w : World) (hz : KidsR w A n F) (hy : KidsR w B m G) : Calls Tryd.prog 19 #[.slice A n c, .slice B m d, (.func (.func 10) #[] #[])] w fun e w' => e = .returned (.bool r) ∧ Below w.heap.size w w' := by
  have HR := Lib.hid hr
  have HZ := Lib.hid hz
  have HY := Lib.hid hy
  have HC := Lib.hid HC
  have HN := Lib.hid hz.1.1
  have HM := Lib.hid hy.1.1
  have hn : n ≤ 9223372036854775807 := by have := hz.1.2; unfold maxLen at this; omega
  have hm : m ≤ 9223372036854775807 := by have := hy.1.2; unfold maxLen at this; omega
  clear hz hy hr
  by_cases hnm : n = m
  · subst hnm
    go_enter Tryd.func19, Tryd.ntmps19
    go_wp2_with fail
    go_loopw [17] (fun x wr => ∃ i : Nat, i ≤ n ∧ x = .int .i64 i ∧ Hid ((tops F).take i = (tops G).take i) ∧ Below w.heap.size w wr) (fun x _ => n - (intOf x).toNat)
    case atStart => exact ⟨0, Nat.zero_le _, rfl, Lib.hid rfl, Below.refl _ _⟩
    case round =>
      obtain ⟨i, hi, rfl, HA, hb⟩ := hrel
      by_cases hlt : i < n
      · obtain ⟨x, hx⟩ := HZ.out.get hlt
        obtain ⟨b, o, rfl, hblt, hcell, B1, m1, c1, y13, hk⟩ := (HZ.out.on hb).at hx
        obtain ⟨y, hy⟩ := HY.out.get hlt
        obtain ⟨b2, o2, rfl, hblt2, hcell2, B2, m2, c2, z13, hk2⟩ := (HY.out.on hb).at hy
        have y0 : wr.cell? ⟨b, o + i * 14, none⟩ = some (.int .i64 x.1.k) := hcell 0 _ rfl
        have y1 := hcell 1 _ rfl
        have y2 := hcell 2 _ rfl
        have y3 := hcell 3 _ rfl
        have y4 := hcell 4 _ rfl
        have y5 := hcell 5 _ rfl
        have y6 := hcell 6 _ rfl
        have y7 := hcell 7 _ rfl
        have y8 := hcell 8 _ rfl
        have y9 := hcell 9 _ rfl
        have y10 := hcell 10 _ rfl
        have y11 := hcell 11 _ rfl
        have y12 := hcell 12 _ rfl
        have z0 : wr.cell? ⟨b2, o2 + i * 14, none⟩ = some (.int .i64 y.1.k) := hcell2 0 _ rfl
        have z1 := hcell2 1 _ rfl
        have z2 := hcell2 2 _ rfl
        have z3 := hcell2 3 _ rfl
        have z4 := hcell2 4 _ rfl
        have z5 := hcell2 5 _ rfl
        have z6 := hcell2 6 _ rfl
        have z7 := hcell2 7 _ rfl
        have z8 := hcell2 8 _ rfl
        have z9 := hcell2 9 _ rfl
        have z10 := hcell2 10 _ rfl
        have z11 := hcell2 11 _ rfl
        have z12 := hcell2 12 _ rfl
        have HXX := Lib.hid hx
        have HYY := Lib.hid hy
        have HH := Lib.hid (fun w1 (hw : Below wr.heap.size wr w1) => HC.out x (List.mem_of_getElem? hx) y B1 m1 c1 B2 m2 c2 w1 (hk.on hw) (hk2.on hw))
        clear hx hy hcell hcell2 hk hk2
        cases hv : samB x y with
        | true =>
          rw [hv] at HH
          have HN2 : Hid ((tops F).take (i + 1) = (tops G).take (i + 1)) := Lib.hid (by rw [take_snoc HXX.out, take_snoc HYY.out, HA.out, samB_is hv])
          clear hv
          go_wp2_with fail
          refine (HH.out _ (below2 _ _ _)).mono ?_
          rintro e w2 ⟨rfl, hb2⟩
          replace hb := on (on_alloc (on_alloc hb _) _) hb2
          go_wp2_with fail
          go_roundw
          case rel => exact ⟨i + 1, by omega, by go_num, HN2, hb⟩
          case measure => simp [intOf]; omega
        | false =>
          rw [hv] at HH
          have H0 : Hid (r = false) := Lib.hid (by
            rw [← HR.out]
            refine foB_no fun e => samB_not hv ?_
            have h1 := HXX.out
            rw [e, HYY.out] at h1
            exact (Option.some.inj h1).symm)
          clear hv
          go_wp2_with fail
          refine (HH.out _ (below2 _ _ _)).mono ?_
          rintro e w2 ⟨rfl, hb2⟩
          replace hb := on (on_alloc (on_alloc hb _) _) hb2
          go_wp2_with fail
          go_ret
          exact ⟨ret_bool H0.out.symm, hb⟩
      · obtain rfl : n = i := by omega
        have H0 : Hid (true = r) := Lib.hid (by
          rw [← HR.out]
          refine (foB_yes (fo_ext ?_)).symm
          have h1 := HA.out
          rw [List.take_of_length_le (by have := HN.out; unfold arity at this; omega), List.take_of_length_le (by have := HM.out; unfold arity at this; omega)] at h1
          exact h1)
        go_wp2_with fail
        go_ret
        exact ⟨ret_bool H0.out, hb⟩
  · have d0 : ((n : Int) != (m : Int)) = true := by simp; omega
    have H0 : Hid (r = false) := Lib.hid (by
      rw [← HR.out]
      exact foB_no fun e => hnm (by rw [← HN.out, ← HM.out, e]))
    clear hnm
    go_enter Tryd.func19, Tryd.ntmps19
    go_wp2_with fail
    go_ret
    exact ⟨ret_bool H0.out.symm, Below.refl _ _⟩
set_option maxRecDepth 100000 in
set_option maxHeartbeats 4000000 in
theorem same_step (h : Hd) (A : Option Addr) (n c : Nat) (F : Fo) (g : Hd) (B : Option Addr) (m d : Nat) (G : Fo) (HC : ∀ x ∈ tops F, ∀ (y : Nd) (A : Option Addr) (n c : Nat) (A' : Option Addr) (n' c' : Nat) (w : World), KidsR w A n x.2 → KidsR w A' n' y.2 → Calls Tryd.prog 10 #[.agg #[.int .i64 x.1.k, .int .i64 x.1.op, .int .i64 x.1.vk, .int .i64 x.1.vn, .string x.1.vt, .int .i64 x.1.ar, .int .i64 x.1.ac, .bool x.1.ah, .bool x.1.al, .int .i64 x.1.br, .int .i64 x.1.bc, .bool x.1.bh, .bool x.1.bl, .slice A n c], .agg #[.int .i64 y.1.k, .int .i64 y.1.op, .int .i64 y.1.vk, .int .i64 y.1.vn, .string y.1.vt, .int .i64 y.1.ar, .int .i64 y.1.ac, .bool y.1.ah, .bool y.1.al, .int .i64 y.1.br, .int .i64 y.1.bc, .bool y.1.bh, .bool y.1.bl, .slice A' n' c']] w fun e w' => e = .returned (.bool (samB x y)) ∧ Below w.heap.size w w')
    (r : Bool) (hr : samB (h, F) (g, G) = r) (w : World) (hz : KidsR w A n F) (hy : KidsR w B m G) : Calls Tryd.prog 10 #[.agg #[.int .i64 h.k, .int .i64 h.op, .int .i64 h.vk, .int .i64 h.vn, .string h.vt, .int .i64 h.ar, .int .i64 h.ac, .bool h.ah, .bool h.al, .int .i64 h.br, .int .i64 h.bc, .bool h.bh, .bool h.bl, .slice A n c], .agg #[.int .i64 g.k, .int .i64 g.op, .int .i64 g.vk, .int .i64 g.vn, .string g.vt, .int .i64 g.ar, .int .i64 g.ac, .bool g.ah, .bool g.al, .int .i64 g.br, .int .i64 g.bc, .bool g.bh, .bool g.bl, .slice B m d]] w fun e w' => e = .returned (.bool r) ∧ Below w.heap.size w w' := by
  have HR := Lib.hid hr
  have HQ := Lib.hid (fun w1 (hw : Below w.heap.size w w1) => equal_c A n c F B m d G HC _ rfl w1 (hz.on hw) (hy.on hw))
  have HB := Lib.hid (below2 w (.cells #[.int .i64 h.k, .int .i64 h.op, .int .i64 h.vk, .int .i64 h.vn, .string h.vt, .int .i64 h.ar, .int .i64 h.ac, .bool h.ah, .bool h.al, .int .i64 h.br, .int .i64 h.bc, .bool h.bh, .bool h.bl, .slice A n c] 28) (.cells #[.int .i64 g.k, .int .i64 g.op, .int .i64 g.vk, .int .i64 g.vn, .string g.vt, .int .i64 g.ar, .int .i64 g.ac, .bool g.ah, .bool g.al, .int .i64 g.br, .int .i64 g.bc, .bool g.bh, .bool g.bl, .slice B m d] 28))
  clear hr hz hy HC
  have qV := run_neqV h.vk h.vn h.vt g.vk g.vn g.vt _ rfl
  have qA := run_neqF h.ar h.ac h.ah h.al g.ar g.ac g.ah g.al _ rfl
  have qB := run_neqF h.br h.bc h.bh h.bl g.br g.bc g.bh g.bl _ rfl
  rcases Bool.eq_false_or_eq_true (h.k != g.k) with d0 | d0
  ·
    have H0 : Hid (r = false) := Lib.hid (by
      rw [← HR.out]
      refine samB_no fun e => ?_
      have e1 : h = g := congrArg Prod.fst e
      rw [e1] at d0
      simp at d0)
    go_enter Tryd.func10, Tryd.ntmps10
    go_wp2_with fail
    go_ret
    exact ⟨ret_bool H0.out.symm, HB.out⟩
  ·
    rcases Bool.eq_false_or_eq_true (h.op != g.op) with d1 | d1
    ·
      have H0 : Hid (r = false) := Lib.hid (by
        rw [← HR.out]
        refine samB_no fun e => ?_
        have e1 : h = g := congrArg Prod.fst e
        rw [e1] at d1
        simp at d1)
      go_enter Tryd.func10, Tryd.ntmps10
      go_wp2_with fail
      go_ret
      exact ⟨ret_bool H0.out.symm, HB.out⟩
    ·
      rcases Bool.eq_false_or_eq_true (h.vk == g.vk && (h.vn == g.vn && h.vt.toList == g.vt.toList)) with d2 | d2
      ·
        rw [d2] at qV
        rcases Bool.eq_false_or_eq_true (h.ar == g.ar && (h.ac == g.ac && (h.ah == g.ah && h.al == g.al))) with d3 | d3
        ·
          rw [d3] at qA
          rcases Bool.eq_false_or_eq_true (h.br == g.br && (h.bc == g.bc && (h.bh == g.bh && h.bl == g.bl))) with d4 | d4
          ·
            rw [d4] at qB
            have eh : h = g := by
              clear qV qA qB
              simp only [bne_eq_false_iff_eq, Bool.and_eq_true, beq_iff_eq] at d0 d1 d2 d3 d4
              have e5 : h.vt = g.vt := bytes_ext d2.2.2
              obtain ⟨⟩ := h
              obtain ⟨⟩ := g
              simp_all
            have H0 : Hid (r = foB F G) := Lib.hid (by rw [← HR.out, eh]; exact samB_fo g F G)
            clear eh d2 d3 d4
            go_enter Tryd.func10, Tryd.ntmps10
            go_wp2_with fail
            refine (HQ.out _ HB.out).mono ?_
            rintro e w2 ⟨rfl, hb2⟩
            go_wp2_with fail
            go_ret
            exact ⟨ret_bool H0.out.symm, on HB.out hb2⟩
          ·
            rw [d4] at qB
            have H0 : Hid (r = false) := Lib.hid (by
              rw [← HR.out]
              refine samB_no fun e => ?_
              have e1 : h = g := congrArg Prod.fst e
              rw [e1] at d4
              simp at d4)
            go_enter Tryd.func10, Tryd.ntmps10
            go_wp2_with fail
            go_ret
            exact ⟨ret_bool H0.out.symm, HB.out⟩
        ·
          rw [d3] at qA
          have H0 : Hid (r = false) := Lib.hid (by
            rw [← HR.out]
            refine samB_no fun e => ?_
            have e1 : h = g := congrArg Prod.fst e
            rw [e1] at d3
            simp at d3)
          go_enter Tryd.func10, Tryd.ntmps10
          go_wp2_with fail
          go_ret
          exact ⟨ret_bool H0.out.symm, HB.out⟩
      ·
        rw [d2] at qV
        have H0 : Hid (r = false) := Lib.hid (by
          rw [← HR.out]
          refine samB_no fun e => ?_
          have e1 : h = g := congrArg Prod.fst e
          rw [e1] at d2
          simp at d2)
        go_enter Tryd.func10, Tryd.ntmps10
        go_wp2_with fail
        go_ret
        exact ⟨ret_bool H0.out.symm, HB.out⟩
theorem same_c : ∀ (N : Nat) (x : Nd) (A : Option Addr) (n c : Nat) (y : Nd) (B : Option Addr) (m d : Nat) (w : World), count x.2 ≤ N → KidsR w A n x.2 → KidsR w B m y.2 → Calls Tryd.prog 10 #[.agg #[.int .i64 x.1.k, .int .i64 x.1.op, .int .i64 x.1.vk, .int .i64 x.1.vn, .string x.1.vt, .int .i64 x.1.ar, .int .i64 x.1.ac, .bool x.1.ah, .bool x.1.al, .int .i64 x.1.br, .int .i64 x.1.bc, .bool x.1.bh, .bool x.1.bl, .slice A n c], .agg #[.int .i64 y.1.k, .int .i64 y.1.op, .int .i64 y.1.vk, .int .i64 y.1.vn, .string y.1.vt, .int .i64 y.1.ar, .int .i64 y.1.ac, .bool y.1.ah, .bool y.1.al, .int .i64 y.1.br, .int .i64 y.1.bc, .bool y.1.bh, .bool y.1.bl, .slice B m d]] w fun e w' => e = .returned (.bool (samB x y)) ∧ Below w.heap.size w w'
  | 0, x, A, n, c, y, B, m, d, w, hN, hz, hy => same_step x.1 A n c x.2 y.1 B m d y.2 (fun z hz => absurd (top_count hz) (by omega)) _ rfl w hz hy
  | N + 1, x, A, n, c, y, B, m, d, w, hN, hz, hy => same_step x.1 A n c x.2 y.1 B m d y.2 (fun z hz' t A' n' c' B' m' d' w' h1 h2 => same_c N z A' n' c' t B' m' d' w' (by have := top_count hz'; omega) h1 h2) _ rfl w hz hy
end Go.Proofs.YtcgpggknmhlnkaaDoor.Nod
