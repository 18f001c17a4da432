/- NodeSame: whether two trees are the same is as the document says. Written by wip/gen22law.py. -/
import Derived.Test.YtcgpggknmhlnkaaDoorPs48
import Derived.Test.YtcgpggknmhlnkaaDoorPs41
import Derived.Test.YtcgpggknmhlnkaaDoorPs49
namespace Go.Proofs.YtcgpggknmhlnkaaDoor.Nod
open Go.RowKit Kit Reg
open Go.Proofs.YtcgpggknmhlnkaaDoor.Cats (Errs)
set_option maxRecDepth 100000 in
set_option maxHeartbeats 8000000 in
theorem few_c (h : Hd) (A : Option Addr) (n c : Nat) (F : Fo) (r : Bool) (hr : decide (1 + count F ≤ 200) = r) (w : World) (hz : KidsR w A n F) : Calls Tryd.prog 5 #[.agg #[.int .i64 h.k, .int .i64 h.op, .int .i64 h.vk, .int .i64 h.vn, .string h.vt, .int .i64 h.ar, .int .i64 h.ac, .bool h.ah, .bool h.al, .int .i64 h.br, .int .i64 h.bc, .bool h.bh, .bool h.bl, .slice A n c], .int .i64 200] w fun e w' => e = .returned (.bool r) ∧ Below w.heap.size w w' := by
  have HH := Lib.hid (fun w1 (hw : Below w.heap.size w w1) => rfew_c h A n c F 200 (by decide) r hr w1 (hz.on hw))
  have hb0 := below1 w (.cells #[.int .i64 h.k, .int .i64 h.op, .int .i64 h.vk, .int .i64 h.vn, .string h.vt, .int .i64 h.ar, .int .i64 h.ac, .bool h.ah, .bool h.al, .int .i64 h.br, .int .i64 h.bc, .bool h.bh, .bool h.bl, .slice A n c] 28)
  clear hr hz
  go_enter Tryd.func5, Tryd.ntmps5
  go_wp2_with fail
  refine (HH.out _ hb0).mono ?_
  rintro e w2 ⟨rfl, hb2⟩
  go_wp2_with fail
  go_ret
  exact ⟨rfl, on hb0 hb2⟩

theorem samB_comm (x y : Nd) : samB x y = samB y x := by
  by_cases e : x = y
  · rw [samB_yes e, samB_yes e.symm]
  · rw [samB_no e, samB_no fun e2 => e e2.symm]
set_option maxRecDepth 100000 in
set_option maxHeartbeats 8000000 in
theorem same_few1 (h : Hd) (A : Option Addr) (n c : Nat) (F : Fo) (g : Hd) (B : Option Addr) (m d : Nat) (G : Fo) (f1 : decide (1 + count F ≤ 200) = false) (w : World) (hz : KidsR w A n F) (hy : KidsR w B m G) (hE : Errs w) : Calls Tryd.prog 4 #[.agg #[.int .i64 h.k, .int .i64 h.op, .int .i64 h.vk, .int .i64 h.vn, .string h.vt, .int .i64 h.ar, .int .i64 h.ac, .bool h.ah, .bool h.al, .int .i64 h.br, .int .i64 h.bc, .bool h.bh, .bool h.bl, .slice A n c], .agg #[.int .i64 g.k, .int .i64 g.op, .int .i64 g.vk, .int .i64 g.vn, .string g.vt, .int .i64 g.ar, .int .i64 g.ac, .bool g.ah, .bool g.al, .int .i64 g.br, .int .i64 g.bc, .bool g.bh, .bool g.bl, .slice B m d]] w fun e w' => e = .returned (.bool true) ∧ Below w.heap.size w w' := by
  have HE := Lib.hid hE
  have HZ := Lib.hid hz
  have HY := Lib.hid hy
  have hb0 := below2 w (.cells #[.int .i64 h.k, .int .i64 h.op, .int .i64 h.vk, .int .i64 h.vn, .string h.vt, .int .i64 h.ar, .int .i64 h.ac, .bool h.ah, .bool h.al, .int .i64 h.br, .int .i64 h.bc, .bool h.bh, .bool h.bl, .slice A n c] 28) (.cells #[.int .i64 g.k, .int .i64 g.op, .int .i64 g.vk, .int .i64 g.vn, .string g.vt, .int .i64 g.ar, .int .i64 g.ac, .bool g.ah, .bool g.al, .int .i64 g.br, .int .i64 g.bc, .bool g.bh, .bool g.bl, .slice B m d] 28)
  have HB := Lib.hid hb0
  clear hE hz hy
  have hX := (CellsAt.new w [.int .i64 h.k, .int .i64 h.op, .int .i64 h.vk, .int .i64 h.vn, .string h.vt, .int .i64 h.ar, .int .i64 h.ac, .bool h.ah, .bool h.al, .int .i64 h.br, .int .i64 h.bc, .bool h.bh, .bool h.bl, .slice A n c] 28).on_alloc (.cells #[.int .i64 g.k, .int .i64 g.op, .int .i64 g.vk, .int .i64 g.vn, .string g.vt, .int .i64 g.ar, .int .i64 g.ac, .bool g.ah, .bool g.al, .int .i64 g.br, .int .i64 g.bc, .bool g.bh, .bool g.bl, .slice B m d] 28)
  have hY := CellsAt.new (w.alloc (.cells #[.int .i64 h.k, .int .i64 h.op, .int .i64 h.vk, .int .i64 h.vn, .string h.vt, .int .i64 h.ar, .int .i64 h.ac, .bool h.ah, .bool h.al, .int .i64 h.br, .int .i64 h.bc, .bool h.bh, .bool h.bl, .slice A n c] 28)) [.int .i64 g.k, .int .i64 g.op, .int .i64 g.vk, .int .i64 g.vn, .string g.vt, .int .i64 g.ar, .int .i64 g.ac, .bool g.ah, .bool g.al, .int .i64 g.br, .int .i64 g.bc, .bool g.bh, .bool g.bl, .slice B m d] 28
  rw [show (w.alloc (.cells #[.int .i64 h.k, .int .i64 h.op, .int .i64 h.vk, .int .i64 h.vn, .string h.vt, .int .i64 h.ar, .int .i64 h.ac, .bool h.ah, .bool h.al, .int .i64 h.br, .int .i64 h.bc, .bool h.bh, .bool h.bl, .slice A n c] 28)).heap.size = w.heap.size + 1 from by simp] at hY
  have HF := Lib.hid f1
  clear f1
  go_enter Tryd.func4, Tryd.ntmps4
  go_wp2_with fail
  refine (few_c h A n c F false HF.out _ (HZ.out.on HB.out)).mono ?_
  rintro e w2 ⟨rfl, hb2⟩
  replace HB := Lib.hid (on HB.out hb2)
  clear hb0 hb2 hX hY
  go_wp2_with fail
  refine (alive_c _ (HE.out.grown HB.out)).mono ?_
  rintro e w3 ⟨rfl, hb3⟩
  go_wp2_with fail
  go_ret
  exact ⟨rfl, on HB.out hb3⟩
set_option maxRecDepth 100000 in
set_option maxHeartbeats 8000000 in
theorem same_few2 (h : Hd) (A : Option Addr) (n c : Nat) (F : Fo) (g : Hd) (B : Option Addr) (m d : Nat) (G : Fo) (f1 : decide (1 + count F ≤ 200) = true) (f2 : decide (1 + count G ≤ 200) = false) (w : World) (hz : KidsR w A n F) (hy : KidsR w B m G) (hE : Errs w) : Calls Tryd.prog 4 #[.agg #[.int .i64 h.k, .int .i64 h.op, .int .i64 h.vk, .int .i64 h.vn, .string h.vt, .int .i64 h.ar, .int .i64 h.ac, .bool h.ah, .bool h.al, .int .i64 h.br, .int .i64 h.bc, .bool h.bh, .bool h.bl, .slice A n c], .agg #[.int .i64 g.k, .int .i64 g.op, .int .i64 g.vk, .int .i64 g.vn, .string g.vt, .int .i64 g.ar, .int .i64 g.ac, .bool g.ah, .bool g.al, .int .i64 g.br, .int .i64 g.bc, .bool g.bh, .bool g.bl, .slice B m d]] w fun e w' => e = .returned (.bool true) ∧ Below w.heap.size w w' := by
  have HE := Lib.hid hE
  have HZ := Lib.hid hz
  have HY := Lib.hid hy
  have hb0 := below2 w (.cells #[.int .i64 h.k, .int .i64 h.op, .int .i64 h.vk, .int .i64 h.vn, .string h.vt, .int .i64 h.ar, .int .i64 h.ac, .bool h.ah, .bool h.al, .int .i64 h.br, .int .i64 h.bc, .bool h.bh, .bool h.bl, .slice A n c] 28) (.cells #[.int .i64 g.k, .int .i64 g.op, .int .i64 g.vk, .int .i64 g.vn, .string g.vt, .int .i64 g.ar, .int .i64 g.ac, .bool g.ah, .bool g.al, .int .i64 g.br, .int .i64 g.bc, .bool g.bh, .bool g.bl, .slice B m d] 28)
  have HB := Lib.hid hb0
  clear hE hz hy
  have hX := (CellsAt.new w [.int .i64 h.k, .int .i64 h.op, .int .i64 h.vk, .int .i64 h.vn, .string h.vt, .int .i64 h.ar, .int .i64 h.ac, .bool h.ah, .bool h.al, .int .i64 h.br, .int .i64 h.bc, .bool h.bh, .bool h.bl, .slice A n c] 28).on_alloc (.cells #[.int .i64 g.k, .int .i64 g.op, .int .i64 g.vk, .int .i64 g.vn, .string g.vt, .int .i64 g.ar, .int .i64 g.ac, .bool g.ah, .bool g.al, .int .i64 g.br, .int .i64 g.bc, .bool g.bh, .bool g.bl, .slice B m d] 28)
  have hY := CellsAt.new (w.alloc (.cells #[.int .i64 h.k, .int .i64 h.op, .int .i64 h.vk, .int .i64 h.vn, .string h.vt, .int .i64 h.ar, .int .i64 h.ac, .bool h.ah, .bool h.al, .int .i64 h.br, .int .i64 h.bc, .bool h.bh, .bool h.bl, .slice A n c] 28)) [.int .i64 g.k, .int .i64 g.op, .int .i64 g.vk, .int .i64 g.vn, .string g.vt, .int .i64 g.ar, .int .i64 g.ac, .bool g.ah, .bool g.al, .int .i64 g.br, .int .i64 g.bc, .bool g.bh, .bool g.bl, .slice B m d] 28
  rw [show (w.alloc (.cells #[.int .i64 h.k, .int .i64 h.op, .int .i64 h.vk, .int .i64 h.vn, .string h.vt, .int .i64 h.ar, .int .i64 h.ac, .bool h.ah, .bool h.al, .int .i64 h.br, .int .i64 h.bc, .bool h.bh, .bool h.bl, .slice A n c] 28)).heap.size = w.heap.size + 1 from by simp] at hY
  have HF := Lib.hid f1
  have HG := Lib.hid f2
  clear f1 f2
  go_enter Tryd.func4, Tryd.ntmps4
  go_wp2_with fail
  refine (few_c h A n c F true HF.out _ (HZ.out.on HB.out)).mono ?_
  rintro e w2 ⟨rfl, hb2⟩
  replace HB := Lib.hid (on HB.out hb2)
  replace hX := hX.on hb2
  replace hY := hY.on hb2
  have y0 := (hY.2 0 _ rfl).1
  have y1 := (hY.2 1 _ rfl).1
  have y2 := (hY.2 2 _ rfl).1
  have y3 := (hY.2 3 _ rfl).1
  have y4 := (hY.2 4 _ rfl).1
  have y5 := (hY.2 5 _ rfl).1
  have y6 := (hY.2 6 _ rfl).1
  have y7 := (hY.2 7 _ rfl).1
  have y8 := (hY.2 8 _ rfl).1
  have y9 := (hY.2 9 _ rfl).1
  have y10 := (hY.2 10 _ rfl).1
  have y11 := (hY.2 11 _ rfl).1
  have y12 := (hY.2 12 _ rfl).1
  have y13 := (hY.2 13 _ rfl).1
  clear hb2 hb0
  go_wp2_with fail
  refine (few_c g B m d G false HG.out _ (HY.out.on HB.out)).mono ?_
  rintro e w4 ⟨rfl, hb2⟩
  replace HB := Lib.hid (on HB.out hb2)
  clear hX hY y0 y1 y2 y3 y4 y5 y6 y7 y8 y9 y10 y11 y12 y13 hb2
  go_wp2_with fail
  refine (alive_c _ (HE.out.grown HB.out)).mono ?_
  rintro e w3 ⟨rfl, hb3⟩
  go_wp2_with fail
  go_ret
  exact ⟨rfl, on HB.out hb3⟩
set_option maxRecDepth 100000 in
set_option maxHeartbeats 8000000 in
theorem same_yes (h : Hd) (A : Option Addr) (n c : Nat) (F : Fo) (g : Hd) (B : Option Addr) (m d : Nat) (G : Fo) (f1 : decide (1 + count F ≤ 200) = true) (f2 : decide (1 + count G ≤ 200) = true) (hv : samB (h, F) (g, G) = true) (w : World) (hz : KidsR w A n F) (hy : KidsR w B m G) (hE : Errs w) : Calls Tryd.prog 4 #[.agg #[.int .i64 h.k, .int .i64 h.op, .int .i64 h.vk, .int .i64 h.vn, .string h.vt, .int .i64 h.ar, .int .i64 h.ac, .bool h.ah, .bool h.al, .int .i64 h.br, .int .i64 h.bc, .bool h.bh, .bool h.bl, .slice A n c], .agg #[.int .i64 g.k, .int .i64 g.op, .int .i64 g.vk, .int .i64 g.vn, .string g.vt, .int .i64 g.ar, .int .i64 g.ac, .bool g.ah, .bool g.al, .int .i64 g.br, .int .i64 g.bc, .bool g.bh, .bool g.bl, .slice B m d]] w fun e w' => e = .returned (.bool true) ∧ Below w.heap.size w w' := by
  have HE := Lib.hid hE
  have HZ := Lib.hid hz
  have HY := Lib.hid hy
  have hb0 := below2 w (.cells #[.int .i64 h.k, .int .i64 h.op, .int .i64 h.vk, .int .i64 h.vn, .string h.vt, .int .i64 h.ar, .int .i64 h.ac, .bool h.ah, .bool h.al, .int .i64 h.br, .int .i64 h.bc, .bool h.bh, .bool h.bl, .slice A n c] 28) (.cells #[.int .i64 g.k, .int .i64 g.op, .int .i64 g.vk, .int .i64 g.vn, .string g.vt, .int .i64 g.ar, .int .i64 g.ac, .bool g.ah, .bool g.al, .int .i64 g.br, .int .i64 g.bc, .bool g.bh, .bool g.bl, .slice B m d] 28)
  have HB := Lib.hid hb0
  clear hE hz hy
  have hX := (CellsAt.new w [.int .i64 h.k, .int .i64 h.op, .int .i64 h.vk, .int .i64 h.vn, .string h.vt, .int .i64 h.ar, .int .i64 h.ac, .bool h.ah, .bool h.al, .int .i64 h.br, .int .i64 h.bc, .bool h.bh, .bool h.bl, .slice A n c] 28).on_alloc (.cells #[.int .i64 g.k, .int .i64 g.op, .int .i64 g.vk, .int .i64 g.vn, .string g.vt, .int .i64 g.ar, .int .i64 g.ac, .bool g.ah, .bool g.al, .int .i64 g.br, .int .i64 g.bc, .bool g.bh, .bool g.bl, .slice B m d] 28)
  have hY := CellsAt.new (w.alloc (.cells #[.int .i64 h.k, .int .i64 h.op, .int .i64 h.vk, .int .i64 h.vn, .string h.vt, .int .i64 h.ar, .int .i64 h.ac, .bool h.ah, .bool h.al, .int .i64 h.br, .int .i64 h.bc, .bool h.bh, .bool h.bl, .slice A n c] 28)) [.int .i64 g.k, .int .i64 g.op, .int .i64 g.vk, .int .i64 g.vn, .string g.vt, .int .i64 g.ar, .int .i64 g.ac, .bool g.ah, .bool g.al, .int .i64 g.br, .int .i64 g.bc, .bool g.bh, .bool g.bl, .slice B m d] 28
  rw [show (w.alloc (.cells #[.int .i64 h.k, .int .i64 h.op, .int .i64 h.vk, .int .i64 h.vn, .string h.vt, .int .i64 h.ar, .int .i64 h.ac, .bool h.ah, .bool h.al, .int .i64 h.br, .int .i64 h.bc, .bool h.bh, .bool h.bl, .slice A n c] 28)).heap.size = w.heap.size + 1 from by simp] at hY
  have hF : count F ≤ 199 := by have := of_decide_eq_true f1; omega
  have HF := Lib.hid f1
  have hG : count G ≤ 199 := by have := of_decide_eq_true f2; omega
  have HG := Lib.hid f2
  clear f1 f2
  have H1 := Lib.hid (fun w1 (hw : Below w.heap.size w w1) => rsame_c h A n c F g B m d G (by omega) (by omega) true hv w1 (HZ.out.on hw) (HY.out.on hw))
  have H2 := Lib.hid (fun w1 (hw : Below w.heap.size w w1) => (same_c (count F) (h, F) A n c (h, F) A n c w1 (Nat.le_refl _) (HZ.out.on hw) (HZ.out.on hw)).mono fun e w2 h2 => (⟨h2.1.trans (ret_bool (samB_yes rfl)), h2.2⟩ : e = .returned (.bool true) ∧ Below w1.heap.size w1 w2))
  have H3 := Lib.hid (fun w1 (hw : Below w.heap.size w w1) => (same_c (count G) (g, G) B m d (h, F) A n c w1 (Nat.le_refl _) (HY.out.on hw) (HZ.out.on hw)).mono fun e w2 h2 => (⟨h2.1.trans (ret_bool ((samB_comm _ _).trans hv)), h2.2⟩ : e = .returned (.bool true) ∧ Below w1.heap.size w1 w2))
  have H0 := Lib.hid (fun w1 (hw : Below w.heap.size w w1) => (same_c (count F) (h, F) A n c (g, G) B m d w1 (Nat.le_refl _) (HZ.out.on hw) (HY.out.on hw)).mono fun e w2 h2 => (⟨h2.1.trans (ret_bool hv), h2.2⟩ : e = .returned (.bool true) ∧ Below w1.heap.size w1 w2))
  have hq : 1 + count F = 1 + count G := by rw [show F = G from congrArg Prod.snd (samB_is hv)]
  have H4 := Lib.hid (fun w1 (hw : Below w.heap.size w w1) => count_c (count F) h A n c F (by omega) (Nat.le_refl _) w1 (HZ.out.on hw))
  have H5 := Lib.hid (fun w1 (hw : Below w.heap.size w w1) => count_c (count G) g B m d G (by omega) (Nat.le_refl _) w1 (HY.out.on hw))
  rw [← hq] at H5
  have hq2 : 1 + count F ≤ 200 := by omega
  generalize hqq : 1 + count F = q at H4 H5 hq2
  clear hv hq hqq hF hG
  go_enter Tryd.func4, Tryd.ntmps4
  go_wp2_with fail
  refine (few_c h A n c F true HF.out _ (HZ.out.on HB.out)).mono ?_
  rintro e w2 ⟨rfl, hb2⟩
  replace HB := Lib.hid (on HB.out hb2)
  replace hX := hX.on hb2
  replace hY := hY.on hb2
  have y0 := (hY.2 0 _ rfl).1
  have y1 := (hY.2 1 _ rfl).1
  have y2 := (hY.2 2 _ rfl).1
  have y3 := (hY.2 3 _ rfl).1
  have y4 := (hY.2 4 _ rfl).1
  have y5 := (hY.2 5 _ rfl).1
  have y6 := (hY.2 6 _ rfl).1
  have y7 := (hY.2 7 _ rfl).1
  have y8 := (hY.2 8 _ rfl).1
  have y9 := (hY.2 9 _ rfl).1
  have y10 := (hY.2 10 _ rfl).1
  have y11 := (hY.2 11 _ rfl).1
  have y12 := (hY.2 12 _ rfl).1
  have y13 := (hY.2 13 _ rfl).1
  clear hb2 hb0
  go_wp2_with fail
  refine (few_c g B m d G true HG.out _ (HY.out.on HB.out)).mono ?_
  rintro e w4 ⟨rfl, hb2⟩
  replace HB := Lib.hid (on HB.out hb2)
  replace hX := hX.on hb2
  replace hY := hY.on hb2
  clear y0 y1 y2 y3 y4 y5 y6 y7 y8 y9 y10 y11 y12 y13
  have x0 := (hX.2 0 _ rfl).1
  have y0 := (hY.2 0 _ rfl).1
  have x1 := (hX.2 1 _ rfl).1
  have y1 := (hY.2 1 _ rfl).1
  have x2 := (hX.2 2 _ rfl).1
  have y2 := (hY.2 2 _ rfl).1
  have x3 := (hX.2 3 _ rfl).1
  have y3 := (hY.2 3 _ rfl).1
  have x4 := (hX.2 4 _ rfl).1
  have y4 := (hY.2 4 _ rfl).1
  have x5 := (hX.2 5 _ rfl).1
  have y5 := (hY.2 5 _ rfl).1
  have x6 := (hX.2 6 _ rfl).1
  have y6 := (hY.2 6 _ rfl).1
  have x7 := (hX.2 7 _ rfl).1
  have y7 := (hY.2 7 _ rfl).1
  have x8 := (hX.2 8 _ rfl).1
  have y8 := (hY.2 8 _ rfl).1
  have x9 := (hX.2 9 _ rfl).1
  have y9 := (hY.2 9 _ rfl).1
  have x10 := (hX.2 10 _ rfl).1
  have y10 := (hY.2 10 _ rfl).1
  have x11 := (hX.2 11 _ rfl).1
  have y11 := (hY.2 11 _ rfl).1
  have x12 := (hX.2 12 _ rfl).1
  have y12 := (hY.2 12 _ rfl).1
  have x13 := (hX.2 13 _ rfl).1
  have y13 := (hY.2 13 _ rfl).1
  clear hb2
  go_wp2_with fail
  refine (H0.out _ HB.out).mono ?_
  rintro e w5 ⟨rfl, hb2⟩
  replace HB := Lib.hid (on HB.out hb2)
  replace hX := hX.on hb2
  replace hY := hY.on hb2
  clear hb2 x0 y0 x1 y1 x2 y2 x3 y3 x4 y4 x5 y5 x6 y6 x7 y7 x8 y8 x9 y9 x10 y10 x11 y11 x12 y12 x13 y13
  go_wp2_with fail
  have X0 := fun d os => cell_regrown (hX.2 0 _ rfl).1 d os
  have X1 := fun d os => cell_regrown (hX.2 1 _ rfl).1 d os
  have X2 := fun d os => cell_regrown (hX.2 2 _ rfl).1 d os
  have X3 := fun d os => cell_regrown (hX.2 3 _ rfl).1 d os
  have X4 := fun d os => cell_regrown (hX.2 4 _ rfl).1 d os
  have X5 := fun d os => cell_regrown (hX.2 5 _ rfl).1 d os
  have X6 := fun d os => cell_regrown (hX.2 6 _ rfl).1 d os
  have X7 := fun d os => cell_regrown (hX.2 7 _ rfl).1 d os
  have X8 := fun d os => cell_regrown (hX.2 8 _ rfl).1 d os
  have X9 := fun d os => cell_regrown (hX.2 9 _ rfl).1 d os
  have X10 := fun d os => cell_regrown (hX.2 10 _ rfl).1 d os
  have X11 := fun d os => cell_regrown (hX.2 11 _ rfl).1 d os
  have X12 := fun d os => cell_regrown (hX.2 12 _ rfl).1 d os
  have X13 := fun d os => cell_regrown (hX.2 13 _ rfl).1 d os
  have Y0 := fun d os => cell_regrown (hY.2 0 _ rfl).1 d os
  have Y1 := fun d os => cell_regrown (hY.2 1 _ rfl).1 d os
  have Y2 := fun d os => cell_regrown (hY.2 2 _ rfl).1 d os
  have Y3 := fun d os => cell_regrown (hY.2 3 _ rfl).1 d os
  have Y4 := fun d os => cell_regrown (hY.2 4 _ rfl).1 d os
  have Y5 := fun d os => cell_regrown (hY.2 5 _ rfl).1 d os
  have Y6 := fun d os => cell_regrown (hY.2 6 _ rfl).1 d os
  have Y7 := fun d os => cell_regrown (hY.2 7 _ rfl).1 d os
  have Y8 := fun d os => cell_regrown (hY.2 8 _ rfl).1 d os
  have Y9 := fun d os => cell_regrown (hY.2 9 _ rfl).1 d os
  have Y10 := fun d os => cell_regrown (hY.2 10 _ rfl).1 d os
  have Y11 := fun d os => cell_regrown (hY.2 11 _ rfl).1 d os
  have Y12 := fun d os => cell_regrown (hY.2 12 _ rfl).1 d os
  have Y13 := fun d os => cell_regrown (hY.2 13 _ rfl).1 d os
  refine wp_region_mem 31 (fun d => match d with
      | 21 => some (Is (.bool true))
      | 26 => some (Is (.bool true))
      | 31 => some (Is (.bool true))
      | 40 => some (Is (.int .i64 (q : Int)))
      | 42 => some (Is (.int .i64 (q : Int)))
      | 47 => some (Is (.bool true))
      | _ => none) (by kernel_rfl) (by kernel_rfl) ?_
  simp only [List.take_succ_cons, List.take_zero, List.drop_succ_cons, List.drop_zero]
  repeat (first | ((with_reducible refine wpM_calm ?_ ?_ ?_ ?_); exact rfl; exact rfl; exact rfl; intro K hK; go_big_quiet_op; go_big_quiet_on) | ((with_reducible refine wpM_skip ?_ ?_); exact rfl; simp only [Act.put, List.setIfInBounds_toArray, List.set_cons_succ, List.set_cons_zero]))
  refine wpM_exact rfl rfl rfl Tryd.func11 (by kernel_rfl) (by kernel_rfl) (fun w1 hw1 _ => H1.out w1 (on HB.out hw1)) rfl (by simp only [Act.put, List.setIfInBounds_toArray, List.set_cons_succ, List.set_cons_zero]; rfl) ?_
  repeat (first | ((with_reducible refine wpM_calm ?_ ?_ ?_ ?_); exact rfl; exact rfl; exact rfl; intro K hK; go_big_quiet_op; go_big_quiet_on) | ((with_reducible refine wpM_skip ?_ ?_); exact rfl; simp only [Act.put, List.setIfInBounds_toArray, List.set_cons_succ, List.set_cons_zero]))
  refine wpM_exact rfl rfl rfl Tryd.func10 (by kernel_rfl) (by kernel_rfl) (fun w1 hw1 _ => H2.out w1 (on HB.out hw1)) rfl (by simp only [Act.put, List.setIfInBounds_toArray, List.set_cons_succ, List.set_cons_zero]; rfl) ?_
  repeat (first | ((with_reducible refine wpM_calm ?_ ?_ ?_ ?_); exact rfl; exact rfl; exact rfl; intro K hK; go_big_quiet_op; go_big_quiet_on) | ((with_reducible refine wpM_skip ?_ ?_); exact rfl; simp only [Act.put, List.setIfInBounds_toArray, List.set_cons_succ, List.set_cons_zero]))
  refine wpM_exact rfl rfl rfl Tryd.func10 (by kernel_rfl) (by kernel_rfl) (fun w1 hw1 _ => H3.out w1 (on HB.out hw1)) rfl (by simp only [Act.put, List.setIfInBounds_toArray, List.set_cons_succ, List.set_cons_zero]; rfl) ?_
  repeat (first | ((with_reducible refine wpM_calm ?_ ?_ ?_ ?_); exact rfl; exact rfl; exact rfl; intro K hK; go_big_quiet_op; go_big_quiet_on) | ((with_reducible refine wpM_skip ?_ ?_); exact rfl; simp only [Act.put, List.setIfInBounds_toArray, List.set_cons_succ, List.set_cons_zero]))
  refine wpM_exact rfl rfl rfl Tryd.func12 (by kernel_rfl) (by kernel_rfl) (fun w1 hw1 _ => H4.out w1 (on HB.out hw1)) rfl (by simp only [Act.put, List.setIfInBounds_toArray, List.set_cons_succ, List.set_cons_zero]; rfl) ?_
  repeat (first | ((with_reducible refine wpM_calm ?_ ?_ ?_ ?_); exact rfl; exact rfl; exact rfl; intro K hK; go_big_quiet_op; go_big_quiet_on) | ((with_reducible refine wpM_skip ?_ ?_); exact rfl; simp only [Act.put, List.setIfInBounds_toArray, List.set_cons_succ, List.set_cons_zero]))
  refine wpM_exact rfl rfl rfl Tryd.func12 (by kernel_rfl) (by kernel_rfl) (fun w1 hw1 _ => H5.out w1 (on HB.out hw1)) rfl (by simp only [Act.put, List.setIfInBounds_toArray, List.set_cons_succ, List.set_cons_zero]; rfl) ?_
  repeat (first | ((with_reducible refine wpM_calm ?_ ?_ ?_ ?_); exact rfl; exact rfl; exact rfl; intro K hK; go_big_quiet_op; go_big_quiet_on) | ((with_reducible refine wpM_skip ?_ ?_); exact rfl; simp only [Act.put, List.setIfInBounds_toArray, List.set_cons_succ, List.set_cons_zero]))
  refine wpM_exact rfl rfl rfl Tryd.func7 (by kernel_rfl) (by kernel_rfl) (fun w1 hw1 _ => alive_c w1 (HE.out.grown (on HB.out hw1))) rfl (by simp only [Act.put, List.setIfInBounds_toArray, List.set_cons_succ, List.set_cons_zero]; rfl) ?_
  repeat (first | ((with_reducible refine wpM_calm ?_ ?_ ?_ ?_); exact rfl; exact rfl; exact rfl; intro K hK; go_big_quiet_op; go_big_quiet_on) | ((with_reducible refine wpM_skip ?_ ?_); exact rfl; simp only [Act.put, List.setIfInBounds_toArray, List.set_cons_succ, List.set_cons_zero]))
  refine wpM_nil ?_
  intro w9 hw9 _
  have hb9 := on HB.out hw9
  clear hw9 hX hY X0 X1 X2 X3 X4 X5 X6 X7 X8 X9 X10 X11 X12 X13 Y0 Y1 Y2 Y3 Y4 Y5 Y6 Y7 Y8 Y9 Y10 Y11 Y12 Y13
  go_wp2_with fail
  go_ret
  exact ⟨rfl, hb9⟩
set_option maxRecDepth 100000 in
set_option maxHeartbeats 8000000 in
theorem same_no (h : Hd) (A : Option Addr) (n c : Nat) (F : Fo) (g : Hd) (B : Option Addr) (m d : Nat) (G : Fo) (f1 : decide (1 + count F ≤ 200) = true) (f2 : decide (1 + count G ≤ 200) = true) (hv : samB (h, F) (g, G) = false) (w : World) (hz : KidsR w A n F) (hy : KidsR w B m G) (hE : Errs w) : Calls Tryd.prog 4 #[.agg #[.int .i64 h.k, .int .i64 h.op, .int .i64 h.vk, .int .i64 h.vn, .string h.vt, .int .i64 h.ar, .int .i64 h.ac, .bool h.ah, .bool h.al, .int .i64 h.br, .int .i64 h.bc, .bool h.bh, .bool h.bl, .slice A n c], .agg #[.int .i64 g.k, .int .i64 g.op, .int .i64 g.vk, .int .i64 g.vn, .string g.vt, .int .i64 g.ar, .int .i64 g.ac, .bool g.ah, .bool g.al, .int .i64 g.br, .int .i64 g.bc, .bool g.bh, .bool g.bl, .slice B m d]] w fun e w' => e = .returned (.bool true) ∧ Below w.heap.size w w' := by
  have HE := Lib.hid hE
  have HZ := Lib.hid hz
  have HY := Lib.hid hy
  have hb0 := below2 w (.cells #[.int .i64 h.k, .int .i64 h.op, .int .i64 h.vk, .int .i64 h.vn, .string h.vt, .int .i64 h.ar, .int .i64 h.ac, .bool h.ah, .bool h.al, .int .i64 h.br, .int .i64 h.bc, .bool h.bh, .bool h.bl, .slice A n c] 28) (.cells #[.int .i64 g.k, .int .i64 g.op, .int .i64 g.vk, .int .i64 g.vn, .string g.vt, .int .i64 g.ar, .int .i64 g.ac, .bool g.ah, .bool g.al, .int .i64 g.br, .int .i64 g.bc, .bool g.bh, .bool g.bl, .slice B m d] 28)
  have HB := Lib.hid hb0
  clear hE hz hy
  have hX := (CellsAt.new w [.int .i64 h.k, .int .i64 h.op, .int .i64 h.vk, .int .i64 h.vn, .string h.vt, .int .i64 h.ar, .int .i64 h.ac, .bool h.ah, .bool h.al, .int .i64 h.br, .int .i64 h.bc, .bool h.bh, .bool h.bl, .slice A n c] 28).on_alloc (.cells #[.int .i64 g.k, .int .i64 g.op, .int .i64 g.vk, .int .i64 g.vn, .string g.vt, .int .i64 g.ar, .int .i64 g.ac, .bool g.ah, .bool g.al, .int .i64 g.br, .int .i64 g.bc, .bool g.bh, .bool g.bl, .slice B m d] 28)
  have hY := CellsAt.new (w.alloc (.cells #[.int .i64 h.k, .int .i64 h.op, .int .i64 h.vk, .int .i64 h.vn, .string h.vt, .int .i64 h.ar, .int .i64 h.ac, .bool h.ah, .bool h.al, .int .i64 h.br, .int .i64 h.bc, .bool h.bh, .bool h.bl, .slice A n c] 28)) [.int .i64 g.k, .int .i64 g.op, .int .i64 g.vk, .int .i64 g.vn, .string g.vt, .int .i64 g.ar, .int .i64 g.ac, .bool g.ah, .bool g.al, .int .i64 g.br, .int .i64 g.bc, .bool g.bh, .bool g.bl, .slice B m d] 28
  rw [show (w.alloc (.cells #[.int .i64 h.k, .int .i64 h.op, .int .i64 h.vk, .int .i64 h.vn, .string h.vt, .int .i64 h.ar, .int .i64 h.ac, .bool h.ah, .bool h.al, .int .i64 h.br, .int .i64 h.bc, .bool h.bh, .bool h.bl, .slice A n c] 28)).heap.size = w.heap.size + 1 from by simp] at hY
  have hF : count F ≤ 199 := by have := of_decide_eq_true f1; omega
  have HF := Lib.hid f1
  have hG : count G ≤ 199 := by have := of_decide_eq_true f2; omega
  have HG := Lib.hid f2
  clear f1 f2
  have H1 := Lib.hid (fun w1 (hw : Below w.heap.size w w1) => rsame_c h A n c F g B m d G (by omega) (by omega) false hv w1 (HZ.out.on hw) (HY.out.on hw))
  have H2 := Lib.hid (fun w1 (hw : Below w.heap.size w w1) => (same_c (count F) (h, F) A n c (h, F) A n c w1 (Nat.le_refl _) (HZ.out.on hw) (HZ.out.on hw)).mono fun e w2 h2 => (⟨h2.1.trans (ret_bool (samB_yes rfl)), h2.2⟩ : e = .returned (.bool true) ∧ Below w1.heap.size w1 w2))
  have H3 := Lib.hid (fun w1 (hw : Below w.heap.size w w1) => (same_c (count G) (g, G) B m d (h, F) A n c w1 (Nat.le_refl _) (HY.out.on hw) (HZ.out.on hw)).mono fun e w2 h2 => (⟨h2.1.trans (ret_bool ((samB_comm _ _).trans hv)), h2.2⟩ : e = .returned (.bool false) ∧ Below w1.heap.size w1 w2))
  have H0 := Lib.hid (fun w1 (hw : Below w.heap.size w w1) => (same_c (count F) (h, F) A n c (g, G) B m d w1 (Nat.le_refl _) (HZ.out.on hw) (HY.out.on hw)).mono fun e w2 h2 => (⟨h2.1.trans (ret_bool hv), h2.2⟩ : e = .returned (.bool false) ∧ Below w1.heap.size w1 w2))
  clear hv hF hG
  go_enter Tryd.func4, Tryd.ntmps4
  go_wp2_with fail
  refine (few_c h A n c F true HF.out _ (HZ.out.on HB.out)).mono ?_
  rintro e w2 ⟨rfl, hb2⟩
  replace HB := Lib.hid (on HB.out hb2)
  replace hX := hX.on hb2
  replace hY := hY.on hb2
  have y0 := (hY.2 0 _ rfl).1
  have y1 := (hY.2 1 _ rfl).1
  have y2 := (hY.2 2 _ rfl).1
  have y3 := (hY.2 3 _ rfl).1
  have y4 := (hY.2 4 _ rfl).1
  have y5 := (hY.2 5 _ rfl).1
  have y6 := (hY.2 6 _ rfl).1
  have y7 := (hY.2 7 _ rfl).1
  have y8 := (hY.2 8 _ rfl).1
  have y9 := (hY.2 9 _ rfl).1
  have y10 := (hY.2 10 _ rfl).1
  have y11 := (hY.2 11 _ rfl).1
  have y12 := (hY.2 12 _ rfl).1
  have y13 := (hY.2 13 _ rfl).1
  clear hb2 hb0
  go_wp2_with fail
  refine (few_c g B m d G true HG.out _ (HY.out.on HB.out)).mono ?_
  rintro e w4 ⟨rfl, hb2⟩
  replace HB := Lib.hid (on HB.out hb2)
  replace hX := hX.on hb2
  replace hY := hY.on hb2
  clear y0 y1 y2 y3 y4 y5 y6 y7 y8 y9 y10 y11 y12 y13
  have x0 := (hX.2 0 _ rfl).1
  have y0 := (hY.2 0 _ rfl).1
  have x1 := (hX.2 1 _ rfl).1
  have y1 := (hY.2 1 _ rfl).1
  have x2 := (hX.2 2 _ rfl).1
  have y2 := (hY.2 2 _ rfl).1
  have x3 := (hX.2 3 _ rfl).1
  have y3 := (hY.2 3 _ rfl).1
  have x4 := (hX.2 4 _ rfl).1
  have y4 := (hY.2 4 _ rfl).1
  have x5 := (hX.2 5 _ rfl).1
  have y5 := (hY.2 5 _ rfl).1
  have x6 := (hX.2 6 _ rfl).1
  have y6 := (hY.2 6 _ rfl).1
  have x7 := (hX.2 7 _ rfl).1
  have y7 := (hY.2 7 _ rfl).1
  have x8 := (hX.2 8 _ rfl).1
  have y8 := (hY.2 8 _ rfl).1
  have x9 := (hX.2 9 _ rfl).1
  have y9 := (hY.2 9 _ rfl).1
  have x10 := (hX.2 10 _ rfl).1
  have y10 := (hY.2 10 _ rfl).1
  have x11 := (hX.2 11 _ rfl).1
  have y11 := (hY.2 11 _ rfl).1
  have x12 := (hX.2 12 _ rfl).1
  have y12 := (hY.2 12 _ rfl).1
  have x13 := (hX.2 13 _ rfl).1
  have y13 := (hY.2 13 _ rfl).1
  clear hb2
  go_wp2_with fail
  refine (H0.out _ HB.out).mono ?_
  rintro e w5 ⟨rfl, hb2⟩
  replace HB := Lib.hid (on HB.out hb2)
  replace hX := hX.on hb2
  replace hY := hY.on hb2
  clear hb2 x0 y0 x1 y1 x2 y2 x3 y3 x4 y4 x5 y5 x6 y6 x7 y7 x8 y8 x9 y9 x10 y10 x11 y11 x12 y12 x13 y13
  go_wp2_with fail
  have X0 := fun d os => cell_regrown (hX.2 0 _ rfl).1 d os
  have X1 := fun d os => cell_regrown (hX.2 1 _ rfl).1 d os
  have X2 := fun d os => cell_regrown (hX.2 2 _ rfl).1 d os
  have X3 := fun d os => cell_regrown (hX.2 3 _ rfl).1 d os
  have X4 := fun d os => cell_regrown (hX.2 4 _ rfl).1 d os
  have X5 := fun d os => cell_regrown (hX.2 5 _ rfl).1 d os
  have X6 := fun d os => cell_regrown (hX.2 6 _ rfl).1 d os
  have X7 := fun d os => cell_regrown (hX.2 7 _ rfl).1 d os
  have X8 := fun d os => cell_regrown (hX.2 8 _ rfl).1 d os
  have X9 := fun d os => cell_regrown (hX.2 9 _ rfl).1 d os
  have X10 := fun d os => cell_regrown (hX.2 10 _ rfl).1 d os
  have X11 := fun d os => cell_regrown (hX.2 11 _ rfl).1 d os
  have X12 := fun d os => cell_regrown (hX.2 12 _ rfl).1 d os
  have X13 := fun d os => cell_regrown (hX.2 13 _ rfl).1 d os
  have Y0 := fun d os => cell_regrown (hY.2 0 _ rfl).1 d os
  have Y1 := fun d os => cell_regrown (hY.2 1 _ rfl).1 d os
  have Y2 := fun d os => cell_regrown (hY.2 2 _ rfl).1 d os
  have Y3 := fun d os => cell_regrown (hY.2 3 _ rfl).1 d os
  have Y4 := fun d os => cell_regrown (hY.2 4 _ rfl).1 d os
  have Y5 := fun d os => cell_regrown (hY.2 5 _ rfl).1 d os
  have Y6 := fun d os => cell_regrown (hY.2 6 _ rfl).1 d os
  have Y7 := fun d os => cell_regrown (hY.2 7 _ rfl).1 d os
  have Y8 := fun d os => cell_regrown (hY.2 8 _ rfl).1 d os
  have Y9 := fun d os => cell_regrown (hY.2 9 _ rfl).1 d os
  have Y10 := fun d os => cell_regrown (hY.2 10 _ rfl).1 d os
  have Y11 := fun d os => cell_regrown (hY.2 11 _ rfl).1 d os
  have Y12 := fun d os => cell_regrown (hY.2 12 _ rfl).1 d os
  have Y13 := fun d os => cell_regrown (hY.2 13 _ rfl).1 d os
  refine wp_region_mem 31 (fun d => match d with
      | 21 => some (Is (.bool false))
      | 26 => some (Is (.bool true))
      | 31 => some (Is (.bool false))
      | 47 => some (Is (.bool true))
      | _ => none) (by kernel_rfl) (by kernel_rfl) ?_
  simp only [List.take_succ_cons, List.take_zero, List.drop_succ_cons, List.drop_zero]
  repeat (first | ((with_reducible refine wpM_calm ?_ ?_ ?_ ?_); exact rfl; exact rfl; exact rfl; intro K hK; go_big_quiet_op; go_big_quiet_on) | ((with_reducible refine wpM_skip ?_ ?_); exact rfl; simp only [Act.put, List.setIfInBounds_toArray, List.set_cons_succ, List.set_cons_zero]))
  refine wpM_exact rfl rfl rfl Tryd.func11 (by kernel_rfl) (by kernel_rfl) (fun w1 hw1 _ => H1.out w1 (on HB.out hw1)) rfl (by simp only [Act.put, List.setIfInBounds_toArray, List.set_cons_succ, List.set_cons_zero]; rfl) ?_
  repeat (first | ((with_reducible refine wpM_calm ?_ ?_ ?_ ?_); exact rfl; exact rfl; exact rfl; intro K hK; go_big_quiet_op; go_big_quiet_on) | ((with_reducible refine wpM_skip ?_ ?_); exact rfl; simp only [Act.put, List.setIfInBounds_toArray, List.set_cons_succ, List.set_cons_zero]))
  refine wpM_exact rfl rfl rfl Tryd.func10 (by kernel_rfl) (by kernel_rfl) (fun w1 hw1 _ => H2.out w1 (on HB.out hw1)) rfl (by simp only [Act.put, List.setIfInBounds_toArray, List.set_cons_succ, List.set_cons_zero]; rfl) ?_
  repeat (first | ((with_reducible refine wpM_calm ?_ ?_ ?_ ?_); exact rfl; exact rfl; exact rfl; intro K hK; go_big_quiet_op; go_big_quiet_on) | ((with_reducible refine wpM_skip ?_ ?_); exact rfl; simp only [Act.put, List.setIfInBounds_toArray, List.set_cons_succ, List.set_cons_zero]))
  refine wpM_exact rfl rfl rfl Tryd.func10 (by kernel_rfl) (by kernel_rfl) (fun w1 hw1 _ => H3.out w1 (on HB.out hw1)) rfl (by simp only [Act.put, List.setIfInBounds_toArray, List.set_cons_succ, List.set_cons_zero]; rfl) ?_
  repeat (first | ((with_reducible refine wpM_calm ?_ ?_ ?_ ?_); exact rfl; exact rfl; exact rfl; intro K hK; go_big_quiet_op; go_big_quiet_on) | ((with_reducible refine wpM_skip ?_ ?_); exact rfl; simp only [Act.put, List.setIfInBounds_toArray, List.set_cons_succ, List.set_cons_zero]))
  refine wpM_exact rfl rfl rfl Tryd.func7 (by kernel_rfl) (by kernel_rfl) (fun w1 hw1 _ => alive_c w1 (HE.out.grown (on HB.out hw1))) rfl (by simp only [Act.put, List.setIfInBounds_toArray, List.set_cons_succ, List.set_cons_zero]; rfl) ?_
  repeat (first | ((with_reducible refine wpM_calm ?_ ?_ ?_ ?_); exact rfl; exact rfl; exact rfl; intro K hK; go_big_quiet_op; go_big_quiet_on) | ((with_reducible refine wpM_skip ?_ ?_); exact rfl; simp only [Act.put, List.setIfInBounds_toArray, List.set_cons_succ, List.set_cons_zero]))
  refine wpM_nil ?_
  intro w9 hw9 _
  have hb9 := on HB.out hw9
  clear hw9 hX hY X0 X1 X2 X3 X4 X5 X6 X7 X8 X9 X10 X11 X12 X13 Y0 Y1 Y2 Y3 Y4 Y5 Y6 Y7 Y8 Y9 Y10 Y11 Y12 Y13
  go_wp2_with fail
  go_ret
  exact ⟨rfl, hb9⟩
theorem same_law (h : Hd) (A : Option Addr) (n c : Nat) (F : Fo) (g : Hd) (B : Option Addr) (m d : Nat) (G : Fo) (w : World) (hz : KidsR w A n F) (hy : KidsR w B m G) (hE : Errs w) : Calls Tryd.prog 4 #[.agg #[.int .i64 h.k, .int .i64 h.op, .int .i64 h.vk, .int .i64 h.vn, .string h.vt, .int .i64 h.ar, .int .i64 h.ac, .bool h.ah, .bool h.al, .int .i64 h.br, .int .i64 h.bc, .bool h.bh, .bool h.bl, .slice A n c], .agg #[.int .i64 g.k, .int .i64 g.op, .int .i64 g.vk, .int .i64 g.vn, .string g.vt, .int .i64 g.ar, .int .i64 g.ac, .bool g.ah, .bool g.al, .int .i64 g.br, .int .i64 g.bc, .bool g.bh, .bool g.bl, .slice B m d]] w fun e w' => e = .returned (.bool true) ∧ Below w.heap.size w w' := by
  cases f1 : decide (1 + count F ≤ 200) with
  | false => exact same_few1 h A n c F g B m d G f1 w hz hy hE
  | true =>
    cases f2 : decide (1 + count G ≤ 200) with
    | false => exact same_few2 h A n c F g B m d G f1 f2 w hz hy hE
    | true =>
      cases hv : samB (h, F) (g, G) with
      | true => exact same_yes h A n c F g B m d G f1 f2 hv w hz hy hE
      | false => exact same_no h A n c F g B m d G f1 f2 hv w hz hy hE
end Go.Proofs.YtcgpggknmhlnkaaDoor.Nod
