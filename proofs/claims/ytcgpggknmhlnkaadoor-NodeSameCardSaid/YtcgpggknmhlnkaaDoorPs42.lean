/- The program's Formula. Written by wip/gen22fml.py. -/
import Derived.Test.YtcgpggknmhlnkaaDoorPs40
import Derived.Test.YtcgpggknmhlnkaaDoorPs41
namespace Go.Proofs.YtcgpggknmhlnkaaDoor.Nod
open Go.RowKit Kit Reg
/-- is it a formula? -/
noncomputable def fmlV (x : Nd) : Bool := (x.1.k != 4) && (decide (((1 + deep x.2 : Nat) : Int) ≤ 12) && (x :: flat x.2).all oneV)
set_option maxRecDepth 100000 in
set_option maxHeartbeats 4000000 in
theorem formula_c (h : Hd) (A : Option Addr) (n c : Nat) (F : Fo) (hF : count F ≤ 1000) (hs : ∀ x ∈ flat F, x.1.vt.size ≤ 281474976710656) (r : Bool) (hr : fmlV (h, F) = r) (w : World) (hz : KidsR w A n F) (hE : Cats.Errs w) : Calls Tryd.prog 17 #[.agg #[.int .i64 h.k, .int .i64 h.op, .int .i64 h.vk, .int .i64 h.vn, .string h.vt, .int .i64 h.ar, .int .i64 h.ac, .bool h.ah, .bool h.al, .int .i64 h.br, .int .i64 h.bc, .bool h.bh, .bool h.bl, .slice A n c]] w fun e w' => e = .returned (.bool r) ∧ Below w.heap.size w w' := by
  have HR := Lib.hid (show ((h.k != 4) && (decide (((1 + deep F : Nat) : Int) ≤ 12) && ((h, F) :: flat F).all oneV)) = r from hr)
  have HB := Lib.hid (below1 w (.cells #[.int .i64 h.k, .int .i64 h.op, .int .i64 h.vk, .int .i64 h.vn, .string h.vt, .int .i64 h.ar, .int .i64 h.ac, .bool h.ah, .bool h.al, .int .i64 h.br, .int .i64 h.bc, .bool h.bh, .bool h.bl, .slice A n c] 28))
  have HX := Lib.hid (CellsAt.new w [.int .i64 h.k, .int .i64 h.op, .int .i64 h.vk, .int .i64 h.vn, .string h.vt, .int .i64 h.ar, .int .i64 h.ac, .bool h.ah, .bool h.al, .int .i64 h.br, .int .i64 h.bc, .bool h.bh, .bool h.bl, .slice A n c] 28)
  have HBX := Lib.hid (Below.refl (w.alloc (.cells #[.int .i64 h.k, .int .i64 h.op, .int .i64 h.vk, .int .i64 h.vn, .string h.vt, .int .i64 h.ar, .int .i64 h.ac, .bool h.ah, .bool h.al, .int .i64 h.br, .int .i64 h.bc, .bool h.bh, .bool h.bl, .slice A n c] 28)).heap.size (w.alloc (.cells #[.int .i64 h.k, .int .i64 h.op, .int .i64 h.vk, .int .i64 h.vn, .string h.vt, .int .i64 h.ar, .int .i64 h.ac, .bool h.ah, .bool h.al, .int .i64 h.br, .int .i64 h.bc, .bool h.bh, .bool h.bl, .slice A n c] 28)))
  have HD := Lib.hid (fun w1 (hw : Below w.heap.size w w1) => deep_c (count F) h A n c F hF (Nat.le_refl _) w1 (hz.on hw))
  have HG := Lib.hid (fun w1 (hw : Below w.heap.size w w1) => right_c (count F) h A n c F (Nat.le_refl _) hs _ rfl w1 (hz.on hw) (hE.grown hw))
  have hdl := deep_le F
  clear hr hz hs hE
  generalize ((h, F) :: flat F).all oneV = v at *
  have hq : 1 + deep F ≤ 1001 := by omega
  generalize 1 + deep F = q at *
  go_enter Tryd.func17, Tryd.ntmps17
  cases d1 : (h.k != 4) with
  | false =>
    go_wp2_with fail
    refine (single_c h A n c _ d1 _).mono ?_
    rintro e w2 ⟨rfl, hb2⟩
    replace HB := Lib.hid (on HB.out hb2)
    go_wp2_with fail
    go_ret
    exact ⟨ret_bool (by rw [← HR.out, d1]; rfl), HB.out⟩
  | true =>
    go_wp2_with fail
    refine (single_c h A n c _ d1 _).mono ?_
    rintro e w2 ⟨rfl, hb2⟩
    replace HB := Lib.hid (on HB.out hb2)
    replace HBX := Lib.hid (on HBX.out hb2)
    have x0 := ((HX.out.on HBX.out).2 0 _ rfl).1
    have x1 := ((HX.out.on HBX.out).2 1 _ rfl).1
    have x2 := ((HX.out.on HBX.out).2 2 _ rfl).1
    have x3 := ((HX.out.on HBX.out).2 3 _ rfl).1
    have x4 := ((HX.out.on HBX.out).2 4 _ rfl).1
    have x5 := ((HX.out.on HBX.out).2 5 _ rfl).1
    have x6 := ((HX.out.on HBX.out).2 6 _ rfl).1
    have x7 := ((HX.out.on HBX.out).2 7 _ rfl).1
    have x8 := ((HX.out.on HBX.out).2 8 _ rfl).1
    have x9 := ((HX.out.on HBX.out).2 9 _ rfl).1
    have x10 := ((HX.out.on HBX.out).2 10 _ rfl).1
    have x11 := ((HX.out.on HBX.out).2 11 _ rfl).1
    have x12 := ((HX.out.on HBX.out).2 12 _ rfl).1
    have x13 := ((HX.out.on HBX.out).2 13 _ rfl).1
    cases d2 : decide ((q : Int) ≤ 12) with
    | false =>
      go_wp2_with fail
      refine (HD.out _ HB.out).mono ?_
      rintro e w2 ⟨rfl, hb2⟩
      replace HB := Lib.hid (on HB.out hb2)
      replace HBX := Lib.hid (on HBX.out hb2)
      have x0 := ((HX.out.on HBX.out).2 0 _ rfl).1
      have x1 := ((HX.out.on HBX.out).2 1 _ rfl).1
      have x2 := ((HX.out.on HBX.out).2 2 _ rfl).1
      have x3 := ((HX.out.on HBX.out).2 3 _ rfl).1
      have x4 := ((HX.out.on HBX.out).2 4 _ rfl).1
      have x5 := ((HX.out.on HBX.out).2 5 _ rfl).1
      have x6 := ((HX.out.on HBX.out).2 6 _ rfl).1
      have x7 := ((HX.out.on HBX.out).2 7 _ rfl).1
      have x8 := ((HX.out.on HBX.out).2 8 _ rfl).1
      have x9 := ((HX.out.on HBX.out).2 9 _ rfl).1
      have x10 := ((HX.out.on HBX.out).2 10 _ rfl).1
      have x11 := ((HX.out.on HBX.out).2 11 _ rfl).1
      have x12 := ((HX.out.on HBX.out).2 12 _ rfl).1
      have x13 := ((HX.out.on HBX.out).2 13 _ rfl).1
      go_wp2_with fail
      go_ret
      exact ⟨ret_bool (by rw [← HR.out, d2]; simp), HB.out⟩
    | true =>
      go_wp2_with fail
      refine (HD.out _ HB.out).mono ?_
      rintro e w2 ⟨rfl, hb2⟩
      replace HB := Lib.hid (on HB.out hb2)
      replace HBX := Lib.hid (on HBX.out hb2)
      have x0 := ((HX.out.on HBX.out).2 0 _ rfl).1
      have x1 := ((HX.out.on HBX.out).2 1 _ rfl).1
      have x2 := ((HX.out.on HBX.out).2 2 _ rfl).1
      have x3 := ((HX.out.on HBX.out).2 3 _ rfl).1
      have x4 := ((HX.out.on HBX.out).2 4 _ rfl).1
      have x5 := ((HX.out.on HBX.out).2 5 _ rfl).1
      have x6 := ((HX.out.on HBX.out).2 6 _ rfl).1
      have x7 := ((HX.out.on HBX.out).2 7 _ rfl).1
      have x8 := ((HX.out.on HBX.out).2 8 _ rfl).1
      have x9 := ((HX.out.on HBX.out).2 9 _ rfl).1
      have x10 := ((HX.out.on HBX.out).2 10 _ rfl).1
      have x11 := ((HX.out.on HBX.out).2 11 _ rfl).1
      have x12 := ((HX.out.on HBX.out).2 12 _ rfl).1
      have x13 := ((HX.out.on HBX.out).2 13 _ rfl).1
      go_wp2_with fail
      refine (HG.out _ HB.out).mono ?_
      rintro e w2 ⟨rfl, hb2⟩
      replace HB := Lib.hid (on HB.out hb2)
      go_wp2_with fail
      go_ret
      exact ⟨ret_bool (by rw [← HR.out, d1, d2]; rfl), HB.out⟩
end Go.Proofs.YtcgpggknmhlnkaaDoor.Nod
