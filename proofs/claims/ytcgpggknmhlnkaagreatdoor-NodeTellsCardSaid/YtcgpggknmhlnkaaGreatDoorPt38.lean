/- What the program's Deep and Count answer of trees. Written by wip/gen22go.py.
   The program's Formula. Written by wip/gen22fml.py. -/
import Derived.Test.YtcgpggknmhlnkaaGreatDoorPt05
import Derived.Test.YtcgpggknmhlnkaaGreatDoorPt37
namespace Go.Proofs.YtcgpggknmhlnkaaGreatDoor.Nod
open Go.RowKit Kit Reg
set_option maxRecDepth 100000 in
set_option maxHeartbeats 4000000 in
theorem deep_step (h : Hd) (A : Option Addr) (n c : Nat) (F : Fo) (hF : count F ≤ 1000)
    (HC : ∀ x ∈ tops F, ∀ (A : Option Addr) (n c : Nat) (w : World), count x.2 ≤ 1000 → KidsR w A n x.2 → Calls Tryz.prog 9 #[.agg #[.int .i64 x.1.k, .int .i64 x.1.op, .int .i64 x.1.vk, .int .i64 x.1.vn, .string x.1.vt, .int .i64 x.1.ar, .int .i64 x.1.ac, .bool x.1.ah, .bool x.1.al, .int .i64 x.1.br, .int .i64 x.1.bc, .bool x.1.bh, .bool x.1.bl, .slice A n c]] w fun e w' => e = .returned (.int .i64 ((1 + deep x.2 : Nat) : Int)) ∧ Below w.heap.size w w')
    (w : World) (hz : KidsR w A n F) : Calls Tryz.prog 9 #[.agg #[.int .i64 h.k, .int .i64 h.op, .int .i64 h.vk, .int .i64 h.vn, .string h.vt, .int .i64 h.ar, .int .i64 h.ac, .bool h.ah, .bool h.al, .int .i64 h.br, .int .i64 h.bc, .bool h.bh, .bool h.bl, .slice A n c]] w fun e w' => e = .returned (.int .i64 ((1 + deep F : Nat) : Int)) ∧ Below w.heap.size w w' := by
  have HZ := Lib.hid hz
  have HC := Lib.hid HC
  have hn : n ≤ 9223372036854775807 := by have := hz.1.2; unfold maxLen at this; omega
  have HN := Lib.hid hz.1.1
  have hb00 := below1 w (.cells #[.int .i64 h.k, .int .i64 h.op, .int .i64 h.vk, .int .i64 h.vn, .string h.vt, .int .i64 h.ar, .int .i64 h.ac, .bool h.ah, .bool h.al, .int .i64 h.br, .int .i64 h.bc, .bool h.bh, .bool h.bl, .slice A n c] 28)
  have p13 : (w.alloc (.cells #[.int .i64 h.k, .int .i64 h.op, .int .i64 h.vk, .int .i64 h.vn, .string h.vt, .int .i64 h.ar, .int .i64 h.ac, .bool h.ah, .bool h.al, .int .i64 h.br, .int .i64 h.bc, .bool h.bh, .bool h.bl, .slice A n c] 28)).cell? ⟨w.heap.size, 13, none⟩ = some (.slice A n c) := ((CellsAt.new w [.int .i64 h.k, .int .i64 h.op, .int .i64 h.vk, .int .i64 h.vn, .string h.vt, .int .i64 h.ar, .int .i64 h.ac, .bool h.ah, .bool h.al, .int .i64 h.br, .int .i64 h.bc, .bool h.bh, .bool h.bl, .slice A n c] 28).2 13 _ rfl).1
  have hsz := (CellsAt.new w [.int .i64 h.k, .int .i64 h.op, .int .i64 h.vk, .int .i64 h.vn, .string h.vt, .int .i64 h.ar, .int .i64 h.ac, .bool h.ah, .bool h.al, .int .i64 h.br, .int .i64 h.bc, .bool h.bh, .bool h.bl, .slice A n c] 28).1
  clear hz

  go_enter Tryz.func9, Tryz.ntmps9
  go_wp2_with fail
  generalize w.alloc (.cells #[.int .i64 h.k, .int .i64 h.op, .int .i64 h.vk, .int .i64 h.vn, .string h.vt, .int .i64 h.ar, .int .i64 h.ac, .bool h.ah, .bool h.al, .int .i64 h.br, .int .i64 h.bc, .bool h.bh, .bool h.bl, .slice A n c] 28) = W at *
  go_loopw [3, 9] (fun p x wr => ∃ i : Nat, i ≤ n ∧ x = .int .i64 i ∧ p = .int .i64 ((dep ((tops F).take i) : Nat) : Int) ∧ Below W.heap.size W wr) (fun _ x _ => n - (intOf x).toNat)
  case atStart => exact ⟨0, Nat.zero_le _, rfl, by rw [List.take_zero]; rfl, Below.refl _ _⟩
  case round =>
    obtain ⟨i, hi, rfl, rfl, hb⟩ := hrel
    have HT : Hid (arity F = n) := HN
    have hdl := dep_take F i
    have hdc := deep_le F
    by_cases hlt : i < n
    · obtain ⟨x, hx⟩ := HZ.out.get hlt
      obtain ⟨b, o, rfl, hblt, hcell, B, m2, c2, y13, hk⟩ := (HZ.out.on (on hb00 hb)).at hx
      have y0 : wr.cell? ⟨b, o + i * 14, none⟩ = some (.int .i64 x.1.k) := hcell 0 _ rfl
      have y1 := hcell 1 _ rfl
      have y2 := hcell 2 _ rfl
      have y3 := hcell 3 _ rfl
      have y4 := hcell 4 _ rfl
      have y5 := hcell 5 _ rfl
      have y6 := hcell 6 _ rfl
      have y7 := hcell 7 _ rfl
      have y8 := hcell 8 _ rfl
      have y9 := hcell 9 _ rfl
      have y10 := hcell 10 _ rfl
      have y11 := hcell 11 _ rfl
      have y12 := hcell 12 _ rfl
      have hxm := List.mem_of_getElem? hx
      have hsl : w.heap.size < wr.heap.size := Nat.lt_of_lt_of_le hsz hb.size
      have q13 := kept hb p13
      have HP : Hid (dep ((tops F).take (i + 1)) = max (dep ((tops F).take i)) (deep x.2 + 1)) := Lib.hid (by rw [take_snoc hx, dep_snoc])
      have hxc := top_count hxm
      have HH := Lib.hid (fun w1 => HC.out x hxm B m2 c2 w1 (by omega))
      have HK := Lib.hid (fun w1 (hw : Below wr.heap.size wr w1) => hk.on hw)
      have hxd := deep_le x.2
      generalize hq : dep ((tops F).take i) = q at *
      generalize hr : deep x.2 = r at *
      clear hcell hk hx hxm HC HZ hq hr
      go_wp2_with fail
      refine (HH.out _ (HK.out _ (below1 _ _))).mono ?_
      rintro e w2 ⟨rfl, hb2⟩
      replace hb := on (on_alloc hb _) hb2
      go_wp2_with fail
      go_roundw
      case rel => exact ⟨i + 1, by omega, by go_num, by rw [HP.out]; congr 1; omega, hb⟩
      case measure => simp [intOf]; omega
    · obtain rfl : i = n := by omega
      have q13 := kept hb p13
      have HE : Hid ((tops F).take i = tops F) := Lib.hid (List.take_of_length_le (by have := HT.out; unfold arity at this; omega))
      rw [HE.out, dep_tops]
      go_wp2_with fail
      go_ret
      exact ⟨by congr 2, on hb00 hb⟩

theorem deep_c : ∀ (N : Nat) (h : Hd) (A : Option Addr) (n c : Nat) (F : Fo), count F ≤ 1000 → count F ≤ N → ∀ (w : World), KidsR w A n F → Calls Tryz.prog 9 #[.agg #[.int .i64 h.k, .int .i64 h.op, .int .i64 h.vk, .int .i64 h.vn, .string h.vt, .int .i64 h.ar, .int .i64 h.ac, .bool h.ah, .bool h.al, .int .i64 h.br, .int .i64 h.bc, .bool h.bh, .bool h.bl, .slice A n c]] w fun e w' => e = .returned (.int .i64 ((1 + deep F : Nat) : Int)) ∧ Below w.heap.size w w'
  | 0, h, A, n, c, F, hF, hN, w, hz => deep_step h A n c F hF (fun x hx => absurd (top_count hx) (by omega)) w hz
  | N + 1, h, A, n, c, F, hF, hN, w, hz => deep_step h A n c F hF (fun x hx A' n' c' w' hF' hz' => deep_c N x.1 A' n' c' x.2 hF' (by have := top_count hx; omega) w' hz') w hz

set_option maxRecDepth 100000 in
set_option maxHeartbeats 4000000 in
theorem count_step (h : Hd) (A : Option Addr) (n c : Nat) (F : Fo) (hF : count F ≤ 1000)
    (HC : ∀ x ∈ tops F, ∀ (A : Option Addr) (n c : Nat) (w : World), count x.2 ≤ 1000 → KidsR w A n x.2 → Calls Tryz.prog 8 #[.agg #[.int .i64 x.1.k, .int .i64 x.1.op, .int .i64 x.1.vk, .int .i64 x.1.vn, .string x.1.vt, .int .i64 x.1.ar, .int .i64 x.1.ac, .bool x.1.ah, .bool x.1.al, .int .i64 x.1.br, .int .i64 x.1.bc, .bool x.1.bh, .bool x.1.bl, .slice A n c]] w fun e w' => e = .returned (.int .i64 ((1 + count x.2 : Nat) : Int)) ∧ Below w.heap.size w w')
    (w : World) (hz : KidsR w A n F) : Calls Tryz.prog 8 #[.agg #[.int .i64 h.k, .int .i64 h.op, .int .i64 h.vk, .int .i64 h.vn, .string h.vt, .int .i64 h.ar, .int .i64 h.ac, .bool h.ah, .bool h.al, .int .i64 h.br, .int .i64 h.bc, .bool h.bh, .bool h.bl, .slice A n c]] w fun e w' => e = .returned (.int .i64 ((1 + count F : Nat) : Int)) ∧ Below w.heap.size w w' := by
  have HZ := Lib.hid hz
  have HC := Lib.hid HC
  have hn : n ≤ 9223372036854775807 := by have := hz.1.2; unfold maxLen at this; omega
  have HN := Lib.hid hz.1.1
  have hb00 := below1 w (.cells #[.int .i64 h.k, .int .i64 h.op, .int .i64 h.vk, .int .i64 h.vn, .string h.vt, .int .i64 h.ar, .int .i64 h.ac, .bool h.ah, .bool h.al, .int .i64 h.br, .int .i64 h.bc, .bool h.bh, .bool h.bl, .slice A n c] 28)
  have p13 : (w.alloc (.cells #[.int .i64 h.k, .int .i64 h.op, .int .i64 h.vk, .int .i64 h.vn, .string h.vt, .int .i64 h.ar, .int .i64 h.ac, .bool h.ah, .bool h.al, .int .i64 h.br, .int .i64 h.bc, .bool h.bh, .bool h.bl, .slice A n c] 28)).cell? ⟨w.heap.size, 13, none⟩ = some (.slice A n c) := ((CellsAt.new w [.int .i64 h.k, .int .i64 h.op, .int .i64 h.vk, .int .i64 h.vn, .string h.vt, .int .i64 h.ar, .int .i64 h.ac, .bool h.ah, .bool h.al, .int .i64 h.br, .int .i64 h.bc, .bool h.bh, .bool h.bl, .slice A n c] 28).2 13 _ rfl).1
  have hsz := (CellsAt.new w [.int .i64 h.k, .int .i64 h.op, .int .i64 h.vk, .int .i64 h.vn, .string h.vt, .int .i64 h.ar, .int .i64 h.ac, .bool h.ah, .bool h.al, .int .i64 h.br, .int .i64 h.bc, .bool h.bh, .bool h.bl, .slice A n c] 28).1
  clear hz

  go_enter Tryz.func8, Tryz.ntmps8
  go_wp2_with fail
  generalize w.alloc (.cells #[.int .i64 h.k, .int .i64 h.op, .int .i64 h.vk, .int .i64 h.vn, .string h.vt, .int .i64 h.ar, .int .i64 h.ac, .bool h.ah, .bool h.al, .int .i64 h.br, .int .i64 h.bc, .bool h.bh, .bool h.bl, .slice A n c] 28) = W at *
  go_loopw [3, 9] (fun p x wr => ∃ i : Nat, i ≤ n ∧ x = .int .i64 i ∧ p = .int .i64 ((1 + cnt ((tops F).take i) : Nat) : Int) ∧ Below W.heap.size W wr) (fun _ x _ => n - (intOf x).toNat)
  case atStart => exact ⟨0, Nat.zero_le _, rfl, by rw [List.take_zero]; rfl, Below.refl _ _⟩
  case round =>
    obtain ⟨i, hi, rfl, rfl, hb⟩ := hrel
    have HT : Hid (arity F = n) := HN
    have hdl := cnt_take F i
    by_cases hlt : i < n
    · obtain ⟨x, hx⟩ := HZ.out.get hlt
      obtain ⟨b, o, rfl, hblt, hcell, B, m2, c2, y13, hk⟩ := (HZ.out.on (on hb00 hb)).at hx
      have y0 : wr.cell? ⟨b, o + i * 14, none⟩ = some (.int .i64 x.1.k) := hcell 0 _ rfl
      have y1 := hcell 1 _ rfl
      have y2 := hcell 2 _ rfl
      have y3 := hcell 3 _ rfl
      have y4 := hcell 4 _ rfl
      have y5 := hcell 5 _ rfl
      have y6 := hcell 6 _ rfl
      have y7 := hcell 7 _ rfl
      have y8 := hcell 8 _ rfl
      have y9 := hcell 9 _ rfl
      have y10 := hcell 10 _ rfl
      have y11 := hcell 11 _ rfl
      have y12 := hcell 12 _ rfl
      have hxm := List.mem_of_getElem? hx
      have hsl : w.heap.size < wr.heap.size := Nat.lt_of_lt_of_le hsz hb.size
      have q13 := kept hb p13
      have HP : Hid (cnt ((tops F).take (i + 1)) = cnt ((tops F).take i) + (1 + count x.2)) := Lib.hid (by rw [take_snoc hx, cnt_snoc])
      have hxc := top_count hxm
      have HH := Lib.hid (fun w1 => HC.out x hxm B m2 c2 w1 (by omega))
      have HK := Lib.hid (fun w1 (hw : Below wr.heap.size wr w1) => hk.on hw)
      generalize hq : cnt ((tops F).take i) = q at *
      generalize hr : count x.2 = r at *
      clear hcell hk hx hxm HC HZ hq hr
      go_wp2_with fail
      refine (HH.out _ (HK.out _ (below1 _ _))).mono ?_
      rintro e w2 ⟨rfl, hb2⟩
      replace hb := on (on_alloc hb _) hb2
      go_wp2_with fail
      go_roundw
      case rel => exact ⟨i + 1, by omega, by go_num, by rw [HP.out]; congr 1; omega, hb⟩
      case measure => simp [intOf]; omega
    · obtain rfl : i = n := by omega
      have q13 := kept hb p13
      have HE : Hid ((tops F).take i = tops F) := Lib.hid (List.take_of_length_le (by have := HT.out; unfold arity at this; omega))
      rw [HE.out, cnt_tops]
      go_wp2_with fail
      go_ret
      exact ⟨by congr 2, on hb00 hb⟩

theorem count_c : ∀ (N : Nat) (h : Hd) (A : Option Addr) (n c : Nat) (F : Fo), count F ≤ 1000 → count F ≤ N → ∀ (w : World), KidsR w A n F → Calls Tryz.prog 8 #[.agg #[.int .i64 h.k, .int .i64 h.op, .int .i64 h.vk, .int .i64 h.vn, .string h.vt, .int .i64 h.ar, .int .i64 h.ac, .bool h.ah, .bool h.al, .int .i64 h.br, .int .i64 h.bc, .bool h.bh, .bool h.bl, .slice A n c]] w fun e w' => e = .returned (.int .i64 ((1 + count F : Nat) : Int)) ∧ Below w.heap.size w w'
  | 0, h, A, n, c, F, hF, hN, w, hz => count_step h A n c F hF (fun x hx => absurd (top_count hx) (by omega)) w hz
  | N + 1, h, A, n, c, F, hF, hN, w, hz => count_step h A n c F hF (fun x hx A' n' c' w' hF' hz' => count_c N x.1 A' n' c' x.2 hF' (by have := top_count hx; omega) w' hz') w hz
end Go.Proofs.YtcgpggknmhlnkaaGreatDoor.Nod
namespace Go.Proofs.YtcgpggknmhlnkaaGreatDoor.Nod
open Go.RowKit Kit Reg
/-- is it a formula? -/
noncomputable def fmlV (x : Nd) : Bool := (x.1.k != 4) && (decide (((1 + deep x.2 : Nat) : Int) ≤ 12) && (x :: flat x.2).all oneV)
set_option maxRecDepth 100000 in
set_option maxHeartbeats 4000000 in
theorem formula_c (h : Hd) (A : Option Addr) (n c : Nat) (F : Fo) (hF : count F ≤ 1000) (hs : ∀ x ∈ flat F, x.1.vt.size ≤ 281474976710656) (r : Bool) (hr : fmlV (h, F) = r) (w : World) (hz : KidsR w A n F) (hE : Cats.Errs w) : Calls Tryz.prog 13 #[.agg #[.int .i64 h.k, .int .i64 h.op, .int .i64 h.vk, .int .i64 h.vn, .string h.vt, .int .i64 h.ar, .int .i64 h.ac, .bool h.ah, .bool h.al, .int .i64 h.br, .int .i64 h.bc, .bool h.bh, .bool h.bl, .slice A n c]] w fun e w' => e = .returned (.bool r) ∧ Below w.heap.size w w' := by
  have HR := Lib.hid (show ((h.k != 4) && (decide (((1 + deep F : Nat) : Int) ≤ 12) && ((h, F) :: flat F).all oneV)) = r from hr)
  have HB := Lib.hid (below1 w (.cells #[.int .i64 h.k, .int .i64 h.op, .int .i64 h.vk, .int .i64 h.vn, .string h.vt, .int .i64 h.ar, .int .i64 h.ac, .bool h.ah, .bool h.al, .int .i64 h.br, .int .i64 h.bc, .bool h.bh, .bool h.bl, .slice A n c] 28))
  have HX := Lib.hid (CellsAt.new w [.int .i64 h.k, .int .i64 h.op, .int .i64 h.vk, .int .i64 h.vn, .string h.vt, .int .i64 h.ar, .int .i64 h.ac, .bool h.ah, .bool h.al, .int .i64 h.br, .int .i64 h.bc, .bool h.bh, .bool h.bl, .slice A n c] 28)
  have HBX := Lib.hid (Below.refl (w.alloc (.cells #[.int .i64 h.k, .int .i64 h.op, .int .i64 h.vk, .int .i64 h.vn, .string h.vt, .int .i64 h.ar, .int .i64 h.ac, .bool h.ah, .bool h.al, .int .i64 h.br, .int .i64 h.bc, .bool h.bh, .bool h.bl, .slice A n c] 28)).heap.size (w.alloc (.cells #[.int .i64 h.k, .int .i64 h.op, .int .i64 h.vk, .int .i64 h.vn, .string h.vt, .int .i64 h.ar, .int .i64 h.ac, .bool h.ah, .bool h.al, .int .i64 h.br, .int .i64 h.bc, .bool h.bh, .bool h.bl, .slice A n c] 28)))
  have HD := Lib.hid (fun w1 (hw : Below w.heap.size w w1) => deep_c (count F) h A n c F hF (Nat.le_refl _) w1 (hz.on hw))
  have HG := Lib.hid (fun w1 (hw : Below w.heap.size w w1) => right_c (count F) h A n c F (Nat.le_refl _) hs _ rfl w1 (hz.on hw) (hE.grown hw))
  have hdl := deep_le F
  clear hr hz hs hE
  generalize ((h, F) :: flat F).all oneV = v at *
  have hq : 1 + deep F ≤ 1001 := by omega
  generalize 1 + deep F = q at *
  go_enter Tryz.func13, Tryz.ntmps13
  cases d1 : (h.k != 4) with
  | false =>
    go_wp2_with fail
    refine (single_c h A n c _ d1 _).mono ?_
    rintro e w2 ⟨rfl, hb2⟩
    replace HB := Lib.hid (on HB.out hb2)
    go_wp2_with fail
    go_ret
    exact ⟨ret_bool (by rw [← HR.out, d1]; rfl), HB.out⟩
  | true =>
    go_wp2_with fail
    refine (single_c h A n c _ d1 _).mono ?_
    rintro e w2 ⟨rfl, hb2⟩
    replace HB := Lib.hid (on HB.out hb2)
    replace HBX := Lib.hid (on HBX.out hb2)
    have x0 := ((HX.out.on HBX.out).2 0 _ rfl).1
    have x1 := ((HX.out.on HBX.out).2 1 _ rfl).1
    have x2 := ((HX.out.on HBX.out).2 2 _ rfl).1
    have x3 := ((HX.out.on HBX.out).2 3 _ rfl).1
    have x4 := ((HX.out.on HBX.out).2 4 _ rfl).1
    have x5 := ((HX.out.on HBX.out).2 5 _ rfl).1
    have x6 := ((HX.out.on HBX.out).2 6 _ rfl).1
    have x7 := ((HX.out.on HBX.out).2 7 _ rfl).1
    have x8 := ((HX.out.on HBX.out).2 8 _ rfl).1
    have x9 := ((HX.out.on HBX.out).2 9 _ rfl).1
    have x10 := ((HX.out.on HBX.out).2 10 _ rfl).1
    have x11 := ((HX.out.on HBX.out).2 11 _ rfl).1
    have x12 := ((HX.out.on HBX.out).2 12 _ rfl).1
    have x13 := ((HX.out.on HBX.out).2 13 _ rfl).1
    cases d2 : decide ((q : Int) ≤ 12) with
    | false =>
      go_wp2_with fail
      refine (HD.out _ HB.out).mono ?_
      rintro e w2 ⟨rfl, hb2⟩
      replace HB := Lib.hid (on HB.out hb2)
      replace HBX := Lib.hid (on HBX.out hb2)
      have x0 := ((HX.out.on HBX.out).2 0 _ rfl).1
      have x1 := ((HX.out.on HBX.out).2 1 _ rfl).1
      have x2 := ((HX.out.on HBX.out).2 2 _ rfl).1
      have x3 := ((HX.out.on HBX.out).2 3 _ rfl).1
      have x4 := ((HX.out.on HBX.out).2 4 _ rfl).1
      have x5 := ((HX.out.on HBX.out).2 5 _ rfl).1
      have x6 := ((HX.out.on HBX.out).2 6 _ rfl).1
      have x7 := ((HX.out.on HBX.out).2 7 _ rfl).1
      have x8 := ((HX.out.on HBX.out).2 8 _ rfl).1
      have x9 := ((HX.out.on HBX.out).2 9 _ rfl).1
      have x10 := ((HX.out.on HBX.out).2 10 _ rfl).1
      have x11 := ((HX.out.on HBX.out).2 11 _ rfl).1
      have x12 := ((HX.out.on HBX.out).2 12 _ rfl).1
      have x13 := ((HX.out.on HBX.out).2 13 _ rfl).1
      go_wp2_with fail
      go_ret
      exact ⟨ret_bool (by rw [← HR.out, d2]; simp), HB.out⟩
    | true =>
      go_wp2_with fail
      refine (HD.out _ HB.out).mono ?_
      rintro e w2 ⟨rfl, hb2⟩
      replace HB := Lib.hid (on HB.out hb2)
      replace HBX := Lib.hid (on HBX.out hb2)
      have x0 := ((HX.out.on HBX.out).2 0 _ rfl).1
      have x1 := ((HX.out.on HBX.out).2 1 _ rfl).1
      have x2 := ((HX.out.on HBX.out).2 2 _ rfl).1
      have x3 := ((HX.out.on HBX.out).2 3 _ rfl).1
      have x4 := ((HX.out.on HBX.out).2 4 _ rfl).1
      have x5 := ((HX.out.on HBX.out).2 5 _ rfl).1
      have x6 := ((HX.out.on HBX.out).2 6 _ rfl).1
      have x7 := ((HX.out.on HBX.out).2 7 _ rfl).1
      have x8 := ((HX.out.on HBX.out).2 8 _ rfl).1
      have x9 := ((HX.out.on HBX.out).2 9 _ rfl).1
      have x10 := ((HX.out.on HBX.out).2 10 _ rfl).1
      have x11 := ((HX.out.on HBX.out).2 11 _ rfl).1
      have x12 := ((HX.out.on HBX.out).2 12 _ rfl).1
      have x13 := ((HX.out.on HBX.out).2 13 _ rfl).1
      go_wp2_with fail
      refine (HG.out _ HB.out).mono ?_
      rintro e w2 ⟨rfl, hb2⟩
      replace HB := Lib.hid (on HB.out hb2)
      go_wp2_with fail
      go_ret
      exact ⟨ret_bool (by rw [← HR.out, d1, d2]; rfl), HB.out⟩
end Go.Proofs.YtcgpggknmhlnkaaGreatDoor.Nod
