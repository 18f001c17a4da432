/- What the program's Deep and Count answer of trees. Written by wip/gen22go.py. -/
import Derived.Test.YtcgpggknmhlnkaaDoorPs06
namespace Go.Proofs.YtcgpggknmhlnkaaDoor.Nod
open Go.RowKit Kit Reg
set_option maxRecDepth 100000 in
set_option maxHeartbeats 4000000 in
theorem deep_step (h : Hd) (A : Option Addr) (n c : Nat) (F : Fo) (hF : count F ≤ 1000)
    (HC : ∀ x ∈ tops F, ∀ (A : Option Addr) (n c : Nat) (w : World), count x.2 ≤ 1000 → KidsR w A n x.2 → Calls Tryd.prog 9 #[.agg #[.int .i64 x.1.k, .int .i64 x.1.op, .int .i64 x.1.vk, .int .i64 x.1.vn, .string x.1.vt, .int .i64 x.1.ar, .int .i64 x.1.ac, .bool x.1.ah, .bool x.1.al, .int .i64 x.1.br, .int .i64 x.1.bc, .bool x.1.bh, .bool x.1.bl, .slice A n c]] w fun e w' => e = .returned (.int .i64 ((1 + deep x.2 : Nat) : Int)) ∧ Below w.heap.size w w')
    (w : World) (hz : KidsR w A n F) : Calls Tryd.prog 9 #[.agg #[.int .i64 h.k, .int .i64 h.op, .int .i64 h.vk, .int .i64 h.vn, .string h.vt, .int .i64 h.ar, .int .i64 h.ac, .bool h.ah, .bool h.al, .int .i64 h.br, .int .i64 h.bc, .bool h.bh, .bool h.bl, .slice A n c]] w fun e w' => e = .returned (.int .i64 ((1 + deep F : Nat) : Int)) ∧ Below w.heap.size w w' := by
  have HZ := Lib.hid hz
  have HC := Lib.hid HC
  have hn : n ≤ 9223372036854775807 := by have := hz.1.2; unfold maxLen at this; omega
  have HN := Lib.hid hz.1.1
  have hb00 := below1 w (.cells #[.int .i64 h.k, .int .i64 h.op, .int .i64 h.vk, .int .i64 h.vn, .string h.vt, .int .i64 h.ar, .int .i64 h.ac, .bool h.ah, .bool h.al, .int .i64 h.br, .int .i64 h.bc, .bool h.bh, .bool h.bl, .slice A n c] 28)
  have p13 : (w.alloc (.cells #[.int .i64 h.k, .int .i64 h.op, .int .i64 h.vk, .int .i64 h.vn, .string h.vt, .int .i64 h.ar, .int .i64 h.ac, .bool h.ah, .bool h.al, .int .i64 h.br, .int .i64 h.bc, .bool h.bh, .bool h.bl, .slice A n c] 28)).cell? ⟨w.heap.size, 13, none⟩ = some (.slice A n c) := ((CellsAt.new w [.int .i64 h.k, .int .i64 h.op, .int .i64 h.vk, .int .i64 h.vn, .string h.vt, .int .i64 h.ar, .int .i64 h.ac, .bool h.ah, .bool h.al, .int .i64 h.br, .int .i64 h.bc, .bool h.bh, .bool h.bl, .slice A n c] 28).2 13 _ rfl).1
  have hsz := (CellsAt.new w [.int .i64 h.k, .int .i64 h.op, .int .i64 h.vk, .int .i64 h.vn, .string h.vt, .int .i64 h.ar, .int .i64 h.ac, .bool h.ah, .bool h.al, .int .i64 h.br, .int .i64 h.bc, .bool h.bh, .bool h.bl, .slice A n c] 28).1
  clear hz

  go_enter Tryd.func9, Tryd.ntmps9
  go_wp2_with fail
  generalize w.alloc (.cells #[.int .i64 h.k, .int .i64 h.op, .int .i64 h.vk, .int .i64 h.vn, .string h.vt, .int .i64 h.ar, .int .i64 h.ac, .bool h.ah, .bool h.al, .int .i64 h.br, .int .i64 h.bc, .bool h.bh, .bool h.bl, .slice A n c] 28) = W at *
  go_loopw [3, 9] (fun p x wr => ∃ i : Nat, i ≤ n ∧ x = .int .i64 i ∧ p = .int .i64 ((dep ((tops F).take i) : Nat) : Int) ∧ Below W.heap.size W wr) (fun _ x _ => n - (intOf x).toNat)
  case atStart => exact ⟨0, Nat.zero_le _, rfl, by rw [List.take_zero]; rfl, Below.refl _ _⟩
  case round =>
    obtain ⟨i, hi, rfl, rfl, hb⟩ := hrel
    have HT : Hid (arity F = n) := HN
    have hdl := dep_take F i
    have hdc := deep_le F
    by_cases hlt : i < n
    · obtain ⟨x, hx⟩ := HZ.out.get hlt
      obtain ⟨b, o, rfl, hblt, hcell, B, m2, c2, y13, hk⟩ := (HZ.out.on (on hb00 hb)).at hx
      have y0 : wr.cell? ⟨b, o + i * 14, none⟩ = some (.int .i64 x.1.k) := hcell 0 _ rfl
      have y1 := hcell 1 _ rfl
      have y2 := hcell 2 _ rfl
      have y3 := hcell 3 _ rfl
      have y4 := hcell 4 _ rfl
      have y5 := hcell 5 _ rfl
      have y6 := hcell 6 _ rfl
      have y7 := hcell 7 _ rfl
      have y8 := hcell 8 _ rfl
      have y9 := hcell 9 _ rfl
      have y10 := hcell 10 _ rfl
      have y11 := hcell 11 _ rfl
      have y12 := hcell 12 _ rfl
      have hxm := List.mem_of_getElem? hx
      have hsl : w.heap.size < wr.heap.size := Nat.lt_of_lt_of_le hsz hb.size
      have q13 := kept hb p13
      have HP : Hid (dep ((tops F).take (i + 1)) = max (dep ((tops F).take i)) (deep x.2 + 1)) := Lib.hid (by rw [take_snoc hx, dep_snoc])
      have hxc := top_count hxm
      have HH := Lib.hid (fun w1 => HC.out x hxm B m2 c2 w1 (by omega))
      have HK := Lib.hid (fun w1 (hw : Below wr.heap.size wr w1) => hk.on hw)
      have hxd := deep_le x.2
      generalize hq : dep ((tops F).take i) = q at *
      generalize hr : deep x.2 = r at *
      clear hcell hk hx hxm HC HZ hq hr
      go_wp2_with fail
      refine (HH.out _ (HK.out _ (below1 _ _))).mono ?_
      rintro e w2 ⟨rfl, hb2⟩
      replace hb := on (on_alloc hb _) hb2
      go_wp2_with fail
      go_roundw
      case rel => exact ⟨i + 1, by omega, by go_num, by rw [HP.out]; congr 1; omega, hb⟩
      case measure => simp [intOf]; omega
    · obtain rfl : i = n := by omega
      have q13 := kept hb p13
      have HE : Hid ((tops F).take i = tops F) := Lib.hid (List.take_of_length_le (by have := HT.out; unfold arity at this; omega))
      rw [HE.out, dep_tops]
      go_wp2_with fail
      go_ret
      exact ⟨by congr 2, on hb00 hb⟩

theorem deep_c : ∀ (N : Nat) (h : Hd) (A : Option Addr) (n c : Nat) (F : Fo), count F ≤ 1000 → count F ≤ N → ∀ (w : World), KidsR w A n F → Calls Tryd.prog 9 #[.agg #[.int .i64 h.k, .int .i64 h.op, .int .i64 h.vk, .int .i64 h.vn, .string h.vt, .int .i64 h.ar, .int .i64 h.ac, .bool h.ah, .bool h.al, .int .i64 h.br, .int .i64 h.bc, .bool h.bh, .bool h.bl, .slice A n c]] w fun e w' => e = .returned (.int .i64 ((1 + deep F : Nat) : Int)) ∧ Below w.heap.size w w'
  | 0, h, A, n, c, F, hF, hN, w, hz => deep_step h A n c F hF (fun x hx => absurd (top_count hx) (by omega)) w hz
  | N + 1, h, A, n, c, F, hF, hN, w, hz => deep_step h A n c F hF (fun x hx A' n' c' w' hF' hz' => deep_c N x.1 A' n' c' x.2 hF' (by have := top_count hx; omega) w' hz') w hz

set_option maxRecDepth 100000 in
set_option maxHeartbeats 4000000 in
theorem count_step (h : Hd) (A : Option Addr) (n c : Nat) (F : Fo) (hF : count F ≤ 1000)
    (HC : ∀ x ∈ tops F, ∀ (A : Option Addr) (n c : Nat) (w : World), count x.2 ≤ 1000 → KidsR w A n x.2 → Calls Tryd.prog 12 #[.agg #[.int .i64 x.1.k, .int .i64 x.1.op, .int .i64 x.1.vk, .int .i64 x.1.vn, .string x.1.vt, .int .i64 x.1.ar, .int .i64 x.1.ac, .bool x.1.ah, .bool x.1.al, .int .i64 x.1.br, .int .i64 x.1.bc, .bool x.1.bh, .bool x.1.bl, .slice A n c]] w fun e w' => e = .returned (.int .i64 ((1 + count x.2 : Nat) : Int)) ∧ Below w.heap.size w w')
    (w : World) (hz : KidsR w A n F) : Calls Tryd.prog 12 #[.agg #[.int .i64 h.k, .int .i64 h.op, .int .i64 h.vk, .int .i64 h.vn, .string h.vt, .int .i64 h.ar, .int .i64 h.ac, .bool h.ah, .bool h.al, .int .i64 h.br, .int .i64 h.bc, .bool h.bh, .bool h.bl, .slice A n c]] w fun e w' => e = .returned (.int .i64 ((1 + count F : Nat) : Int)) ∧ Below w.heap.size w w' := by
  have HZ := Lib.hid hz
  have HC := Lib.hid HC
  have hn : n ≤ 9223372036854775807 := by have := hz.1.2; unfold maxLen at this; omega
  have HN := Lib.hid hz.1.1
  have hb00 := below1 w (.cells #[.int .i64 h.k, .int .i64 h.op, .int .i64 h.vk, .int .i64 h.vn, .string h.vt, .int .i64 h.ar, .int .i64 h.ac, .bool h.ah, .bool h.al, .int .i64 h.br, .int .i64 h.bc, .bool h.bh, .bool h.bl, .slice A n c] 28)
  have p13 : (w.alloc (.cells #[.int .i64 h.k, .int .i64 h.op, .int .i64 h.vk, .int .i64 h.vn, .string h.vt, .int .i64 h.ar, .int .i64 h.ac, .bool h.ah, .bool h.al, .int .i64 h.br, .int .i64 h.bc, .bool h.bh, .bool h.bl, .slice A n c] 28)).cell? ⟨w.heap.size, 13, none⟩ = some (.slice A n c) := ((CellsAt.new w [.int .i64 h.k, .int .i64 h.op, .int .i64 h.vk, .int .i64 h.vn, .string h.vt, .int .i64 h.ar, .int .i64 h.ac, .bool h.ah, .bool h.al, .int .i64 h.br, .int .i64 h.bc, .bool h.bh, .bool h.bl, .slice A n c] 28).2 13 _ rfl).1
  have hsz := (CellsAt.new w [.int .i64 h.k, .int .i64 h.op, .int .i64 h.vk, .int .i64 h.vn, .string h.vt, .int .i64 h.ar, .int .i64 h.ac, .bool h.ah, .bool h.al, .int .i64 h.br, .int .i64 h.bc, .bool h.bh, .bool h.bl, .slice A n c] 28).1
  clear hz

  go_enter Tryd.func12, Tryd.ntmps12
  go_wp2_with fail
  generalize w.alloc (.cells #[.int .i64 h.k, .int .i64 h.op, .int .i64 h.vk, .int .i64 h.vn, .string h.vt, .int .i64 h.ar, .int .i64 h.ac, .bool h.ah, .bool h.al, .int .i64 h.br, .int .i64 h.bc, .bool h.bh, .bool h.bl, .slice A n c] 28) = W at *
  go_loopw [3, 9] (fun p x wr => ∃ i : Nat, i ≤ n ∧ x = .int .i64 i ∧ p = .int .i64 ((1 + cnt ((tops F).take i) : Nat) : Int) ∧ Below W.heap.size W wr) (fun _ x _ => n - (intOf x).toNat)
  case atStart => exact ⟨0, Nat.zero_le _, rfl, by rw [List.take_zero]; rfl, Below.refl _ _⟩
  case round =>
    obtain ⟨i, hi, rfl, rfl, hb⟩ := hrel
    have HT : Hid (arity F = n) := HN
    have hdl := cnt_take F i
    by_cases hlt : i < n
    · obtain ⟨x, hx⟩ := HZ.out.get hlt
      obtain ⟨b, o, rfl, hblt, hcell, B, m2, c2, y13, hk⟩ := (HZ.out.on (on hb00 hb)).at hx
      have y0 : wr.cell? ⟨b, o + i * 14, none⟩ = some (.int .i64 x.1.k) := hcell 0 _ rfl
      have y1 := hcell 1 _ rfl
      have y2 := hcell 2 _ rfl
      have y3 := hcell 3 _ rfl
      have y4 := hcell 4 _ rfl
      have y5 := hcell 5 _ rfl
      have y6 := hcell 6 _ rfl
      have y7 := hcell 7 _ rfl
      have y8 := hcell 8 _ rfl
      have y9 := hcell 9 _ rfl
      have y10 := hcell 10 _ rfl
      have y11 := hcell 11 _ rfl
      have y12 := hcell 12 _ rfl
      have hxm := List.mem_of_getElem? hx
      have hsl : w.heap.size < wr.heap.size := Nat.lt_of_lt_of_le hsz hb.size
      have q13 := kept hb p13
      have HP : Hid (cnt ((tops F).take (i + 1)) = cnt ((tops F).take i) + (1 + count x.2)) := Lib.hid (by rw [take_snoc hx, cnt_snoc])
      have hxc := top_count hxm
      have HH := Lib.hid (fun w1 => HC.out x hxm B m2 c2 w1 (by omega))
      have HK := Lib.hid (fun w1 (hw : Below wr.heap.size wr w1) => hk.on hw)
      generalize hq : cnt ((tops F).take i) = q at *
      generalize hr : count x.2 = r at *
      clear hcell hk hx hxm HC HZ hq hr
      go_wp2_with fail
      refine (HH.out _ (HK.out _ (below1 _ _))).mono ?_
      rintro e w2 ⟨rfl, hb2⟩
      replace hb := on (on_alloc hb _) hb2
      go_wp2_with fail
      go_roundw
      case rel => exact ⟨i + 1, by omega, by go_num, by rw [HP.out]; congr 1; omega, hb⟩
      case measure => simp [intOf]; omega
    · obtain rfl : i = n := by omega
      have q13 := kept hb p13
      have HE : Hid ((tops F).take i = tops F) := Lib.hid (List.take_of_length_le (by have := HT.out; unfold arity at this; omega))
      rw [HE.out, cnt_tops]
      go_wp2_with fail
      go_ret
      exact ⟨by congr 2, on hb00 hb⟩

theorem count_c : ∀ (N : Nat) (h : Hd) (A : Option Addr) (n c : Nat) (F : Fo), count F ≤ 1000 → count F ≤ N → ∀ (w : World), KidsR w A n F → Calls Tryd.prog 12 #[.agg #[.int .i64 h.k, .int .i64 h.op, .int .i64 h.vk, .int .i64 h.vn, .string h.vt, .int .i64 h.ar, .int .i64 h.ac, .bool h.ah, .bool h.al, .int .i64 h.br, .int .i64 h.bc, .bool h.bh, .bool h.bl, .slice A n c]] w fun e w' => e = .returned (.int .i64 ((1 + count F : Nat) : Int)) ∧ Below w.heap.size w w'
  | 0, h, A, n, c, F, hF, hN, w, hz => count_step h A n c F hF (fun x hx => absurd (top_count hx) (by omega)) w hz
  | N + 1, h, A, n, c, F, hF, hN, w, hz => count_step h A n c F hF (fun x hx A' n' c' w' hF' hz' => count_c N x.1 A' n' c' x.2 hF' (by have := top_count hx; omega) w' hz') w hz
end Go.Proofs.YtcgpggknmhlnkaaDoor.Nod
