/- What the reference's Left, Few and Deep answer of trees. Written by wip/gen22ref.py. -/
import Derived.Test.YtcgpggknmhlnkaaDoorPs05
namespace Go.Proofs.YtcgpggknmhlnkaaDoor.Nod
open Go.RowKit Kit Reg
theorem lv_one (m : Nat) : (m : Int) - 1 = lv m (1 + 0) := by
  unfold lv
  split <;> omega
theorem cnt_take (F : Fo) (i : Nat) : cnt ((tops F).take i) ≤ count F := by
  rw [← cnt_tops F]
  have e : cnt (tops F) = cnt ((tops F).take i) + cnt ((tops F).drop i) := by
    unfold cnt
    rw [← List.sum_append, ← List.map_append, List.take_append_drop]
  omega
theorem deep_le : ∀ F : Fo, deep F ≤ count F
  | .nil => Nat.le_refl _
  | .cons _ k r => by
    have h1 := deep_le k
    have h2 := deep_le r
    unfold deep count
    omega
theorem dep_take (F : Fo) (i : Nat) : dep ((tops F).take i) ≤ deep F := by
  rw [← dep_tops F]
  have e : dep (tops F) = max (dep ((tops F).take i)) (dep ((tops F).drop i)) := by
    unfold dep
    rw [← foldl_max, ← List.foldl_append, List.take_append_drop]
  omega

set_option maxRecDepth 100000 in
set_option maxHeartbeats 4000000 in
theorem rleft_step (h : Hd) (A : Option Addr) (n c : Nat) (F : Fo) (m : Nat) (hm : m ≤ 1000)
    (HC : ∀ x ∈ tops F, ∀ (A : Option Addr) (n c : Nat) (m : Nat) (w : World), m ≤ 1000 → KidsR w A n x.2 → Calls Tryd.prog 21 #[.agg #[.int .i64 x.1.k, .int .i64 x.1.op, .int .i64 x.1.vk, .int .i64 x.1.vn, .string x.1.vt, .int .i64 x.1.ar, .int .i64 x.1.ac, .bool x.1.ah, .bool x.1.al, .int .i64 x.1.br, .int .i64 x.1.bc, .bool x.1.bh, .bool x.1.bl, .slice A n c], .int .i64 (m : Int)] w fun e w' => e = .returned (.int .i64 (lv m (1 + count x.2))) ∧ Below w.heap.size w w')
    (w : World) (hz : KidsR w A n F) : Calls Tryd.prog 21 #[.agg #[.int .i64 h.k, .int .i64 h.op, .int .i64 h.vk, .int .i64 h.vn, .string h.vt, .int .i64 h.ar, .int .i64 h.ac, .bool h.ah, .bool h.al, .int .i64 h.br, .int .i64 h.bc, .bool h.bh, .bool h.bl, .slice A n c], .int .i64 (m : Int)] w fun e w' => e = .returned (.int .i64 (lv m (1 + count F))) ∧ Below w.heap.size w w' := by
  have HZ := Lib.hid hz
  have HC := Lib.hid HC
  have hn : n ≤ 9223372036854775807 := by have := hz.1.2; unfold maxLen at this; omega
  have HN := Lib.hid hz.1.1
  have hb00 := below1 w (.cells #[.int .i64 h.k, .int .i64 h.op, .int .i64 h.vk, .int .i64 h.vn, .string h.vt, .int .i64 h.ar, .int .i64 h.ac, .bool h.ah, .bool h.al, .int .i64 h.br, .int .i64 h.bc, .bool h.bh, .bool h.bl, .slice A n c] 28)
  have p13 : (w.alloc (.cells #[.int .i64 h.k, .int .i64 h.op, .int .i64 h.vk, .int .i64 h.vn, .string h.vt, .int .i64 h.ar, .int .i64 h.ac, .bool h.ah, .bool h.al, .int .i64 h.br, .int .i64 h.bc, .bool h.bh, .bool h.bl, .slice A n c] 28)).cell? ⟨w.heap.size, 13, none⟩ = some (.slice A n c) := ((CellsAt.new w [.int .i64 h.k, .int .i64 h.op, .int .i64 h.vk, .int .i64 h.vn, .string h.vt, .int .i64 h.ar, .int .i64 h.ac, .bool h.ah, .bool h.al, .int .i64 h.br, .int .i64 h.bc, .bool h.bh, .bool h.bl, .slice A n c] 28).2 13 _ rfl).1
  have hsz := (CellsAt.new w [.int .i64 h.k, .int .i64 h.op, .int .i64 h.vk, .int .i64 h.vn, .string h.vt, .int .i64 h.ar, .int .i64 h.ac, .bool h.ah, .bool h.al, .int .i64 h.br, .int .i64 h.bc, .bool h.bh, .bool h.bl, .slice A n c] 28).1
  clear hz

  go_enter Tryd.func21, Tryd.ntmps21
  go_wp2_with fail
  generalize w.alloc (.cells #[.int .i64 h.k, .int .i64 h.op, .int .i64 h.vk, .int .i64 h.vn, .string h.vt, .int .i64 h.ar, .int .i64 h.ac, .bool h.ah, .bool h.al, .int .i64 h.br, .int .i64 h.bc, .bool h.bh, .bool h.bl, .slice A n c] 28) = W at *
  go_loopw [1, 5] (fun p x wr => ∃ i : Nat, i ≤ n ∧ x = .int .i64 i ∧ p = .int .i64 (lv m (1 + cnt ((tops F).take i))) ∧ Below W.heap.size W wr) (fun _ x _ => n - (intOf x).toNat)
  case atStart => exact ⟨0, Nat.zero_le _, rfl, by rw [List.take_zero, show cnt [] = 0 from rfl, ← lv_one m], Below.refl _ _⟩
  case round =>
    obtain ⟨i, hi, rfl, rfl, hb⟩ := hrel
    have HT : Hid (arity F = n) := HN
    by_cases hlt : i < n
    · by_cases hle : 1 + cnt ((tops F).take i) ≤ m
      · obtain ⟨x, hx⟩ := HZ.out.get hlt
        obtain ⟨b, o, rfl, hblt, hcell, B, m2, c2, y13, hk⟩ := (HZ.out.on (on hb00 hb)).at hx
        have y0 : wr.cell? ⟨b, o + i * 14, none⟩ = some (.int .i64 x.1.k) := hcell 0 _ rfl
        have y1 := hcell 1 _ rfl
        have y2 := hcell 2 _ rfl
        have y3 := hcell 3 _ rfl
        have y4 := hcell 4 _ rfl
        have y5 := hcell 5 _ rfl
        have y6 := hcell 6 _ rfl
        have y7 := hcell 7 _ rfl
        have y8 := hcell 8 _ rfl
        have y9 := hcell 9 _ rfl
        have y10 := hcell 10 _ rfl
        have y11 := hcell 11 _ rfl
        have y12 := hcell 12 _ rfl
        have hxm := List.mem_of_getElem? hx
        have hsl : w.heap.size < wr.heap.size := Nat.lt_of_lt_of_le hsz hb.size
        have q13 := kept hb p13
        have HP : Hid (lv m (1 + cnt ((tops F).take (i + 1))) = lv (m - (1 + cnt ((tops F).take i))) (1 + count x.2)) := Lib.hid (by rw [take_snoc hx, cnt_snoc, ← Nat.add_assoc, lv_step hle])
        have HH := Lib.hid (fun w1 => HC.out x hxm B m2 c2 (m - (1 + cnt ((tops F).take i))) w1 (by omega))
        have hlv : lv m (1 + cnt ((tops F).take i)) = ((m - (1 + cnt ((tops F).take i)) : Nat) : Int) := if_pos hle
        rw [hlv]
        generalize m - (1 + cnt ((tops F).take i)) = q at *
        have HK := Lib.hid hk
        clear hcell hk hx hxm hlv hle HC HZ
        go_wp2_with fail
        refine (HH.out _ HK.out).mono ?_
        rintro e w2 ⟨rfl, hb2⟩
        replace hb := on hb hb2
        go_wp2_with fail
        go_roundw
        case rel => exact ⟨i + 1, by omega, by go_num, by rw [HP.out], hb⟩
        case measure => simp [intOf]; omega
      · have hlv : lv m (1 + cnt ((tops F).take i)) = -1 := if_neg hle
        have HE : Hid (lv m (1 + count F) = -1) := Lib.hid (lv_less hle (by have := cnt_take F i; omega))
        have q13 := kept hb p13
        rw [hlv]
        clear hle hlv
        go_wp2_with fail
        go_ret
        exact ⟨by rw [HE.out]; rfl, on hb00 hb⟩
    · obtain rfl : i = n := by omega
      have q13 := kept hb p13
      have HE : Hid ((tops F).take i = tops F) := Lib.hid (List.take_of_length_le (by have := HT.out; unfold arity at this; omega))
      rw [HE.out, cnt_tops]
      go_wp2_with fail
      go_ret
      exact ⟨rfl, on hb00 hb⟩

theorem rleft_c : ∀ (N : Nat) (h : Hd) (A : Option Addr) (n c : Nat) (F : Fo) (m : Nat), m ≤ 1000 → count F ≤ N → ∀ (w : World), KidsR w A n F → Calls Tryd.prog 21 #[.agg #[.int .i64 h.k, .int .i64 h.op, .int .i64 h.vk, .int .i64 h.vn, .string h.vt, .int .i64 h.ar, .int .i64 h.ac, .bool h.ah, .bool h.al, .int .i64 h.br, .int .i64 h.bc, .bool h.bh, .bool h.bl, .slice A n c], .int .i64 (m : Int)] w fun e w' => e = .returned (.int .i64 (lv m (1 + count F))) ∧ Below w.heap.size w w'
  | 0, h, A, n, c, F, m, hm, hN, w, hz => rleft_step h A n c F m hm (fun x hx => absurd (top_count hx) (by omega)) w hz
  | N + 1, h, A, n, c, F, m, hm, hN, w, hz => rleft_step h A n c F m hm (fun x hx A' n' c' m' w' hm' hz' => rleft_c N x.1 A' n' c' x.2 m' hm' (by have := top_count hx; omega) w' hz') w hz

set_option maxRecDepth 100000 in
set_option maxHeartbeats 1000000 in
theorem rfew_c (h : Hd) (A : Option Addr) (n c : Nat) (F : Fo) (m : Nat) (hm : m ≤ 1000) (r : Bool) (hr : decide (1 + count F ≤ m) = r) (w : World) (hz : KidsR w A n F) : Calls Tryd.prog 13 #[.agg #[.int .i64 h.k, .int .i64 h.op, .int .i64 h.vk, .int .i64 h.vn, .string h.vt, .int .i64 h.ar, .int .i64 h.ac, .bool h.ah, .bool h.al, .int .i64 h.br, .int .i64 h.bc, .bool h.bh, .bool h.bl, .slice A n c], .int .i64 (m : Int)] w fun e w' => e = .returned (.bool r) ∧ Below w.heap.size w w' := by
  have HH := Lib.hid (fun w1 hz1 => rleft_c (count F) h A n c F m hm (Nat.le_refl _) w1 hz1)
  have hb00 := below1 w (.cells #[.int .i64 h.k, .int .i64 h.op, .int .i64 h.vk, .int .i64 h.vn, .string h.vt, .int .i64 h.ar, .int .i64 h.ac, .bool h.ah, .bool h.al, .int .i64 h.br, .int .i64 h.bc, .bool h.bh, .bool h.bl, .slice A n c] 28)
  have HZ := Lib.hid (hz.on hb00)
  have d1 : decide (0 ≤ lv m (1 + count F)) = r := by rw [← hr]; exact decide_eq_decide.2 (lv_ge m _)
  clear hz hr
  generalize lv m (1 + count F) = q at *
  go_enter Tryd.func13, Tryd.ntmps13
  go_wp2_with fail
  refine (HH.out _ HZ.out).mono ?_
  rintro e w2 ⟨rfl, hb2⟩
  have hb := on hb00 hb2
  go_wp2_with fail
  go_ret
  exact ⟨rfl, hb⟩
end Go.Proofs.YtcgpggknmhlnkaaDoor.Nod
