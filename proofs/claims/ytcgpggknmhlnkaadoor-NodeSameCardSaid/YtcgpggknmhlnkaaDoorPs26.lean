/- What the reference's List answers of trees. Written by wip/gen22list.py. -/
import Derived.Test.YtcgpggknmhlnkaaDoorPs06
namespace Go.Proofs.YtcgpggknmhlnkaaDoor.Nod
open Go.RowKit Kit Reg
theorem infoE : (Tryd.prog.info? 28).map (fun i => (i.zero, i.size, i.bytes)) = some (some (.agg #[.int .i64 0, .int .i64 0, .int .i64 0, .int .i64 0, .string ⟨#[]⟩, .int .i64 0, .int .i64 0, .bool false, .bool false, .int .i64 0, .int .i64 0, .bool false, .bool false, .slice none 0 0]), 14, 120) := by kernel_rfl
theorem flatE_get : ∀ (L : List El) (j : Nat) (u : Value), (flatE L)[j]? = some u → ∃ i e j', L[i]? = some e ∧ e.cells[j']? = some u ∧ j = i * 14 + j'
  | [], j, u, h => by simp [flatE] at h
  | e :: L, j, u, h => by
    rw [flatE] at h
    by_cases hj : j < 14
    · rw [List.getElem?_append_left (by show j < 14; exact hj)] at h
      exact ⟨0, e, j, rfl, h, by omega⟩
    · rw [List.getElem?_append_right (by show 14 ≤ j; omega)] at h
      obtain ⟨i, e', j', h1, h2, h3⟩ := flatE_get L (j - 14) u h
      exact ⟨i + 1, e', j', by simpa using h1, h2, by omega⟩
theorem el_one (e : El) : ∀ u ∈ e.cells, u.oneCell' = true := by
  intro u hu
  unfold El.cells Hd.cells at hu
  simp only [List.cons_append, List.nil_append, List.mem_cons, List.not_mem_nil, or_false] at hu
  rcases hu with rfl | rfl | rfl | rfl | rfl | rfl | rfl | rfl | rfl | rfl | rfl | rfl | rfl | rfl <;> rfl
theorem flatE_one : ∀ (L : List El), ∀ u ∈ flatE L, u.oneCell' = true
  | [], u, h => by cases h
  | e :: L, u, h => by
    rcases List.mem_append.1 h with h | h
    · exact el_one e u h
    · exact flatE_one L u h
theorem ElsR.cells {w : World} {b o n : Nat} {L : List El} (h : ElsR w (some ⟨b, o, none⟩) n L) : ∀ j u, (flatE L)[j]? = some u → w.cell? ((⟨b, o, none⟩ : Addr).add j) = some u := by
  intro j u hj
  obtain ⟨i, e, j', h1, h2, rfl⟩ := flatE_get L j u hj
  obtain ⟨h3, h4⟩ := h
  have hi := (List.getElem?_eq_some_iff.1 h1).1
  obtain ⟨b', o', e1, _, h5⟩ := h4 (by omega)
  simp only [Option.some.injEq, Addr.mk.injEq, and_true] at e1
  obtain ⟨rfl, rfl⟩ := e1
  rw [Go.WideShapes.add_plain, ← Nat.add_assoc]
  exact h5 i e h1 j' u h2
theorem els_below {B : Nat} {e : TypeId} {w0 w w' : World} {v : Value} {n : Nat} {xs : List Value} (h : w.ownsRow B e 14 v n xs) (hb : Below w0.heap.size w0 w) (hB : w0.heap.size ≤ B) (hg : w.grownBy w' v.ownBlock) : Below w0.heap.size w0 w' :=
  hb.grown hg (by have := hb.size; omega) (fun b e => Nat.le_trans hB (World.ownsRow.lt h b e).1)
theorem els_below_new {B : Nat} {e : TypeId} {w0 w w' : World} {v : Value} {n : Nat} {xs : List Value} {o : Obj} (h : w.ownsRow B e 14 v n xs) (hb : Below w0.heap.size w0 w) (hB : w0.heap.size ≤ B) (hg : (w.alloc o).grownBy w' v.ownBlock) : Below w0.heap.size w0 w' :=
  (on_alloc hb _).grown hg (by have := hb.size; simp; omega) (fun b e => Nat.le_trans hB (World.ownsRow.lt h b e).1)
theorem list_new {w : World} {g : Nat} (hg : g = w.heap.size) (cs : List Value) (ty : TypeId) : ∀ j q, cs[j]? = some q → (w.alloc (.cells cs.toArray ty)).cell? ((⟨g, 0, none⟩ : Addr).add j) = some q := by
  intro j q hj
  rw [show ((⟨g, 0, none⟩ : Addr).add j) = ⟨g, j, none⟩ by unfold Addr.add; split <;> simp_all, hg]
  exact ((CellsAt.new w cs ty).2 j q hj).1
/-- a slice of these nodes in a row -/
def ListIs (u : World) (x : Nd) (w : World) (e : Ending) (w' : World) : Prop := ∃ A c L, e = .returned (.slice A (1 + count x.2) c) ∧ ElsR w' A (1 + count x.2) L ∧ Good u L ∧ L.map El.nd = x :: flat x.2 ∧ Below w.heap.size w w'
set_option maxRecDepth 100000 in
set_option maxHeartbeats 4000000 in
theorem rlist_step (u : World) (h : Hd) (A : Option Addr) (n c : Nat) (F : Fo) (hF : count F ≤ 1000)
    (HC : ∀ x ∈ tops F, ∀ (A : Option Addr) (n c : Nat) (w : World), Below u.heap.size u w → count x.2 ≤ 1000 → KidsR u A n x.2 → Calls Tryd.prog 20 #[.agg #[.int .i64 x.1.k, .int .i64 x.1.op, .int .i64 x.1.vk, .int .i64 x.1.vn, .string x.1.vt, .int .i64 x.1.ar, .int .i64 x.1.ac, .bool x.1.ah, .bool x.1.al, .int .i64 x.1.br, .int .i64 x.1.bc, .bool x.1.bh, .bool x.1.bl, .slice A n c]] w (ListIs u x w))
    (w : World) (hu : Below u.heap.size u w) (hz : KidsR u A n F) : Calls Tryd.prog 20 #[.agg #[.int .i64 h.k, .int .i64 h.op, .int .i64 h.vk, .int .i64 h.vn, .string h.vt, .int .i64 h.ar, .int .i64 h.ac, .bool h.ah, .bool h.al, .int .i64 h.br, .int .i64 h.bc, .bool h.bh, .bool h.bl, .slice A n c]] w (ListIs u (h, F) w) := by
  obtain ⟨i0, hii, hz0, hz1, hz2⟩ := info_parts infoE
  have HZ := Lib.hid hz
  have HC := Lib.hid HC
  have hn : n ≤ 9223372036854775807 := by have := hz.1.2; unfold maxLen at this; omega
  have HN := Lib.hid hz.1.1
  have hb00 := below1 w (.cells #[.int .i64 h.k, .int .i64 h.op, .int .i64 h.vk, .int .i64 h.vn, .string h.vt, .int .i64 h.ar, .int .i64 h.ac, .bool h.ah, .bool h.al, .int .i64 h.br, .int .i64 h.bc, .bool h.bh, .bool h.bl, .slice A n c] 28)
  have hX := CellsAt.new w [.int .i64 h.k, .int .i64 h.op, .int .i64 h.vk, .int .i64 h.vn, .string h.vt, .int .i64 h.ar, .int .i64 h.ac, .bool h.ah, .bool h.al, .int .i64 h.br, .int .i64 h.bc, .bool h.bh, .bool h.bl, .slice A n c] 28
  have hrow : OwnE (w.heap.size + 1) (.slice none 0 0) [] (w.alloc (.cells #[.int .i64 h.k, .int .i64 h.op, .int .i64 h.vk, .int .i64 h.vn, .string h.vt, .int .i64 h.ar, .int .i64 h.ac, .bool h.ah, .bool h.al, .int .i64 h.br, .int .i64 h.bc, .bool h.bh, .bool h.bl, .slice A n c] 28)) := World.ownsRow_nil _ _ _ _
  have HNW := Lib.hid (fun (w0 : World) => CellsAt.new w0 [.int .i64 h.k, .int .i64 h.op, .int .i64 h.vk, .int .i64 h.vn, .string h.vt, .int .i64 h.ar, .int .i64 h.ac, .bool h.ah, .bool h.al, .int .i64 h.br, .int .i64 h.bc, .bool h.bh, .bool h.bl, .slice A n c] 28)
  clear hz
  unfold OwnE at hrow
  go_enter Tryd.func20, Tryd.ntmps20
  go_upto_region 2 with fail
  generalize Value.slice none 0 0 = v0 at hrow ⊢
  go_wp2_with (at_builtin; refine wpList_append_own _ rfl _ _ 26 rfl (w.heap.size + 1) 28 i0 _ 14 120 Tryd.underlying26 hii hz0 hz1 hz2 rfl (by decide) _ _ _ rfl (hrow.alloc _) ⟨_, 0, none⟩ 1 1 [.int .i64 h.k, .int .i64 h.op, .int .i64 h.vk, .int .i64 h.vn, .string h.vt, .int .i64 h.ar, .int .i64 h.ac, .bool h.ah, .bool h.al, .int .i64 h.br, .int .i64 h.bc, .bool h.bh, .bool h.bl, .slice A n c] rfl rfl ?c1 ?c2 ?c3 ?c4 ?c5 ?_)
  case c1 => exact list_new (by simp) _ _
  case c2 => exact el_one ⟨h, A, n, c, F⟩
  case c3 => unfold maxLen; decide
  case c4 => decide
  case c5 => simp
  intro v1 w1 hown1 hg1 _
  have hb1 := els_below_new hrow hb00 (by omega) hg1
  have hX1 := cells_grown (hX.on_alloc _) hg1 (own_far hrow (by omega))
  have hrow1 := OwnE.append (L := []) (M := [⟨h, A, n, c, F⟩]) (m := 1) rfl hown1
  have p13 := (hX1.2 13 _ rfl).1
  have hgood : Good u [⟨h, A, n, c, F⟩] := fun e he => by rw [List.mem_singleton.1 he]; exact HZ.out
  rw [List.nil_append] at hrow1
  clear hown1 hg1 hrow hX HNW
  go_wp2_with fail
  go_loopw [3, 4] (fun v x wr => ∃ i : Nat, i ≤ n ∧ x = .int .i64 i ∧ (∃ L, OwnE (w.heap.size + 1) v L wr ∧ Good u L ∧ Hid (L.map El.nd = (h, F) :: flt ((tops F).take i)) ∧ L.length = 1 + cnt ((tops F).take i)) ∧ Below w.heap.size w wr ∧ wr.cell? ⟨w.heap.size, 13, none⟩ = some (.slice A n c) ∧ CellsAt wr w.heap.size [.int .i64 h.k, .int .i64 h.op, .int .i64 h.vk, .int .i64 h.vn, .string h.vt, .int .i64 h.ar, .int .i64 h.ac, .bool h.ah, .bool h.al, .int .i64 h.br, .int .i64 h.bc, .bool h.bh, .bool h.bl, .slice A n c]) (fun _ x _ => n - (intOf x).toNat)
  case atStart => exact ⟨0, Nat.zero_le _, rfl, ⟨_, hrow1, hgood, Lib.hid rfl, rfl⟩, hb1, p13, hX1⟩
  case round =>
    clear hrow1 hgood hb1 p13 hX1
    obtain ⟨i, hi, rfl, ⟨L, hrow, hgood, HL, hLl⟩, hb, q13, hX⟩ := hrel
    have HT : Hid (arity F = n) := HN
    have hct := cnt_take F i
    have hs0 := hb.size
    have hLb : L.length ≤ 1001 := by omega
    replace hLl := Lib.hid hLl
    by_cases hlt : i < n
    · obtain ⟨x, hx⟩ := HZ.out.get hlt
      obtain ⟨b, o, rfl, hblt, hcellu, B, m2, c2, y13u, hk⟩ := HZ.out.at hx
      have hur := on hu hb
      have hcell := fun j v hj => kept hur (hcellu j v hj)
      have y13 := kept hur y13u
      have hblt2 := Nat.lt_of_lt_of_le hblt hur.size
      have y0 : wr.cell? ⟨b, o + i * 14, none⟩ = some (.int .i64 x.1.k) := hcell 0 _ rfl
      have y1 := hcell 1 _ rfl
      have y2 := hcell 2 _ rfl
      have y3 := hcell 3 _ rfl
      have y4 := hcell 4 _ rfl
      have y5 := hcell 5 _ rfl
      have y6 := hcell 6 _ rfl
      have y7 := hcell 7 _ rfl
      have y8 := hcell 8 _ rfl
      have y9 := hcell 9 _ rfl
      have y10 := hcell 10 _ rfl
      have y11 := hcell 11 _ rfl
      have y12 := hcell 12 _ rfl
      have hxm := List.mem_of_getElem? hx
      have hxc := top_count hxm
      have HP : Hid (flt ((tops F).take (i + 1)) = flt ((tops F).take i) ++ (x :: flat x.2)) := Lib.hid (by rw [take_snoc hx, flt_snoc])
      have HPc : Hid (cnt ((tops F).take (i + 1)) = cnt ((tops F).take i) + (1 + count x.2)) := Lib.hid (by rw [take_snoc hx, cnt_snoc])
      have HH := Lib.hid (fun w1 => HC.out x hxm B m2 c2 w1)
      have HK := Lib.hid hk
      clear hcell hcellu y13u hk hx hxm
      go_wp2_with fail
      refine (HH.out _ hur (by omega) HK.out).mono ?_
      rintro e w2 ⟨A3, c3, L3, rfl, hz3, hgd3, hm3, hb2⟩
      obtain ⟨g, o3, rfl, hg3, _⟩ := hz3.2 (by omega)
      replace hrow := hrow.on hb2
      replace hX := hX.on hb2
      replace hb := on hb hb2
      have hs2 := hb.size
      have HL3 := Lib.hid hz3.1
      have hlt8 := hX.1
      have HZ3 := Lib.hid hz3
      clear hz3 HH y0 y1 y2 y3 y4 y5 y6 y7 y8 y9 y10 y11 y12 y13 hb2 q13
      unfold OwnE at hrow
      generalize hcq : cnt ((tops F).take i) = cq at *
      generalize hxq : count x.2 = xq at *
      go_wp2_with (at_builtin; refine wpList_append_own _ rfl _ _ 26 rfl (w.heap.size + 1) 28 i0 _ 14 120 Tryd.underlying26 hii hz0 hz1 hz2 rfl (by decide) _ _ _ rfl hrow ⟨g, o3, none⟩ (1 + xq) c3 (flatE L3) rfl ?c0 ?c1 ?c2 ?c3 ?c4 ?c5 ?_)
      case c0 => rw [flatE_length, HL3.out]
      case c1 => exact HZ3.out.cells
      case c2 => exact flatE_one L3
      case c3 => unfold maxLen; omega
      case c4 => omega
      case c5 => omega
      intro v2 w3 hown3 hg4 _
      have hb4 := els_below hrow hb (by omega) hg4
      have hX4 := cells_grown hX hg4 (own_far hrow (by omega))
      have hrow4 := OwnE.append HL3.out hown3
      have q13 := (hX4.2 13 _ rfl).1
      have hgood4 : Good u (L ++ L3) := fun e he => (List.mem_append.1 he).elim (hgood e) (hgd3 e)
      clear hown3 hg4 hrow hX hgood hb hur
      go_wp2_with fail
      go_roundw
      case rel => exact ⟨i + 1, by omega, by go_num, ⟨L ++ L3, hrow4, hgood4, Lib.hid (by rw [List.map_append, HL.out, hm3, HP.out]; rfl), by rw [List.length_append, HL3.out, hLl.out, HPc.out]; omega⟩, hb4, q13, hX4⟩
      case measure => simp [intOf]; omega
    · obtain rfl : i = n := by omega
      have HE : Hid ((tops F).take i = tops F) := Lib.hid (List.take_of_length_le (by have := HT.out; unfold arity at this; omega))
      obtain ⟨A4, c4, rfl, hz4⟩ := hrow.reads
      have HZ4 := Lib.hid hz4
      replace hLl := hLl.out
      rw [HE.out, cnt_tops] at hLl
      replace hLl := Lib.hid hLl
      have HM := Lib.hid (HL.out)
      rw [HE.out, flt_tops] at HM
      clear hz4 hrow
      go_wp2_with fail
      go_ret
      exact ⟨A4, c4, L, by rw [← hLl.out]; rfl, by show ElsR wr A4 (1 + count F) L; rw [← hLl.out]; exact HZ4.out, hgood, HM.out, hb⟩
theorem rlist_c (u : World) : ∀ (N : Nat) (h : Hd) (A : Option Addr) (n c : Nat) (F : Fo), count F ≤ 1000 → count F ≤ N → ∀ (w : World), Below u.heap.size u w → KidsR u A n F → Calls Tryd.prog 20 #[.agg #[.int .i64 h.k, .int .i64 h.op, .int .i64 h.vk, .int .i64 h.vn, .string h.vt, .int .i64 h.ar, .int .i64 h.ac, .bool h.ah, .bool h.al, .int .i64 h.br, .int .i64 h.bc, .bool h.bh, .bool h.bl, .slice A n c]] w (ListIs u (h, F) w)
  | 0, h, A, n, c, F, hF, hN, w, hu, hz => rlist_step u h A n c F hF (fun x hx => absurd (top_count hx) (by omega)) w hu hz
  | N + 1, h, A, n, c, F, hF, hN, w, hu, hz => rlist_step u h A n c F hF (fun x hx A' n' c' w' hu' hF' hz' => rlist_c u N x.1 A' n' c' x.2 hF' (by have := top_count hx; omega) w' hu' hz') w hu hz
end Go.Proofs.YtcgpggknmhlnkaaDoor.Nod
