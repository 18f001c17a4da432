/- What the program's List answers of trees: a row of copies, in new memory. Written by wip/gen22plist.py. -/
import Derived.Test.YtcgpggknmhlnkaaDoorPs45
namespace Go.Proofs.YtcgpggknmhlnkaaDoor.Nod
open Go.RowKit Kit Reg
/-- a row of one's own of nodes; all below them lies in other blocks -/
def RowL (u : World) (v : Value) (L : List El) (w : World) : Prop := OwnE u.heap.size v L w ∧ AllP (fun b => b < w.heap.size ∧ v.ownBlock ≠ some b) w L ∧ Below u.heap.size u w
theorem RowL.on {u w w' : World} {v : Value} {L : List El} (h : RowL u v L w) (hb : Below w.heap.size w w') : RowL u v L w' :=
  ⟨OwnE.on h.1 hb, h.2.1.to (fun _ h2 => ⟨Nat.lt_of_lt_of_le h2.1 hb.size, h2.2⟩) fun _ _ _ _ hv => Kit.kept hb hv, Kit.on h.2.2 hb⟩
theorem RowL.add {u w1 w3 : World} {v v2 : Value} {L : List El} {e1 : El} {B : Nat} (h : RowL u v L w1) (hvB : ∀ b, v.ownBlock = some b → b < B)
    (hk : KidsP (fun b => B ≤ b ∧ b < w1.heap.size) w1 e1.A e1.n e1.f) (hown : w3.ownsRow u.heap.size 28 14 v2 (L.length + 1) (flatE L ++ e1.cells)) (hg : w1.grownBy w3 v.ownBlock) (hat : v2.ownBlock = v.ownBlock ∨ v2.ownBlock = some w1.heap.size) : RowL u v2 (L ++ [e1]) w3 := by
  refine ⟨OwnE.append (M := [e1]) rfl (by rw [show flatE [e1] = e1.cells from by rw [flatE, flatE, List.append_nil]]; exact hown), fun e he => ?_, els_below h.1 h.2.2 (Nat.le_refl _) hg⟩
  have keep : ∀ b, b < w1.heap.size → v.ownBlock ≠ some b → ∀ o x, w1.cell? ⟨b, o, none⟩ = some x → w3.cell? ⟨b, o, none⟩ = some x := fun b _ hne o x hx => hg.cell hx (fun e => hne e.symm)
  have off : ∀ b, b < w1.heap.size → v.ownBlock ≠ some b → b < w3.heap.size ∧ v2.ownBlock ≠ some b := fun b hb hne => ⟨Nat.lt_of_lt_of_le hb hg.size, fun e2 => by
    rcases hat with e3 | e3
    · exact hne (e3.symm.trans e2)
    · rw [e3] at e2
      simp only [Option.some.injEq] at e2
      omega⟩
  rcases List.mem_append.1 he with he | he
  · exact (h.2.1 e he).to (fun b hb => off b hb.1 hb.2) fun b hb => keep b hb.1 hb.2
  · obtain rfl := List.mem_singleton.1 he
    exact hk.to (fun b hb => off b hb.2 (fun e2 => by have := hvB b e2; omega)) fun b hb => keep b hb.2 (fun e2 => by have := hvB b e2; omega)
/-- a row with all of a tree behind it -/
def ListEnd (u : World) (L : List El) (x : Nd) (e : Ending) (w' : World) : Prop := ∃ v M, e = .returned v ∧ RowL u v (L ++ M) w' ∧ M.map El.nd = x :: flat x.2
set_option maxRecDepth 100000 in
set_option maxHeartbeats 4000000 in
theorem listed_step (u : World) (h : Hd) (A : Option Addr) (n c : Nat) (F : Fo) (hF : count F ≤ 1000)
    (HC : ∀ x ∈ tops F, ∀ (A : Option Addr) (n c : Nat) (v : Value) (L : List El) (w : World), RowL u v L w → L.length + count x.2 ≤ 2000 → count x.2 ≤ 1000 → KidsR u A n x.2 → Calls Tryd.prog 18 #[v, .agg #[.int .i64 x.1.k, .int .i64 x.1.op, .int .i64 x.1.vk, .int .i64 x.1.vn, .string x.1.vt, .int .i64 x.1.ar, .int .i64 x.1.ac, .bool x.1.ah, .bool x.1.al, .int .i64 x.1.br, .int .i64 x.1.bc, .bool x.1.bh, .bool x.1.bl, .slice A n c]] w (ListEnd u L x))
    (v : Value) (L : List El) (w : World) (hr : RowL u v L w) (hL : L.length + count F ≤ 2000) (hz : KidsR u A n F) : Calls Tryd.prog 18 #[v, .agg #[.int .i64 h.k, .int .i64 h.op, .int .i64 h.vk, .int .i64 h.vn, .string h.vt, .int .i64 h.ar, .int .i64 h.ac, .bool h.ah, .bool h.al, .int .i64 h.br, .int .i64 h.bc, .bool h.bh, .bool h.bl, .slice A n c]] w (ListEnd u L (h, F)) := by
  obtain ⟨i0, hii, hz0, hz1, hz2⟩ := info_parts infoE
  have HZ := Lib.hid hz
  have HC := Lib.hid HC
  have hn : n ≤ 9223372036854775807 := by have := hz.1.2; unfold maxLen at this; omega
  have HN := Lib.hid hz.1.1
  have hb00 := below1 w (.cells #[.int .i64 h.k, .int .i64 h.op, .int .i64 h.vk, .int .i64 h.vn, .string h.vt, .int .i64 h.ar, .int .i64 h.ac, .bool h.ah, .bool h.al, .int .i64 h.br, .int .i64 h.bc, .bool h.bh, .bool h.bl, .slice A n c] 28)
  have hX := CellsAt.new w [.int .i64 h.k, .int .i64 h.op, .int .i64 h.vk, .int .i64 h.vn, .string h.vt, .int .i64 h.ar, .int .i64 h.ac, .bool h.ah, .bool h.al, .int .i64 h.br, .int .i64 h.bc, .bool h.bh, .bool h.bl, .slice A n c] 28
  have hus := hr.2.2.size
  have HCP := Lib.hid (copied_c (count F) h A n c F hF (Nat.le_refl _) (w.alloc (.cells #[.int .i64 h.k, .int .i64 h.op, .int .i64 h.vk, .int .i64 h.vn, .string h.vt, .int .i64 h.ar, .int .i64 h.ac, .bool h.ah, .bool h.al, .int .i64 h.br, .int .i64 h.bc, .bool h.bh, .bool h.bl, .slice A n c] 28)) (hz.on (on_alloc hr.2.2 _)))
  have hvB : ∀ b, v.ownBlock = some b → b < w.heap.size := fun b e => (World.ownsRow.lt hr.1 b e).2
  have hr0 := hr.on hb00
  clear hz hr
  go_enter Tryd.func18, Tryd.ntmps18
  go_wp2_with fail
  refine HCP.out.mono ?_
  rintro e w1 ⟨A1, n1, c1, rfl, hk1, hb1⟩
  have hr1 := hr0.on hb1
  have hX1 := hX.on hb1
  have s1 : w.heap.size < w1.heap.size := by have := hb1.size; simp at this; omega
  have hB : (w.alloc (.cells #[.int .i64 h.k, .int .i64 h.op, .int .i64 h.vk, .int .i64 h.vn, .string h.vt, .int .i64 h.ar, .int .i64 h.ac, .bool h.ah, .bool h.al, .int .i64 h.br, .int .i64 h.bc, .bool h.bh, .bool h.bl, .slice A n c] 28)).heap.size = w.heap.size + 1 := by simp
  rw [hB] at hk1
  have hr2 := hr1.on (below1 w1 (.cells #[.int .i64 h.k, .int .i64 h.op, .int .i64 h.vk, .int .i64 h.vn, .string h.vt, .int .i64 h.ar, .int .i64 h.ac, .bool h.ah, .bool h.al, .int .i64 h.br, .int .i64 h.bc, .bool h.bh, .bool h.bl, .slice A1 n1 c1] 28))
  have hk2 : KidsP (fun b => w.heap.size + 1 ≤ b ∧ b < (w1.alloc (.cells #[.int .i64 h.k, .int .i64 h.op, .int .i64 h.vk, .int .i64 h.vn, .string h.vt, .int .i64 h.ar, .int .i64 h.ac, .bool h.ah, .bool h.al, .int .i64 h.br, .int .i64 h.bc, .bool h.bh, .bool h.bl, .slice A1 n1 c1] 28)).heap.size) (w1.alloc (.cells #[.int .i64 h.k, .int .i64 h.op, .int .i64 h.vk, .int .i64 h.vn, .string h.vt, .int .i64 h.ar, .int .i64 h.ac, .bool h.ah, .bool h.al, .int .i64 h.br, .int .i64 h.bc, .bool h.bh, .bool h.bl, .slice A1 n1 c1] 28)) A1 n1 F := hk1.to (fun b hb => ⟨hb.1, by have := hb.2; simp; omega⟩) fun b _ o v hv => kept (below1 _ _) hv
  have hX2 := hX1.on_alloc (.cells #[.int .i64 h.k, .int .i64 h.op, .int .i64 h.vk, .int .i64 h.vn, .string h.vt, .int .i64 h.ar, .int .i64 h.ac, .bool h.ah, .bool h.al, .int .i64 h.br, .int .i64 h.bc, .bool h.bh, .bool h.bl, .slice A1 n1 c1] 28)
  have hrow := hr2.1
  unfold OwnE at hrow
  clear hr0 hr1 hk1 hX1 hX hb1 hb00
  go_wp2_with (at_builtin; go_loud (refine wpList_append_own_at _ rfl _ _ 26 rfl u.heap.size 28 i0 _ 14 120 Tryd.underlying26 hii hz0 hz1 hz2 rfl (by decide) v _ _ rfl hrow ⟨_, 0, none⟩ 1 1 [.int .i64 h.k, .int .i64 h.op, .int .i64 h.vk, .int .i64 h.vn, .string h.vt, .int .i64 h.ar, .int .i64 h.ac, .bool h.ah, .bool h.al, .int .i64 h.br, .int .i64 h.bc, .bool h.bh, .bool h.bl, .slice A1 n1 c1] rfl rfl ?c1 ?c2 ?c3 ?c4 ?c5 ?_))
  case c1 => exact list_new (by simp) _ _
  case c2 => exact el_one ⟨h, A1, n1, c1, F⟩
  case c3 => unfold maxLen; omega
  case c4 => omega
  case c5 => simp; omega
  intro v2 w3 hown3 hg3 _ hat3
  have hr3 := hr2.add (e1 := ⟨h, A1, n1, c1, F⟩) (fun b e => Nat.lt_succ_of_lt (hvB b e)) hk2 hown3 hg3 (hat3.imp_right fun e => by rw [e]; simp)
  have hX3 := cells_grown hX2 hg3 (fun e => by have := hvB _ e.symm; omega)
  have p13 := (hX3.2 13 _ rfl).1
  clear hown3 hg3 hat3 hrow hX2 hX3 hr2 hk2 hvB HCP hB
  go_wp2_with fail
  go_loopw [0, 15] (fun v x wr => ∃ i : Nat, i ≤ n ∧ x = .int .i64 i ∧ (∃ M, RowL u v (L ++ M) wr ∧ Hid (M.map El.nd = (h, F) :: flt ((tops F).take i)) ∧ M.length = 1 + cnt ((tops F).take i))) (fun _ x _ => n - (intOf x).toNat)
  case atStart => exact ⟨0, Nat.zero_le _, rfl, _, hr3, Lib.hid rfl, rfl⟩
  case round =>
    clear hr3 p13
    obtain ⟨i, hi, rfl, M, hr, HM, hMl⟩ := hrel
    have HT : Hid (arity F = n) := HN
    have hct := cnt_take F i
    by_cases hlt : i < n
    · obtain ⟨x, hx⟩ := HZ.out.get hlt
      obtain ⟨b, o, rfl, hblt, hcellu, B, m2, c2, y13u, hk⟩ := HZ.out.at hx
      have hur := hr.2.2
      have hcell := fun j v hj => kept hur (hcellu j v hj)
      have y13 := kept hur y13u
      have hblt2 := Nat.lt_of_lt_of_le hblt hur.size
      have y0 : wr.cell? ⟨b, o + i * 14, none⟩ = some (.int .i64 x.1.k) := hcell 0 _ rfl
      have y1 := hcell 1 _ rfl
      have y2 := hcell 2 _ rfl
      have y3 := hcell 3 _ rfl
      have y4 := hcell 4 _ rfl
      have y5 := hcell 5 _ rfl
      have y6 := hcell 6 _ rfl
      have y7 := hcell 7 _ rfl
      have y8 := hcell 8 _ rfl
      have y9 := hcell 9 _ rfl
      have y10 := hcell 10 _ rfl
      have y11 := hcell 11 _ rfl
      have y12 := hcell 12 _ rfl
      have hxm := List.mem_of_getElem? hx
      have hxc := top_count hxm
      have HP : Hid (flt ((tops F).take (i + 1)) = flt ((tops F).take i) ++ (x :: flat x.2)) := Lib.hid (by rw [take_snoc hx, flt_snoc])
      have HPc : Hid (cnt ((tops F).take (i + 1)) = cnt ((tops F).take i) + (1 + count x.2)) := Lib.hid (by rw [take_snoc hx, cnt_snoc])
      have hcle := cnt_take F (i + 1)
      have HH := Lib.hid (HC.out x hxm B m2 c2 _ (L ++ M) _ (hr.on (below1 wr (.cells #[.int .i64 x.1.k, .int .i64 x.1.op, .int .i64 x.1.vk, .int .i64 x.1.vn, .string x.1.vt, .int .i64 x.1.ar, .int .i64 x.1.ac, .bool x.1.ah, .bool x.1.al, .int .i64 x.1.br, .int .i64 x.1.bc, .bool x.1.bh, .bool x.1.bl, .slice B m2 c2] 28))) (by have := HPc.out; rw [List.length_append]; omega) (by omega) hk)
      clear hcell hcellu y13u hk hx hxm hr hur
      go_wp2_with fail
      refine HH.out.mono ?_
      rintro e w2 ⟨v', M2, rfl, hr2, hm2⟩
      have HM2 := Lib.hid hm2
      clear y0 y1 y2 y3 y4 y5 y6 y7 y8 y9 y10 y11 y12 y13 HH hm2
      go_wp2_with fail
      go_roundw
      case rel => exact ⟨i + 1, by omega, by go_num, M ++ M2, by rw [← List.append_assoc]; exact hr2, Lib.hid (by rw [List.map_append, HM.out, HM2.out, HP.out]; rfl), by
        have e2 : M2.length = 1 + count x.2 := by rw [← List.length_map (f := El.nd), HM2.out, List.length_cons, flat_length, Nat.add_comm]
        rw [List.length_append, HPc.out, e2]; omega⟩
      case measure => simp [intOf]; omega
    · obtain rfl : n = i := by omega
      have HE : Hid ((tops F).take n = tops F) := Lib.hid (List.take_of_length_le (by have := HT.out; unfold arity at this; omega))
      have HM4 : Hid (M.map El.nd = (h, F) :: flat F) := Lib.hid (by rw [HM.out, HE.out, flt_tops])
      have HR := Lib.hid hr
      clear hr
      go_wp2_with fail
      go_ret
      exact ⟨_, M, rfl, HR.out, HM4.out⟩
theorem listed_c (u : World) : ∀ (N : Nat) (h : Hd) (A : Option Addr) (n c : Nat) (F : Fo), count F ≤ 1000 → count F ≤ N → ∀ (v : Value) (L : List El) (w : World), RowL u v L w → L.length + count F ≤ 2000 → KidsR u A n F → Calls Tryd.prog 18 #[v, .agg #[.int .i64 h.k, .int .i64 h.op, .int .i64 h.vk, .int .i64 h.vn, .string h.vt, .int .i64 h.ar, .int .i64 h.ac, .bool h.ah, .bool h.al, .int .i64 h.br, .int .i64 h.bc, .bool h.bh, .bool h.bl, .slice A n c]] w (ListEnd u L (h, F))
  | 0, h, A, n, c, F, hF, hN, v, L, w, hr, hL, hz => listed_step u h A n c F hF (fun x hx => absurd (top_count hx) (by omega)) v L w hr hL hz
  | N + 1, h, A, n, c, F, hF, hN, v, L, w, hr, hL, hz => listed_step u h A n c F hF (fun x hx A' n' c' v' L' w' hr' hL' hF' hz' => listed_c u N x.1 A' n' c' x.2 hF' (by have := top_count hx; omega) v' L' w' hr' hL' hz') v L w hr hL hz
/-- a row of copies of a tree's nodes -/
def PListIs (x : Nd) (w : World) (e : Ending) (w' : World) : Prop := ∃ A c L, e = .returned (.slice A (1 + count x.2) c) ∧ ElsR w' A (1 + count x.2) L ∧ Good w' L ∧ L.map El.nd = x :: flat x.2 ∧ Below w.heap.size w w'
set_option maxRecDepth 100000 in
set_option maxHeartbeats 4000000 in
theorem list_c (h : Hd) (A : Option Addr) (n c : Nat) (F : Fo) (hF : count F ≤ 1000) (w : World) (hz : KidsR w A n F) : Calls Tryd.prog 8 #[.agg #[.int .i64 h.k, .int .i64 h.op, .int .i64 h.vk, .int .i64 h.vn, .string h.vt, .int .i64 h.ar, .int .i64 h.ac, .bool h.ah, .bool h.al, .int .i64 h.br, .int .i64 h.bc, .bool h.bh, .bool h.bl, .slice A n c]] w (PListIs (h, F) w) := by
  have HH := Lib.hid (listed_c w (count F) h A n c F hF (Nat.le_refl _) (.slice none 0 0) [] (w.alloc (.cells #[.int .i64 h.k, .int .i64 h.op, .int .i64 h.vk, .int .i64 h.vn, .string h.vt, .int .i64 h.ar, .int .i64 h.ac, .bool h.ah, .bool h.al, .int .i64 h.br, .int .i64 h.bc, .bool h.bh, .bool h.bl, .slice A n c] 28)) ⟨World.ownsRow_nil _ _ _ _, (fun e (he : e ∈ []) => by cases he), below1 _ _⟩ (by simp; omega) hz)
  clear hz
  go_enter Tryd.func8, Tryd.ntmps8
  go_wp2_with fail
  refine HH.out.mono ?_
  rintro e w2 ⟨v, M, rfl, hr, hm⟩
  obtain ⟨h1, h2, h3⟩ := hr
  rw [List.nil_append] at h1 h2
  obtain ⟨A2, c2, rfl, hz2⟩ := h1.reads
  have e2 : M.length = 1 + count F := by rw [← List.length_map (f := El.nd), hm, List.length_cons, flat_length, Nat.add_comm]
  rw [e2] at hz2 ⊢
  have HR := Lib.hid (show PListIs (h, F) w (.returned (.slice A2 (1 + count F) c2)) w2 from ⟨A2, c2, M, rfl, hz2, h2.good fun b hb => hb.1, hm, h3⟩)
  clear h1 h2 h3 hm hz2 e2 HH
  go_wp2_with fail
  go_ret
  exact HR.out
end Go.Proofs.YtcgpggknmhlnkaaDoor.Nod
