/- What the reference's Sorted answers: for any slice of at most 1000 numbers. -/
import Derived.Test.YtngnjphhjmhomaaOrdRef
namespace Go.Proofs.Ytngnjphhjmhomaa.Odr
open Go.RowKit Kit Reg Dec

theorem drew_b {w : World} {q : Nat} : Below w.heap.size w (w.drewN q) := drew_below rfl
/-- so far all are not greater -/
def Upto (s : List Int) (j : Nat) (x : Int) : Prop := ∀ i y, i < j → s[i]? = some y → y ≤ x
theorem Upto.zero (s : List Int) (x : Int) : Upto s 0 x := fun i y h => by omega
theorem Upto.next {s : List Int} {j : Nat} {x y : Int} (h : Upto s j x) (hj : s[j]? = some y) (hy : y ≤ x) : Upto s (j + 1) x := fun i z hi hz => by
  by_cases e : i < j
  · exact h i z e hz
  · obtain rfl : i = j := by omega
    obtain rfl := Option.some.inj (hj.symm.trans hz)
    exact hy
theorem IntsR.take {w : World} {A : Option Addr} {xs : List Int} (h : IntsR w A xs) (j : Nat) : IntsR w A (xs.take j) := by
  rcases h with rfl | ⟨g, o, hA, hg, h⟩
  · exact .inl (by simp)
  · refine .inr ⟨g, o, hA, hg, fun i n hi => h i n ?_⟩
    by_cases e : i < j
    · rwa [List.getElem?_take_of_lt e] at hi
    · rw [List.getElem?_take_eq_none (by omega)] at hi
      cases hi
theorem IntsR.drop {w : World} {g : Nat} {xs : List Int} (h : IntsR w (some ⟨g, 0, none⟩) xs) (j : Nat) : IntsR w (some ⟨g, j, none⟩) (xs.drop j) := by
  rcases h with rfl | ⟨g2, o, hA, hg, h⟩
  · exact .inl (by simp)
  · simp only [Option.some.injEq, Addr.mk.injEq, and_true] at hA
    obtain ⟨rfl, rfl⟩ := hA
    refine .inr ⟨_, j, rfl, hg, fun i n hi => ?_⟩
    rw [List.getElem?_drop] at hi
    have := h (j + i) n hi
    rwa [Nat.zero_add] at this
theorem IntsR.dropEnd {w : World} {A B : Option Addr} {xs : List Int} {j : Nat} (_ : IntsR w A xs) (hl : xs.length = j) : IntsR w B (xs.drop j) := .inl (by rw [← hl, List.drop_length])
theorem IntsR.dropNone {w : World} {xs : List Int} (h : IntsR w none xs) (j : Nat) : IntsR w none (xs.drop j) := by
  rcases h with rfl | ⟨g, o, hA, _⟩
  · exact .inl (by simp)
  · cases hA
theorem OwnI.addr {B : Nat} {A : Option Addr} {m c : Nat} {xs : List Int} {w : World} (h : OwnI B (.slice A m c) xs w) : A = none ∨ ∃ g, A = some ⟨g, 0, none⟩ := by
  rcases h.2 with ⟨e, _⟩ | ⟨g, cap, cur, e, _⟩
  · simp only [Value.slice.injEq] at e
    exact .inl e.1
  · simp only [Value.slice.injEq] at e
    exact .inr ⟨g, e.1⟩
set_option maxRecDepth 100000 in
set_option maxHeartbeats 2000000 in
theorem rsorted_c (A : Option Addr) (n c : Nat) (xs : List Int) (hn : n ≤ 1000) (w : World) (hz : NumsR w A n c xs) :
    Calls Try.prog 23 #[.slice A n c] w fun e w' => ∃ A2 c2, e = .returned (.slice A2 n c2) ∧ IntsR w' A2 (srt xs) ∧ Below w.heap.size w w' := by
  obtain ⟨i0, hi, hz0, hz1, hz2⟩ := info_parts infoI
  have HZ := Lib.hid hz
  clear hz
  go_enter Try.func23, Try.ntmps23
  go_wp2
  go_loopw [3, 4, 5, 6] (fun o i _ _ wr => ∃ k : Nat, k ≤ n ∧ i = .int .i64 k ∧ OwnI w.heap.size o (srt (xs.take k)) wr ∧ Below w.heap.size w wr) (fun _ i _ _ _ => n - (intOf i).toNat)
  case atStart => exact ⟨0, Nat.zero_le _, rfl, by rw [List.take_zero, srt_nil]; exact World.ownsRow_nil _ _ _ _, Below.refl _ _⟩
  case round =>
    obtain ⟨k, hk, rfl, hown, hb⟩ := hrel
    have hsl : (srt (xs.take k)).length = k := by rw [srt_len, List.length_take, HZ.out.len]; omega
    by_cases hlt : k < n
    · obtain ⟨x, hx⟩ := HZ.out.get hlt
      have HX := Lib.hid hx
      have hput : ∀ j, Upto (srt (xs.take k)) j x → (∀ y, (srt (xs.take k))[j]? = some y → x < y) → srt (xs.take (k + 1)) = (srt (xs.take k)).take j ++ [x] ++ (srt (xs.take k)).drop j := fun j h1 h2 => put_srt HX.out h1 h2
      have HP := Lib.hid hput
      clear hput hx
      obtain ⟨S, hS⟩ : ∃ S, srt (xs.take k) = S := ⟨_, rfl⟩
      rw [hS] at hown hsl HP
      clear hS
      obtain ⟨A2, c2, rfl, hrd, hnil, hcap⟩ := hown.reads
      have HA := Lib.hid hown.addr
      rw [hsl] at hown hnil hcap ⊢
      have HO := Lib.hid hown
      have HR := Lib.hid hrd
      have HN := Lib.hid hnil
      have HL := Lib.hid hsl
      clear hown hrd hnil hsl
      go_wp2
      generalize wr = W0 at *
      go_loopw [5] (fun q wr => ∃ j : Nat, j ≤ k ∧ q = .int .i64 j ∧ Hid (Upto S j x) ∧ ∃ d, wr = W0.drewN d) (fun q _ => k - (intOf q).toNat)
      case atStart => exact ⟨0, Nat.zero_le _, rfl, Lib.hid (Upto.zero _ _), 0, rfl⟩
      case round =>
        obtain ⟨j, hj, rfl, HU, d, rfl⟩ := hrel
        have hbd : Below W0.heap.size W0 (W0.drewN d) := drew_b
        obtain ⟨b, o, rfl, hbl, cx⟩ := (HZ.out.on hb).at HX.out
        by_cases hgo : ∃ y, S[j]? = some y ∧ y ≤ x
        · obtain ⟨y, hy, hyx⟩ := hgo
          have hjk : j < k := by have := (List.getElem?_eq_some_iff.1 hy).1; rw [HL.out] at this; exact this
          obtain ⟨g, p, rfl, hg, cy⟩ := HR.out.at hy
          have HU2 := Lib.hid (HU.out.next hy hyx)
          clear hy
          go_wp2
          go_quiet (fail)
          go_wp2
          go_roundw
          case rel => exact ⟨j + 1, by omega, by go_num, HU2, _, rfl⟩
          case measure => simp [intOf]; omega
        · have HS : Hid (srt (xs.take (k + 1)) = S.take j ++ [x] ++ S.drop j) := Lib.hid (HP.out j HU.out fun y hy => by
            have h3 : ¬ y ≤ x := fun h => hgo ⟨y, hy, h⟩
            omega)
          by_cases hjk : j < k
          · obtain ⟨y, hy⟩ : ∃ y, S[j]? = some y := ⟨_, List.getElem?_eq_getElem (by rw [HL.out]; exact hjk)⟩
            have hyx : ¬ y ≤ x := fun h => hgo ⟨y, hy, h⟩
            obtain ⟨g, rfl⟩ := HA.out.resolve_left (fun h => by have := (HN.out h).1; omega)
            obtain ⟨g2, p, e, hg, cy⟩ := HR.out.at hy
            simp only [Option.some.injEq, Addr.mk.injEq, and_true] at e
            obtain ⟨rfl, rfl⟩ := e
            rw [Nat.zero_add] at cy
            have hcj : ¬ c2 = j := by omega
            clear hy hgo HU
            go_wp2
            go_quiet (fail)
            obtain ⟨W, hWe⟩ : ∃ W, (W0.drewN d).drewN nq = W := ⟨_, rfl⟩
            have hbW : Below W0.heap.size W0 W := by rw [← hWe, World.drewN_drewN]; exact drew_b
            rw [hWe]
            have cxW := kept hbW cx
            obtain ⟨P, hP⟩ : ∃ P, S.take j = P := ⟨_, rfl⟩
            obtain ⟨R, hR⟩ : ∃ R, S.drop j = R := ⟨_, rfl⟩
            obtain ⟨P2, hP2⟩ : ∃ P2, P ++ [x] = P2 := ⟨_, rfl⟩
            have Q1 : Hid (IntsR W (some ⟨g, 0, none⟩) P) := Lib.hid (by rw [← hP]; exact (HR.out.on hbW).take j)
            have Q2 : Hid (IntsR W (some ⟨g, j, none⟩) R) := Lib.hid (by rw [← hR]; exact (HR.out.on hbW).drop j)
            have HL1 : Hid (P.length = j) := Lib.hid (by rw [← hP, List.length_take, HL.out]; omega)
            have HL2 : Hid (P2.length = j + 1) := Lib.hid (by rw [← hP2, List.length_append, HL1.out]; rfl)
            have HL3 : Hid (R.length = k - j) := Lib.hid (by rw [← hR, List.length_drop, HL.out]; try omega)
            rw [hP, hP2, hR] at HS
            have HP2 := Lib.hid hP2
            clear hWe hP hR hP2 HL HP
            go_wp2_with (at_builtin; refine wpList_append_any rfl _ _ 22 rfl W.heap.size 2 i0 (.int .i64 0) 1 8 Try.underlying22 hi hz0 hz1 hz2 rfl (by decide) _ 0 [] rfl (World.ownsRow_nil _ _ _ _) (some ⟨g, 0, none⟩) _ _ (P.map (Value.int .i64)) rfl (fun h => by cases h) (by rw [List.length_map, HL1.out]; try omega) Q1.out.cells (ints_cells _) (by unfold maxLen; omega) (by omega) (Nat.le_refl _) ?_)
            intro v1 W1 ho1 hg1
            have hb1 : Below W.heap.size W W1 := own_below0 (World.ownsRow_nil W W.heap.size 2 1) (Below.refl _ _) (Nat.le_refl _) hg1
            have ow1 : OwnI W.heap.size v1 P W1 := by unfold OwnI; rw [HL1.out]; simpa using ho1
            have cx1 := kept hb1 cxW
            have hbs := hb1.size
            unfold OwnI at ow1
            clear ho1 hg1
            go_wp2_with (at_builtin; refine wpList_append_own _ rfl _ _ 22 rfl W.heap.size 2 i0 (.int .i64 0) 1 8 Try.underlying22 hi hz0 hz1 hz2 rfl (by decide) _ _ _ rfl (ow1.alloc _) ⟨_, 0, none⟩ 1 1 [.int .i64 x] rfl rfl (one_new (by simp) _ _) (one_cells _ rfl) (by have := HL1.out; unfold maxLen; omega) (by have := HL1.out; omega) (by simp; omega) ?_)
            intro v2 W2 ho2 hg2 _
            have hb2 : Below W.heap.size W W2 := own_below ow1 hb1 (Nat.le_refl _) hg2
            have ow2 : OwnI W.heap.size v2 P2 W2 := by rw [← HP2.out]; exact OwnI.snoc x ho2
            have Q3 := Lib.hid (Q2.out.on hb2)
            have hbs2 := hb2.size
            unfold OwnI at ow2
            clear ho2 hg2 ow1 cx1 hbs
            go_wp2_with (at_builtin; refine wpList_append_any rfl _ _ 22 rfl W.heap.size 2 i0 (.int .i64 0) 1 8 Try.underlying22 hi hz0 hz1 hz2 rfl (by decide) _ _ _ rfl ow2 (some ⟨g, j, none⟩) _ _ (R.map (Value.int .i64)) rfl (fun h => by cases h) (by rw [List.length_map, HL3.out]; try omega) Q3.out.cells (ints_cells _) (by have := HL2.out; unfold maxLen; omega) (by have := HL2.out; omega) hbs2 ?_)
            intro v3 W3 ho3 hg3
            have hb3 : Below W.heap.size W W3 := own_below0 ow2 hb2 (Nat.le_refl _) hg3
            have ow3 : OwnI W.heap.size v3 (P2 ++ R) W3 := by unfold OwnI; rw [List.map_append, List.length_append, HL3.out]; simpa using ho3
            have hbz := on (on hb hbW) hb3
            have hlow : w.heap.size ≤ W.heap.size := Nat.le_trans hb.size hbW.size
            clear ho3 hg3 ow2 hbs2 hb1 hb2 hb3 hb hbW
            go_wp2
            go_roundw
            case rel => exact ⟨k + 1, by omega, by go_num, by rw [HS.out]; exact ow3.lower hlow, hbz⟩
            case measure => simp [intOf]; omega
          · obtain rfl : j = k := by omega
            clear hgo HU
            rcases HA.out with rfl | ⟨g, rfl⟩
            · obtain ⟨rfl, rfl⟩ := HN.out rfl
              go_wp2
              go_quiet (fail)
              obtain ⟨W, hWe⟩ : ∃ W, (W0.drewN d).drewN nq = W := ⟨_, rfl⟩
              have hbW : Below W0.heap.size W0 W := by rw [← hWe, World.drewN_drewN]; exact drew_b
              rw [hWe]
              have cxW := kept hbW cx
              rw [Nat.add_zero] at cxW
              have hS0 : S = [] := List.eq_nil_of_length_eq_zero HL.out
              subst hS0
              clear hWe HL HP
              go_wp2_with (at_builtin; refine wpList_append_own _ rfl _ _ 22 rfl W.heap.size 2 i0 (.int .i64 0) 1 8 Try.underlying22 hi hz0 hz1 hz2 rfl (by decide) _ 0 [] rfl ((World.ownsRow_nil _ _ _ _).alloc _) ⟨_, 0, none⟩ 1 1 [.int .i64 x] rfl rfl (one_new (by simp) _ _) (one_cells _ rfl) (by unfold maxLen; omega) (by omega) (by simp) ?_)
              intro v2 W2 ho2 hg2 _
              have hb2 : Below W.heap.size W W2 := own_below (World.ownsRow_nil W W.heap.size 2 1) (Below.refl _ _) (Nat.le_refl _) hg2
              have ow2 : OwnI W.heap.size v2 [x] W2 := OwnI.snoc (xs := []) x ho2
              have hbs2 := hb2.size
              unfold OwnI at ow2
              clear ho2 hg2
              go_wp2_with (at_builtin; refine wpList_append_any rfl _ _ 22 rfl W.heap.size 2 i0 (.int .i64 0) 1 8 Try.underlying22 hi hz0 hz1 hz2 rfl (by decide) _ _ _ rfl ow2 none 0 0 [] rfl (fun _ => ⟨rfl, rfl⟩) rfl (fun _ h => by cases h) (fun _ h => by cases h) (by simp [maxLen]) (by simp) hbs2 ?_)
              intro v3 W3 ho3 hg3
              have hb3 : Below W.heap.size W W3 := own_below0 ow2 hb2 (Nat.le_refl _) hg3
              have ow3 : OwnI W.heap.size v3 [x] W3 := by simpa [OwnI] using ho3
              have hbz := on (on hb hbW) hb3
              have hlow : w.heap.size ≤ W.heap.size := Nat.le_trans hb.size hbW.size
              clear ho3 hg3 ow2 hbs2 hb2 hb3 hb hbW
              go_wp2
              go_roundw
              case rel => exact ⟨0 + 1, by omega, by go_num, by rw [HS.out]; exact ow3.lower hlow, hbz⟩
              case measure => simp [intOf]; omega
            · by_cases hcj : c2 = j
              · go_wp2
                go_quiet (fail)
                obtain ⟨W, hWe⟩ : ∃ W, (W0.drewN d).drewN nq = W := ⟨_, rfl⟩
                have hbW : Below W0.heap.size W0 W := by rw [← hWe, World.drewN_drewN]; exact drew_b
                rw [hWe]
                have cxW := kept hbW cx
                obtain ⟨P, hP⟩ : ∃ P, S.take j = P := ⟨_, rfl⟩
                obtain ⟨R, hR⟩ : ∃ R, S.drop j = R := ⟨_, rfl⟩
                obtain ⟨P2, hP2⟩ : ∃ P2, P ++ [x] = P2 := ⟨_, rfl⟩
                have Q1 : Hid (IntsR W (some ⟨g, 0, none⟩) P) := Lib.hid (by rw [← hP]; exact (HR.out.on hbW).take j)
                have Q2 : Hid (IntsR W (some ⟨g, 0, none⟩) R) := Lib.hid (by rw [← hR]; exact (HR.out.on hbW).dropEnd HL.out)
                have HL1 : Hid (P.length = j) := Lib.hid (by rw [← hP, List.length_take, HL.out]; omega)
                have HL2 : Hid (P2.length = j + 1) := Lib.hid (by rw [← hP2, List.length_append, HL1.out]; rfl)
                have HL3 : Hid (R.length = 0) := Lib.hid (by rw [← hR, List.length_drop, HL.out]; try omega)
                rw [hP, hP2, hR] at HS
                have HP2 := Lib.hid hP2
                clear hWe hP hR hP2 HL HP
                go_wp2_with (at_builtin; refine wpList_append_any rfl _ _ 22 rfl W.heap.size 2 i0 (.int .i64 0) 1 8 Try.underlying22 hi hz0 hz1 hz2 rfl (by decide) _ 0 [] rfl (World.ownsRow_nil _ _ _ _) (some ⟨g, 0, none⟩) _ _ (P.map (Value.int .i64)) rfl (fun h => by cases h) (by rw [List.length_map, HL1.out]; try omega) Q1.out.cells (ints_cells _) (by unfold maxLen; omega) (by omega) (Nat.le_refl _) ?_)
                intro v1 W1 ho1 hg1
                have hb1 : Below W.heap.size W W1 := own_below0 (World.ownsRow_nil W W.heap.size 2 1) (Below.refl _ _) (Nat.le_refl _) hg1
                have ow1 : OwnI W.heap.size v1 P W1 := by unfold OwnI; rw [HL1.out]; simpa using ho1
                have cx1 := kept hb1 cxW
                have hbs := hb1.size
                unfold OwnI at ow1
                clear ho1 hg1
                go_wp2_with (at_builtin; refine wpList_append_own _ rfl _ _ 22 rfl W.heap.size 2 i0 (.int .i64 0) 1 8 Try.underlying22 hi hz0 hz1 hz2 rfl (by decide) _ _ _ rfl (ow1.alloc _) ⟨_, 0, none⟩ 1 1 [.int .i64 x] rfl rfl (one_new (by simp) _ _) (one_cells _ rfl) (by have := HL1.out; unfold maxLen; omega) (by have := HL1.out; omega) (by simp; omega) ?_)
                intro v2 W2 ho2 hg2 _
                have hb2 : Below W.heap.size W W2 := own_below ow1 hb1 (Nat.le_refl _) hg2
                have ow2 : OwnI W.heap.size v2 P2 W2 := by rw [← HP2.out]; exact OwnI.snoc x ho2
                have Q3 := Lib.hid (Q2.out.on hb2)
                have hbs2 := hb2.size
                unfold OwnI at ow2
                clear ho2 hg2 ow1 cx1 hbs
                go_wp2_with (at_builtin; refine wpList_append_any rfl _ _ 22 rfl W.heap.size 2 i0 (.int .i64 0) 1 8 Try.underlying22 hi hz0 hz1 hz2 rfl (by decide) _ _ _ rfl ow2 (some ⟨g, 0, none⟩) _ _ (R.map (Value.int .i64)) rfl (fun h => by cases h) (by rw [List.length_map, HL3.out]; try omega) Q3.out.cells (ints_cells _) (by have := HL2.out; unfold maxLen; omega) (by have := HL2.out; omega) hbs2 ?_)
                intro v3 W3 ho3 hg3
                have hb3 : Below W.heap.size W W3 := own_below0 ow2 hb2 (Nat.le_refl _) hg3
                have ow3 : OwnI W.heap.size v3 (P2 ++ R) W3 := by unfold OwnI; rw [List.map_append, List.length_append, HL3.out]; simpa using ho3
                have hbz := on (on hb hbW) hb3
                have hlow : w.heap.size ≤ W.heap.size := Nat.le_trans hb.size hbW.size
                clear ho3 hg3 ow2 hbs2 hb1 hb2 hb3 hb hbW
                go_wp2
                go_roundw
                case rel => exact ⟨j + 1, by omega, by go_num, by rw [HS.out]; exact ow3.lower hlow, hbz⟩
                case measure => simp [intOf]; omega
              · go_wp2
                go_quiet (fail)
                obtain ⟨W, hWe⟩ : ∃ W, (W0.drewN d).drewN nq = W := ⟨_, rfl⟩
                have hbW : Below W0.heap.size W0 W := by rw [← hWe, World.drewN_drewN]; exact drew_b
                rw [hWe]
                have cxW := kept hbW cx
                obtain ⟨P, hP⟩ : ∃ P, S.take j = P := ⟨_, rfl⟩
                obtain ⟨R, hR⟩ : ∃ R, S.drop j = R := ⟨_, rfl⟩
                obtain ⟨P2, hP2⟩ : ∃ P2, P ++ [x] = P2 := ⟨_, rfl⟩
                have Q1 : Hid (IntsR W (some ⟨g, 0, none⟩) P) := Lib.hid (by rw [← hP]; exact (HR.out.on hbW).take j)
                have Q2 : Hid (IntsR W (some ⟨g, j, none⟩) R) := Lib.hid (by rw [← hR]; exact (HR.out.on hbW).drop j)
                have HL1 : Hid (P.length = j) := Lib.hid (by rw [← hP, List.length_take, HL.out]; omega)
                have HL2 : Hid (P2.length = j + 1) := Lib.hid (by rw [← hP2, List.length_append, HL1.out]; rfl)
                have HL3 : Hid (R.length = 0) := Lib.hid (by rw [← hR, List.length_drop, HL.out]; try omega)
                rw [hP, hP2, hR] at HS
                have HP2 := Lib.hid hP2
                clear hWe hP hR hP2 HL HP
                go_wp2_with (at_builtin; refine wpList_append_any rfl _ _ 22 rfl W.heap.size 2 i0 (.int .i64 0) 1 8 Try.underlying22 hi hz0 hz1 hz2 rfl (by decide) _ 0 [] rfl (World.ownsRow_nil _ _ _ _) (some ⟨g, 0, none⟩) _ _ (P.map (Value.int .i64)) rfl (fun h => by cases h) (by rw [List.length_map, HL1.out]; try omega) Q1.out.cells (ints_cells _) (by unfold maxLen; omega) (by omega) (Nat.le_refl _) ?_)
                intro v1 W1 ho1 hg1
                have hb1 : Below W.heap.size W W1 := own_below0 (World.ownsRow_nil W W.heap.size 2 1) (Below.refl _ _) (Nat.le_refl _) hg1
                have ow1 : OwnI W.heap.size v1 P W1 := by unfold OwnI; rw [HL1.out]; simpa using ho1
                have cx1 := kept hb1 cxW
                have hbs := hb1.size
                unfold OwnI at ow1
                clear ho1 hg1
                go_wp2_with (at_builtin; refine wpList_append_own _ rfl _ _ 22 rfl W.heap.size 2 i0 (.int .i64 0) 1 8 Try.underlying22 hi hz0 hz1 hz2 rfl (by decide) _ _ _ rfl (ow1.alloc _) ⟨_, 0, none⟩ 1 1 [.int .i64 x] rfl rfl (one_new (by simp) _ _) (one_cells _ rfl) (by have := HL1.out; unfold maxLen; omega) (by have := HL1.out; omega) (by simp; omega) ?_)
                intro v2 W2 ho2 hg2 _
                have hb2 : Below W.heap.size W W2 := own_below ow1 hb1 (Nat.le_refl _) hg2
                have ow2 : OwnI W.heap.size v2 P2 W2 := by rw [← HP2.out]; exact OwnI.snoc x ho2
                have Q3 := Lib.hid (Q2.out.on hb2)
                have hbs2 := hb2.size
                unfold OwnI at ow2
                clear ho2 hg2 ow1 cx1 hbs
                go_wp2_with (at_builtin; refine wpList_append_any rfl _ _ 22 rfl W.heap.size 2 i0 (.int .i64 0) 1 8 Try.underlying22 hi hz0 hz1 hz2 rfl (by decide) _ _ _ rfl ow2 (some ⟨g, j, none⟩) _ _ (R.map (Value.int .i64)) rfl (fun h => by cases h) (by rw [List.length_map, HL3.out]; try omega) Q3.out.cells (ints_cells _) (by have := HL2.out; unfold maxLen; omega) (by have := HL2.out; omega) hbs2 ?_)
                intro v3 W3 ho3 hg3
                have hb3 : Below W.heap.size W W3 := own_below0 ow2 hb2 (Nat.le_refl _) hg3
                have ow3 : OwnI W.heap.size v3 (P2 ++ R) W3 := by unfold OwnI; rw [List.map_append, List.length_append, HL3.out]; simpa using ho3
                have hbz := on (on hb hbW) hb3
                have hlow : w.heap.size ≤ W.heap.size := Nat.le_trans hb.size hbW.size
                clear ho3 hg3 ow2 hbs2 hb1 hb2 hb3 hb hbW
                go_wp2
                go_roundw
                case rel => exact ⟨j + 1, by omega, by go_num, by rw [HS.out]; exact ow3.lower hlow, hbz⟩
                case measure => simp [intOf]; omega
    · obtain rfl : k = n := by omega
      rw [List.take_of_length_le (by rw [HZ.out.len]; omega)] at hown
      obtain ⟨A2, c2, rfl, hrd, _, _⟩ := hown.reads
      go_wp2
      go_ret
      exact ⟨A2, c2, by rw [srt_len, HZ.out.len]; rfl, hrd, hb⟩
end Go.Proofs.Ytngnjphhjmhomaa.Odr
