/- What the reference's Right, Reverse, Find answer: for every text of at most a million bytes. -/
import Derived.Test.YtkbibkadofeamaaRunRefM
namespace Go.Proofs.Ytkbibkadofeamaa.Run
open Go.RowKit Kit Reg

set_option maxRecDepth 100000 in
set_option maxHeartbeats 4000000 in
theorem rright_c (s : ByteArray) (l : List UInt8) (hs : s.data.toList = l) (h9 : s.size ≤ 1000000) (n : Int) (w : World) :
    Calls Try.prog 13 #[.string s, .int .i64 n] w fun e w' => e = .returned (.string ⟨(rightL l n.toNat).toArray⟩) ∧ Below w.heap.size w w' := by
  obtain ⟨i0, hin, hz0, hz1, hz2⟩ := info_parts infoS
  have hl := len_of hs
  have hpl := ps_len l
  obtain ⟨L, hL⟩ : ∃ L, ps l = L := ⟨_, rfl⟩
  obtain ⟨c, hc⟩ : ∃ c, L.length = c := ⟨_, rfl⟩
  have HP := Lib.hid (fun w => rpieces_c s l hs h9 w)
  obtain ⟨f, hf⟩ : ∃ f, c - n.toNat = f := ⟨_, rfl⟩
  have HG : Hid ((((L.take c).drop f).take c).flatten = rightL l n.toNat) := Lib.hid (by
    rw [right_is, hL, hc, hf, List.take_of_length_le (l := L) (by omega), List.take_of_length_le (by rw [List.length_drop]; omega)])
  have HB : Hid ((((L.take c).drop f).take c).flatten.length ≤ 1000000) := Lib.hid (by rw [HG.out, rightL, List.length_drop]; omega)
  rw [hL] at HP hpl
  rw [hc] at hpl
  have HC := Lib.hid hc
  have HF := Lib.hid hf
  clear hs hL hc hf
  go_enter Try.func13, Try.ntmps13
  go_wp2_with fail
  refine (HP.out _).mono ?_
  rintro e w1 ⟨v, rfl, hv, hb1⟩
  obtain ⟨A, cap, rfl, hA, _⟩ := OwnS.strs hv c HC.out
  have HA := Lib.hid hA
  clear hv hA HP
  go_wp2
  go_loopw [5, 7] (fun o i wr => ∃ (k : Nat), k ≤ c ∧ i = .int .i64 k ∧ OwnS w1.heap.size o (((L.take k).drop f).take c) wr ∧ Below w1.heap.size w1 wr) (fun _ i _ => c - (intOf i).toNat)
  case atStart => exact ⟨0, Nat.zero_le _, rfl, by rw [show ((L.take 0).drop f).take c = [] by simp]; exact World.ownsRow_nil _ _ _ _, Below.refl _ _⟩
  case round =>
    obtain ⟨k, hk, rfl, hrow, hb0⟩ := hrel
    have hs0 := hb0.size
    by_cases hlt : k < c
    · obtain ⟨p, hp⟩ : ∃ p, L[k]? = some p := ⟨_, List.getElem?_eq_getElem (by rw [HC.out]; exact hlt)⟩
      have hne : L ≠ [] := by intro e; have := HC.out; rw [e] at this; simp at this; omega
      obtain ⟨d, hd⟩ : ∃ d : Int, (c : Int) - k = d := ⟨_, rfl⟩
      by_cases h3 : d ≤ n
      · have d3 : decide (d ≤ n) = true := decide_eq_true h3
        have HN : Hid (((L.take (k + 1)).drop f).take c = ((L.take k).drop f).take c ++ [p]) := Lib.hid (mid_yes hp (by have := HF.out; omega) (by omega))
        have HL := Lib.hid (strs_snoc (((L.take k).drop f).take c) p)
        obtain ⟨q, hq⟩ : ∃ q, (((L.take k).drop f).take c).length = q := ⟨_, rfl⟩
        have hqk : q ≤ k := by rw [← hq]; exact mid_short _ _ _ _
        unfold OwnS at hrow
        rw [hq] at hrow
        have HQ := Lib.hid hq
        obtain ⟨g, rfl, hg, hc1⟩ := (HA.out.on hb0).resolve_left hne
        have x0 := hc1 k p hp
        have hnew := fun w1 => cell_one_new w1 (.string ⟨p.toArray⟩) 9
        clear hc1 hp hq
        go_wp2_with (at_builtin; refine wpList_append_own_at _ rfl _ _ 24 rfl w1.heap.size 9 i0 _ 1 16 Try.underlying24 hin hz0 hz1 hz2 rfl (by decide) _ q (strs (((L.take k).drop f).take c)) rfl (hrow.alloc _) ⟨wr.heap.size, 0, none⟩ 1 1 [.string ⟨p.toArray⟩] rfl rfl (hnew wr) (by simp [Value.oneCell']) (by unfold maxLen; omega) (by omega) (by simp; omega) ?_; intro v' w5 hown' hgrow hnil hloc)
        go_roundw
        case rel =>
          refine ⟨k + 1, by omega, by go_num, ?_, ?_⟩
          · unfold OwnS
            rw [HN.out, List.length_append, HQ.out, HL.out]
            exact hown'
          · exact (on_alloc hb0 _).grown hgrow (by simp; omega) (fun b e => (World.ownsRow.lt hrow b e).1)
        case measure => simp [intOf]; omega
      · have d3 : decide (d ≤ n) = false := decide_eq_false h3
        have HN : Hid (((L.take (k + 1)).drop f).take c = ((L.take k).drop f).take c) := Lib.hid (mid_no (by have := HF.out; omega))
        clear hp
        go_wp2
        go_roundw
        case rel => exact ⟨k + 1, by omega, by go_num, by rw [HN.out]; exact hrow, hb0⟩
        case measure => simp [intOf]; omega
    · obtain rfl : k = c := by omega
      obtain ⟨q, hq⟩ : ∃ q, (((L.take k).drop f).take k).length = q := ⟨_, rfl⟩
      have hqk : q ≤ k := by rw [← hq]; exact mid_short _ _ _ _
      obtain ⟨A2, cap2, rfl, hA2, _⟩ := OwnS.strs hrow q hq
      have HJ := Lib.hid (rjoin_c A2 cap2 q _ hq (by omega) HB.out wr hA2)
      rw [HG.out] at HJ
      clear hrow hq hA2
      go_wp2_with fail
      refine HJ.out.mono ?_
      rintro e w2 ⟨rfl, rfl⟩
      go_wp2
      go_ret
      exact ⟨rfl, on hb1 hb0⟩
theorem rev_snoc {L : List (List UInt8)} {k : Nat} {x : List UInt8} (h : L[k]? = some x) : (L.take (k + 1)).reverse.flatten = x ++ (L.take k).reverse.flatten := by
  rw [List.take_add_one, h]
  simp
theorem rev_part (L : List (List UInt8)) (k : Nat) : (L.take k).reverse.flatten.length = (L.take k).flatten.length := by
  rw [List.length_flatten, List.length_flatten, List.map_reverse, List.sum_reverse]
set_option maxRecDepth 100000 in
set_option maxHeartbeats 2000000 in
theorem rreverse_c (s : ByteArray) (l : List UInt8) (hs : s.data.toList = l) (h9 : s.size ≤ 1000000) (w : World) :
    Calls Try.prog 20 #[.string s] w fun e w' => e = .returned (.string ⟨(revL l).toArray⟩) ∧ Below w.heap.size w w' := by
  have hl := len_of hs
  have hpl := ps_len l
  obtain ⟨L, hL⟩ : ∃ L, ps l = L := ⟨_, rfl⟩
  obtain ⟨c, hc⟩ : ∃ c, L.length = c := ⟨_, rfl⟩
  have HP := Lib.hid (fun w => rpieces_c s l hs h9 w)
  have HG : Hid ((L.take c).reverse.flatten = revL l) := Lib.hid (by rw [revL, hL, List.take_of_length_le (by omega)])
  have HF : Hid (∀ k x, L[k]? = some x → (L.take k).reverse.flatten.length + x.length ≤ 1000000) := Lib.hid fun k x hx => by
    have := flat_part hx
    rw [rev_part]
    rw [← hL, ps_flat] at this
    rw [← hL]
    omega
  rw [hL] at HP hpl
  rw [hc] at hpl
  have HC := Lib.hid hc
  clear hs hL hc
  go_enter Try.func20, Try.ntmps20
  go_wp2_with fail
  refine (HP.out _).mono ?_
  rintro e w1 ⟨v, rfl, hv, hb1⟩
  obtain ⟨A, cap, rfl, hA, _⟩ := OwnS.strs hv c HC.out
  have HA := Lib.hid hA
  clear hv hA HP
  go_wp2
  go_loopw [3, 5] (fun o i wr => ∃ (k : Nat) (x : ByteArray), k ≤ c ∧ i = .int .i64 k ∧ o = .string x ∧ Hid (x.data.toList = (L.take k).reverse.flatten) ∧ w1 = wr) (fun _ i _ => c - (intOf i).toNat)
  case atStart => exact ⟨0, _, Nat.zero_le _, rfl, rfl, Lib.hid (by simp), rfl⟩
  case round =>
    obtain ⟨k, x, hk, rfl, rfl, hx, rfl⟩ := hrel
    by_cases hlt : k < c
    · obtain ⟨p, hp⟩ : ∃ p, L[k]? = some p := ⟨_, List.getElem?_eq_getElem (by rw [HC.out]; exact hlt)⟩
      have hne : L ≠ [] := by intro e; have := HC.out; rw [e] at this; simp at this; omega
      obtain ⟨g, rfl, hg, hc1⟩ := HA.out.resolve_left hne
      have x0 := hc1 k p hp
      have hb := HF.out k p hp
      rw [← hx.out, ← Lib.size_eq] at hb
      have hps : (⟨p.toArray⟩ : ByteArray).size = p.length := by rw [ByteArray.size, List.size_toArray]
      rw [← hps] at hb
      have HN : Hid (((⟨p.toArray⟩ : ByteArray) ++ x).data.toList = (L.take (k + 1)).reverse.flatten) := Lib.hid (by rw [rev_snoc hp, ← hx.out]; simp)
      clear hc1 hp hps
      generalize (⟨p.toArray⟩ : ByteArray) = y at *
      go_wp2
      go_roundw
      case rel => exact ⟨k + 1, y ++ x, by omega, by go_num, rfl, HN, by first | rfl | trivial⟩
      case measure => simp [intOf]; omega
    · obtain rfl : k = c := by omega
      have hX := str_is hx.out
      rw [HG.out] at hX
      clear hx
      go_wp2
      go_ret
      exact ⟨by rw [hX]; rfl, hb1⟩
/-- the place, or -1 -/
def placeI : Option Nat → Int
  | some k => k
  | none => -1
theorem at_len {l : List UInt8} {k : Nat} {p : List UInt8} (h : (ps l)[k]? = some p) : offL l (k + 1) = offL l k + p.length := by
  unfold offL
  rw [flat_snoc h, List.length_append]
set_option maxRecDepth 100000 in
set_option maxHeartbeats 4000000 in
theorem rfind_nil (s : ByteArray) (l : List UInt8) (hs : s.data.toList = l) (h9 : s.size ≤ 1000000) (w : World) :
    Calls Try.prog 16 #[.string ByteArray.empty, .string s] w fun e w' => e = .returned (.int .i64 0) ∧ Below w.heap.size w w' := by
  have hl := len_of hs
  have hpl := ps_len l
  obtain ⟨c, hc⟩ : ∃ c, (ps l).length = c := ⟨_, rfl⟩
  have HP := Lib.hid (fun w => rpieces_c s l hs h9 w)
  have HC := Lib.hid hc
  rw [hc] at hpl
  clear hs hc
  go_enter Try.func16, Try.ntmps16
  go_wp2_with fail
  refine (HP.out _).mono ?_
  rintro e w1 ⟨v, rfl, hv, hb1⟩
  obtain ⟨A, cap, rfl, hA, _⟩ := OwnS.strs hv c HC.out
  clear hv hA HP
  go_wp2
  go_loopw [6, 7, 8] (fun a i _ wr => i = .int .i64 0 ∧ a = .int .i64 0 ∧ w1 = wr) (fun _ _ _ _ => 0)
  case atStart => exact ⟨rfl, rfl, rfl⟩
  case round =>
    obtain ⟨rfl, rfl, rfl⟩ := hrel
    by_cases h0 : c = 0
    · subst h0
      go_wp2
      go_ret
      exact ⟨rfl, hb1⟩
    · have d0 : decide ((0 : Int) < (c : Int)) = true := decide_eq_true (by omega)
      have d1 : 0 < c := by omega
      clear h0
      go_wp2
      go_ret
      exact ⟨rfl, hb1⟩
set_option maxRecDepth 100000 in
set_option maxHeartbeats 4000000 in
theorem rfind_in (t s : ByteArray) (n l : List UInt8) (hn0 : n ≠ []) (ht : t.data.toList = n) (hs : s.data.toList = l) (h8 : t.size ≤ 1000000) (h9 : s.size ≤ 1000000) (w : World) :
    Calls Try.prog 16 #[.string t, .string s] w fun e w' => ∃ r, e = .returned (.int .i64 (placeI r)) ∧ FindIs n l r ∧ Below w.heap.size w w' := by
  have hl := len_of hs
  have hpl := ps_len l
  obtain ⟨L, hL⟩ : ∃ L, ps l = L := ⟨_, rfl⟩
  obtain ⟨c, hc⟩ : ∃ c, L.length = c := ⟨_, rfl⟩
  have HP := Lib.hid (fun w => rpieces_c s l hs h9 w)
  have HO : Hid (∀ k, k < c → offL l (k + 1) = offL l k + (L[k]?.getD []).length ∧ offL l (k + 1) ≤ s.size) := Lib.hid fun k hk => by
    have h1 : (ps l)[k]? = some ((ps l)[k]'(by rw [hL, hc]; exact hk)) := List.getElem?_eq_getElem _
    have h2 := at_len h1
    have h3 := off_le l (k + 1)
    rw [← hL, h1]
    exact ⟨h2, by omega⟩
  have HZ : Hid (offL l 0 = 0 ∧ offL l c = s.size) := Lib.hid ⟨off_zero l, by rw [off_end (by rw [hL, hc]; exact Nat.le_refl _), hl]⟩
  have HQ : Hid (∀ k p, offL l k = p → t.size ≤ s.size - p → p ≤ s.size → (((s.extract p s.size).extract 0 t.size).toList == t.toList) = hitB n l k) := Lib.hid fun k p hk h1 h2 => by
    rw [toList_eq, ext_take, ext_drop, hs, ht, hitB, preB, hk, ← ht, ← Lib.size_eq]
  have HS : Hid (∀ k p, offL l k = p → ¬ t.size ≤ s.size - p → p ≤ s.size → hitB n l k = false) := Lib.hid fun k p hk h1 h2 => by
    apply decide_eq_false
    intro e
    have := congrArg List.length e
    rw [List.length_take, List.length_drop, hk, ← ht, ← Lib.size_eq] at this
    omega
  have HZ1 : Hid (offL l (c + 1) = s.size) := Lib.hid (by rw [off_end (by rw [hL, hc]; omega), hl])
  have HT : Hid (t.size = n.length) := Lib.hid (len_of ht).symm
  have HLC : Hid ((ps l).length = c) := Lib.hid (by rw [hL, hc])
  rw [hL] at HP hpl
  rw [hc] at hpl
  have HC := Lib.hid hc
  have htne : ¬ t = ByteArray.empty := fun h => hn0 (by rw [← ht, h]; rfl)
  have HTN : Hid (t.size = 0 → n = []) := Lib.hid fun h => List.eq_nil_of_length_eq_zero (by rw [← HT.out]; exact h)
  clear hs hL hc ht
  go_enter Try.func16, Try.ntmps16
  go_wp2_with fail
  refine (HP.out _).mono ?_
  rintro e w1 ⟨v, rfl, hv, hb1⟩
  obtain ⟨A, cap, rfl, hA, _⟩ := OwnS.strs hv c HC.out
  have HA := Lib.hid hA
  clear hv hA HP
  go_wp2
  go_loopw [6, 7, 8] (fun a i _ wr => ∃ (k p : Nat), k ≤ c + 1 ∧ i = .int .i64 k ∧ a = .int .i64 p ∧ Hid (offL l k = p) ∧ p ≤ s.size ∧ w1 = wr ∧ Hid (∀ j, j < k → j < c → hitB n l j = false)) (fun _ i _ _ => c + 1 - (intOf i).toNat)
  case atStart => exact ⟨0, 0, by omega, rfl, rfl, Lib.hid HZ.out.1, Nat.zero_le _, rfl, Lib.hid fun j hj => absurd hj (by omega)⟩
  case round =>
    obtain ⟨k, p, hk, rfl, rfl, hp, hps, rfl, hno⟩ := hrel
    by_cases hkc : k ≤ c
    · have hpc : k < c ∨ (k = c ∧ p = s.size) := by
        rcases Nat.lt_or_ge k c with h | h
        · exact .inl h
        · obtain rfl : k = c := by omega
          exact .inr ⟨rfl, by rw [← hp.out, HZ.out.2]⟩
      have hes : (s.extract p s.size).size = s.size - p := by rw [ByteArray.size_extract]; omega
      obtain ⟨z, hz⟩ : ∃ z, s.size - p = z := ⟨_, rfl⟩
      rw [hz] at hes
      have HHIT := Lib.hid (HQ.out k p hp.out)
      have HMISS := Lib.hid (HS.out k p hp.out)
      rw [hz] at HHIT HMISS
      by_cases hle : t.size ≤ z
      · obtain ⟨b, hb⟩ : ∃ b, hitB n l k = b := ⟨_, rfl⟩
        have hq := HHIT.out hle hps
        rw [hb] at hq
        have HB := Lib.hid hb
        clear hb
        cases b with
        | true =>
          rcases hpc with h1 | ⟨rfl, rfl⟩
          · have HR : Hid (FindIs n l (some k)) := Lib.hid (.inr ⟨hn0, by rw [HLC.out]; exact h1, HB.out, fun j hj => hno.out j hj (by omega)⟩)
            go_wp2
            go_ret
            exact ⟨some k, rfl, HR.out, hb1⟩
          · exact absurd (HTN.out (by omega)) hn0
        | false =>
          rcases hpc with h1 | ⟨rfl, rfl⟩
          · obtain ⟨x, hx⟩ : ∃ x, L[k]? = some x := ⟨_, List.getElem?_eq_getElem (by rw [HC.out]; exact h1)⟩
            have hLn : L ≠ [] := by intro e; have := HC.out; rw [e] at this; simp at this; omega
            obtain ⟨g, rfl, hg, hc1⟩ := HA.out.resolve_left hLn
            have x0 := hc1 k x hx
            obtain ⟨ho1, ho2⟩ := HO.out k h1
            rw [hx, hp.out, Option.getD_some] at ho1
            have hxs : (⟨x.toArray⟩ : ByteArray).size = x.length := by rw [ByteArray.size, List.size_toArray]
            rw [← hxs] at ho1
            obtain ⟨q, hq2⟩ : ∃ q, offL l (k + 1) = q := ⟨_, rfl⟩
            rw [hq2] at ho1 ho2
            have HQ2 := Lib.hid hq2
            clear hc1 hx hxs hq2 hLn
            generalize (⟨x.toArray⟩ : ByteArray) = y at *
            have hqi : (p : Int) + (y.size : Int) = (q : Int) := by omega
            clear ho1
            go_wp2
            go_roundw
            case rel =>
              refine ⟨k + 1, q, by omega, by go_num, rfl, HQ2, ho2, by first | rfl | trivial, Lib.hid fun j hj hjc => ?_⟩
              rcases Nat.lt_or_ge j k with h | h
              · exact hno.out j h hjc
              · obtain rfl : j = k := by omega
                exact HB.out
            case measure => simp [intOf]; omega
          · exact absurd (HTN.out (by omega)) hn0
      · have HB := Lib.hid (HMISS.out hle hps)
        rcases hpc with h1 | ⟨rfl, rfl⟩
        · obtain ⟨x, hx⟩ : ∃ x, L[k]? = some x := ⟨_, List.getElem?_eq_getElem (by rw [HC.out]; exact h1)⟩
          have hLn : L ≠ [] := by intro e; have := HC.out; rw [e] at this; simp at this; omega
          obtain ⟨g, rfl, hg, hc1⟩ := HA.out.resolve_left hLn
          have x0 := hc1 k x hx
          obtain ⟨ho1, ho2⟩ := HO.out k h1
          rw [hx, hp.out, Option.getD_some] at ho1
          have hxs : (⟨x.toArray⟩ : ByteArray).size = x.length := by rw [ByteArray.size, List.size_toArray]
          rw [← hxs] at ho1
          obtain ⟨q, hq2⟩ : ∃ q, offL l (k + 1) = q := ⟨_, rfl⟩
          rw [hq2] at ho1 ho2
          have HQ2 := Lib.hid hq2
          clear hc1 hx hxs hq2 hLn
          generalize (⟨x.toArray⟩ : ByteArray) = y at *
          have hqi : (p : Int) + (y.size : Int) = (q : Int) := by omega
          clear ho1
          go_wp2
          go_roundw
          case rel =>
            refine ⟨k + 1, q, by omega, by go_num, rfl, HQ2, ho2, by first | rfl | trivial, Lib.hid fun j hj hjc => ?_⟩
            rcases Nat.lt_or_ge j k with h | h
            · exact hno.out j h hjc
            · obtain rfl : j = k := by omega
              exact HB.out
          case measure => simp [intOf]; omega
        · go_wp2
          go_roundw
          case rel => exact ⟨k + 1, s.size, by omega, by go_num, rfl, HZ1, Nat.le_refl _, by first | rfl | trivial, Lib.hid fun j hj hjc => hno.out j (by omega) hjc⟩
          case measure => first | (simp [intOf]; done) | (simp [intOf]; omega)
    · obtain rfl : k = c + 1 := by omega
      have HR : Hid (FindIs n l none) := Lib.hid ⟨hn0, fun j hj => hno.out j (by rw [HLC.out] at hj; omega) (by rw [HLC.out] at hj; exact hj)⟩
      go_wp2
      go_ret
      exact ⟨none, rfl, HR.out, hb1⟩
theorem rfind_c (t s : ByteArray) (n l : List UInt8) (ht : t.data.toList = n) (hs : s.data.toList = l) (h8 : t.size ≤ 1000000) (h9 : s.size ≤ 1000000) (w : World) :
    Calls Try.prog 16 #[.string t, .string s] w fun e w' => ∃ r, e = .returned (.int .i64 (placeI r)) ∧ FindIs n l r ∧ Below w.heap.size w w' := by
  by_cases h : n = []
  · obtain rfl : t = ByteArray.empty := bytes_eq (by rw [ht, h]; rfl)
    exact (rfind_nil s l hs h9 w).mono fun e w' ⟨h1, h2⟩ => ⟨some 0, h1, .inl ⟨h, rfl⟩, h2⟩
  · exact rfind_in t s n l h ht hs h8 h9 w
end Go.Proofs.Ytkbibkadofeamaa.Run
