/- What the reference's Join, Mid, Right, Reverse answer: for every text of at most a million bytes. -/
import Derived.Test.YtkbibkadofeamaaRunRef
namespace Go.Proofs.Ytkbibkadofeamaa.Run
open Go.RowKit Kit Reg

theorem flat_snoc {L : List (List UInt8)} {k : Nat} {x : List UInt8} (h : L[k]? = some x) : (L.take (k + 1)).flatten = (L.take k).flatten ++ x := by
  rw [List.take_add_one, h]
  simp
theorem flat_le (L : List (List UInt8)) (k : Nat) : (L.take k).flatten.length ≤ L.flatten.length := by
  have h2 : L.flatten = (L.take k).flatten ++ (L.drop k).flatten := by rw [← List.flatten_append, List.take_append_drop]
  rw [h2, List.length_append]
  omega
theorem flat_part {L : List (List UInt8)} {k : Nat} {x : List UInt8} (h : L[k]? = some x) : (L.take k).flatten.length + x.length ≤ L.flatten.length := by
  have := flat_le L (k + 1)
  rw [flat_snoc h, List.length_append] at this
  exact this
set_option maxRecDepth 100000 in
set_option maxHeartbeats 2000000 in
theorem rjoin_c (A : Option Addr) (cap c : Nat) (L : List (List UInt8)) (hc : L.length = c) (hc9 : c ≤ 1000000) (h9 : L.flatten.length ≤ 1000000) (w : World) (h : StrsR w A L) :
    Calls Try.prog 25 #[.slice A c cap] w fun e w' => e = .returned (.string ⟨L.flatten.toArray⟩) ∧ w = w' := by
  have H := Lib.hid h
  have HC := Lib.hid hc
  have HF : Hid (∀ k x, L[k]? = some x → (L.take k).flatten.length + x.length ≤ 1000000) := Lib.hid fun k x hx => Nat.le_trans (flat_part hx) h9
  have HE : Hid (L.flatten = (L.take c).flatten) := Lib.hid (by rw [List.take_of_length_le (by omega)])
  clear h hc h9
  go_enter Try.func25, Try.ntmps25
  go_wp2
  go_loopw [3, 4] (fun o i wr => ∃ (k : Nat) (x : ByteArray), k ≤ c ∧ i = .int .i64 k ∧ o = .string x ∧ Hid (x.data.toList = (L.take k).flatten) ∧ w = wr) (fun _ i _ => c - (intOf i).toNat)
  case atStart => exact ⟨0, _, Nat.zero_le _, rfl, rfl, Lib.hid (by simp), rfl⟩
  case round =>
    obtain ⟨k, x, hk, rfl, rfl, hx, rfl⟩ := hrel
    by_cases hlt : k < c
    · obtain ⟨p, hp⟩ : ∃ p, L[k]? = some p := ⟨_, List.getElem?_eq_getElem (by rw [HC.out]; exact hlt)⟩
      have hne : L ≠ [] := by intro e; have := HC.out; rw [e] at this; simp at this; omega
      obtain ⟨g, rfl, hg, hc1⟩ := H.out.resolve_left hne
      have x0 := hc1 k p hp
      have hb := HF.out k p hp
      rw [← hx.out, ← Lib.size_eq] at hb
      have hps : (⟨p.toArray⟩ : ByteArray).size = p.length := by rw [ByteArray.size, List.size_toArray]
      rw [← hps] at hb
      have HN : Hid ((x ++ ⟨p.toArray⟩).data.toList = (L.take (k + 1)).flatten) := Lib.hid (by rw [flat_snoc hp, ← hx.out]; simp)
      clear hc1 hp hps
      generalize (⟨p.toArray⟩ : ByteArray) = y at *
      go_wp2
      go_roundw
      case rel => exact ⟨k + 1, x ++ y, by omega, by go_num, rfl, HN, by first | rfl | trivial⟩
      case measure => simp [intOf]; omega
    · obtain rfl : k = c := by omega
      have hX := str_is hx.out
      rw [← HE.out] at hX
      clear hx
      go_wp2
      go_ret
      exact ⟨by rw [hX]; rfl, rfl⟩
/-- what lies between two places, a rune more -/
theorem mid_yes {L : List (List UInt8)} {k f m : Nat} {x : List UInt8} (h : L[k]? = some x) (h1 : f ≤ k) (h2 : k - f < m) : ((L.take (k + 1)).drop f).take m = ((L.take k).drop f).take m ++ [x] := by
  have hk : k < L.length := (List.getElem?_eq_some_iff.1 h).1
  have hl : (L.take k).length = k := by rw [List.length_take]; omega
  rw [List.take_add_one, h, Option.toList_some, List.drop_append_of_le_length (by omega), List.take_append, List.take_of_length_le (l := (L.take k).drop f) (by rw [List.length_drop, hl]; omega)]
  congr 1
  rw [List.take_of_length_le (by rw [List.length_drop, hl]; simp; omega)]
theorem mid_no {L : List (List UInt8)} {k f m : Nat} (h : ¬ (f ≤ k ∧ k - f < m)) : ((L.take (k + 1)).drop f).take m = ((L.take k).drop f).take m := by
  apply List.ext_getElem?
  intro i
  simp only [List.getElem?_take, List.getElem?_drop]
  by_cases hi : i < m
  · rw [if_pos hi, if_pos hi]
    by_cases h2 : f + i < k
    · rw [if_pos (by omega), if_pos h2]
    · rw [if_neg (by omega), if_neg h2]
  · rw [if_neg hi, if_neg hi]
theorem mid_short (L : List (List UInt8)) (k f m : Nat) : (((L.take k).drop f).take m).length ≤ k := by
  rw [List.length_take, List.length_drop, List.length_take]; omega
theorem sub_flat (L : List (List UInt8)) (f m : Nat) : ((L.drop f).take m).flatten.length ≤ L.flatten.length := by
  have h1 := flat_le (L.drop f) m
  have h2 : L.flatten = (L.take f).flatten ++ (L.drop f).flatten := by rw [← List.flatten_append, List.take_append_drop]
  rw [h2, List.length_append]
  omega
/-- what the reference's Mid gathers -/
def gatL (L : List (List UInt8)) (f n : Int) (k : Nat) : List (List UInt8) := if f < 0 then [] else ((L.take k).drop f.toNat).take n.toNat
theorem gat_all (l : List UInt8) (f n : Int) (k : Nat) (hk : (ps l).length = k) : (gatL (ps l) f n k).flatten = midL l f n := by
  unfold gatL
  by_cases h : f < 0
  · rw [if_pos h, midL, if_pos h]; rfl
  · rw [if_neg h, mid_is l f n (by omega), List.take_of_length_le (l := ps l) (by omega)]
set_option maxRecDepth 100000 in
set_option maxHeartbeats 4000000 in
theorem rmid_c (s : ByteArray) (l : List UInt8) (hs : s.data.toList = l) (h9 : s.size ≤ 1000000) (f n : Int) (hf : -9223372036854775808 ≤ f ∧ f ≤ 9223372036854775807) (w : World) :
    Calls Try.prog 11 #[.string s, .int .i64 f, .int .i64 n] w fun e w' => e = .returned (.string ⟨(midL l f n).toArray⟩) ∧ Below w.heap.size w w' := by
  obtain ⟨i0, hin, hz0, hz1, hz2⟩ := info_parts infoS
  have hl := len_of hs
  have hpl := ps_len l
  obtain ⟨hf0, hf1⟩ := hf
  obtain ⟨L, hL⟩ : ∃ L, ps l = L := ⟨_, rfl⟩
  obtain ⟨c, hc⟩ : ∃ c, L.length = c := ⟨_, rfl⟩
  have HP := Lib.hid (fun w => rpieces_c s l hs h9 w)
  have HG : Hid ((gatL L f n c).flatten = midL l f n) := Lib.hid (by rw [← hL]; exact gat_all l f n c (by rw [hL, hc]))
  have HB : Hid ((gatL L f n c).flatten.length ≤ 1000000) := Lib.hid (by
    rw [HG.out, midL]
    split
    · simp
    · rw [leftL, List.length_take, List.length_drop]; omega)
  rw [hL] at HP hpl
  rw [hc] at hpl
  have HC := Lib.hid hc
  clear hs hL hc
  go_enter Try.func11, Try.ntmps11
  go_wp2_with fail
  refine (HP.out _).mono ?_
  rintro e w1 ⟨v, rfl, hv, hb1⟩
  obtain ⟨A, cap, rfl, hA, _⟩ := OwnS.strs hv c HC.out
  have HA := Lib.hid hA
  clear hv hA HP
  go_wp2
  go_loopw [7, 9] (fun o i wr => ∃ (k : Nat), k ≤ c ∧ i = .int .i64 k ∧ OwnS w1.heap.size o (gatL L f n k) wr ∧ Below w1.heap.size w1 wr) (fun _ i _ => c - (intOf i).toNat)
  case atStart => exact ⟨0, Nat.zero_le _, rfl, by rw [show gatL L f n 0 = [] by unfold gatL; split <;> simp]; exact World.ownsRow_nil _ _ _ _, Below.refl _ _⟩
  case round =>
    obtain ⟨k, hk, rfl, hrow, hb0⟩ := hrel
    have hs0 := hb0.size
    by_cases hlt : k < c
    · obtain ⟨p, hp⟩ : ∃ p, L[k]? = some p := ⟨_, List.getElem?_eq_getElem (by rw [HC.out]; exact hlt)⟩
      have hne : L ≠ [] := by intro e; have := HC.out; rw [e] at this; simp at this; omega
      by_cases h1 : f < 0
      · have d1 : decide (0 ≤ f) = false := decide_eq_false (by omega)
        have HN : Hid (gatL L f n (k + 1) = gatL L f n k) := Lib.hid (by unfold gatL; rw [if_pos h1, if_pos h1])
        clear hp
        go_wp2
        go_roundw
        case rel => exact ⟨k + 1, by omega, by go_num, by rw [HN.out]; exact hrow, hb0⟩
        case measure => simp [intOf]; omega
      · have d1 : decide (0 ≤ f) = true := decide_eq_true (by omega)
        by_cases h2 : f ≤ (k : Int)
        · have d2 : decide (f ≤ (k : Int)) = true := decide_eq_true h2
          obtain ⟨d, hd⟩ : ∃ d : Int, (k : Int) - f = d := ⟨_, rfl⟩
          by_cases h3 : d < n
          · have d3 : decide (d < n) = true := decide_eq_true h3
            have HN : Hid (gatL L f n (k + 1) = gatL L f n k ++ [p]) := Lib.hid (by unfold gatL; rw [if_neg h1, if_neg h1]; exact mid_yes hp (by omega) (by omega))
            have HL := Lib.hid (strs_snoc (gatL L f n k) p)
            obtain ⟨q, hq⟩ : ∃ q, (gatL L f n k).length = q := ⟨_, rfl⟩
            have hqk : q ≤ k := by rw [← hq, gatL, if_neg h1]; exact mid_short _ _ _ _
            unfold OwnS at hrow
            rw [hq] at hrow
            have HQ := Lib.hid hq
            obtain ⟨g, rfl, hg, hc1⟩ := (HA.out.on hb0).resolve_left hne
            have x0 := hc1 k p hp
            have hnew := fun w1 => cell_one_new w1 (.string ⟨p.toArray⟩) 9
            clear hc1 hp hq
            go_wp2_with (at_builtin; refine wpList_append_own_at _ rfl _ _ 24 rfl w1.heap.size 9 i0 _ 1 16 Try.underlying24 hin hz0 hz1 hz2 rfl (by decide) _ q (strs (gatL L f n k)) rfl (hrow.alloc _) ⟨wr.heap.size, 0, none⟩ 1 1 [.string ⟨p.toArray⟩] rfl rfl (hnew wr) (by simp [Value.oneCell']) (by unfold maxLen; omega) (by omega) (by simp; omega) ?_; intro v' w5 hown' hgrow hnil hloc)
            go_roundw
            case rel =>
              refine ⟨k + 1, by omega, by go_num, ?_, ?_⟩
              · unfold OwnS
                rw [HN.out, List.length_append, HQ.out, HL.out]
                exact hown'
              · exact (on_alloc hb0 _).grown hgrow (by simp; omega) (fun b e => (World.ownsRow.lt hrow b e).1)
            case measure => simp [intOf]; omega
          · have d3 : decide (d < n) = false := decide_eq_false h3
            have HN : Hid (gatL L f n (k + 1) = gatL L f n k) := Lib.hid (by unfold gatL; rw [if_neg h1, if_neg h1]; exact mid_no (by omega))
            clear hp
            go_wp2
            go_roundw
            case rel => exact ⟨k + 1, by omega, by go_num, by rw [HN.out]; exact hrow, hb0⟩
            case measure => simp [intOf]; omega
        · have d2 : decide (f ≤ (k : Int)) = false := decide_eq_false h2
          have HN : Hid (gatL L f n (k + 1) = gatL L f n k) := Lib.hid (by unfold gatL; rw [if_neg h1, if_neg h1]; exact mid_no (by omega))
          clear hp
          go_wp2
          go_roundw
          case rel => exact ⟨k + 1, by omega, by go_num, by rw [HN.out]; exact hrow, hb0⟩
          case measure => simp [intOf]; omega
    · obtain rfl : k = c := by omega
      obtain ⟨q, hq⟩ : ∃ q, (gatL L f n k).length = q := ⟨_, rfl⟩
      have hqk : q ≤ k := by
        rw [← hq, gatL]
        split
        · simp
        · exact mid_short _ _ _ _
      obtain ⟨A2, cap2, rfl, hA2, _⟩ := OwnS.strs hrow q hq
      have HJ := Lib.hid (rjoin_c A2 cap2 q _ hq (by omega) HB.out wr hA2)
      rw [HG.out] at HJ
      clear hrow hq hA2
      go_wp2_with fail
      refine HJ.out.mono ?_
      rintro e w2 ⟨rfl, rfl⟩
      go_wp2
      go_ret
      exact ⟨rfl, on hb1 hb0⟩
end Go.Proofs.Ytkbibkadofeamaa.Run
