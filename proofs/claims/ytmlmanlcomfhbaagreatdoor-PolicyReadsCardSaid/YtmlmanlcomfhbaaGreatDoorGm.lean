/- A text's words and lines: what the reference's Words and Lines answer, for any text of at most 100000 bytes.
   Which line of a policy is wrong first, and which cells are in its grid: what the reference's Wrong and In answer. -/
import Derived.Test.YtmlmanlcomfhbaaGreatDoorGl
import Derived.Test.YtmlmanlcomfhbaaGreatDoorGj
import Derived.Test.YtmlmanlcomfhbaaGreatDoorZoneWrong
namespace Go.Proofs.YtmlmanlcomfhbaaGreatDoor.Pol
open Go.RowKit Kit Reg Go.Proofs.YtmlmanlcomfhbaaGreatDoor.Right

/-- texts as the program has them -/
def bs (ws : List (List UInt8)) : List ByteArray := ws.map fun w => ⟨w.toArray⟩
theorem bs_snoc (ws : List (List UInt8)) (w : List UInt8) : bs (ws ++ [w]) = bs ws ++ [⟨w.toArray⟩] := by simp [bs]
theorem bs_length (ws : List (List UInt8)) : (bs ws).length = ws.length := by simp [bs]
theorem strs_bs_snoc (ws : List (List UInt8)) (w : List UInt8) : strs (bs (ws ++ [w])) = strs (bs ws) ++ [.string ⟨w.toArray⟩] := by rw [bs_snoc, strs_snoc]
theorem extract_mk (t : ByteArray) (a b : Nat) : t.extract a b = ⟨((t.data.toList.drop a).take (b - a)).toArray⟩ := by
  apply bytes_inj
  rw [← Lib.toList_data, Lib.extract_toList]
theorem list_size (t : ByteArray) : t.data.toList.length = t.size := by rw [Array.length_toList]; rfl
theorem byte_of (t : ByteArray) (k : Nat) (h : k < t.size) : t.data.toList[k]? = some t[k] := by
  have h2 : k < t.data.toList.length := by simpa using h
  rw [List.getElem?_eq_getElem h2]
  rfl
theorem take_more {T : List UInt8} {fr k : Nat} (hf : fr ≤ k) (hk : k < T.length) : (T.drop fr).take (k + 1 - fr) = (T.drop fr).take (k - fr) ++ [T[k]] := by
  rw [show k + 1 - fr = (k - fr) + 1 by omega, List.take_add_one, List.getElem?_drop, show fr + (k - fr) = k by omega, List.getElem?_eq_getElem hk]
  rfl
theorem drop_split {T : List UInt8} {fr k : Nat} (hf : fr ≤ k) (hk : k < T.length) : T.drop fr = (T.drop fr).take (k - fr) ++ T[k] :: T.drop (k + 1) := by
  have h := (List.take_append_drop (k - fr) (T.drop fr)).symm
  rw [List.drop_drop, show fr + (k - fr) = k by omega, List.drop_eq_getElem_cons hk] at h
  exact h

/-- how far the words have been cut -/
def WAt (T : List UInt8) (k fr : Nat) (ws : List (List UInt8)) : Prop :=
  ws.length ≤ k ∧ fr ≤ k ∧ if k ≤ T.length then wordsF T = ws ++ wordsF (T.drop fr) ∧ (32 : UInt8) ∉ (T.drop fr).take (k - fr) else wordsF T = ws
theorem WAt.zero (T : List UInt8) : WAt T 0 0 [] := ⟨by simp, Nat.le_refl _, by rw [if_pos (Nat.zero_le _)]; simp⟩
theorem WAt.step {T : List UInt8} {k fr : Nat} {ws : List (List UInt8)} (h : WAt T k fr ws) (hk : k < T.length) (hb : T[k] ≠ 32) : WAt T (k + 1) fr ws := by
  obtain ⟨h1, h2, h3⟩ := h
  rw [if_pos (by omega)] at h3
  refine ⟨by omega, by omega, ?_⟩
  rw [if_pos (by omega), take_more h2 hk]
  refine ⟨h3.1, ?_⟩
  rw [List.mem_append, not_or]
  exact ⟨h3.2, fun e => hb (List.mem_singleton.1 e).symm⟩
theorem WAt.cut {T : List UInt8} {k fr : Nat} {ws : List (List UInt8)} (h : WAt T k fr ws) (hk : k < T.length) (hb : T[k] = 32) : WAt T (k + 1) (k + 1) (ws ++ [(T.drop fr).take (k - fr)]) := by
  obtain ⟨h1, h2, h3⟩ := h
  rw [if_pos (by omega)] at h3
  refine ⟨by simp; omega, by omega, ?_⟩
  rw [if_pos (by omega)]
  refine ⟨?_, by simp⟩
  rw [h3.1]
  conv => lhs; rw [drop_split h2 hk, hb, words_cons _ h3.2]
  simp
theorem WAt.last {T : List UInt8} {k fr : Nat} {ws : List (List UInt8)} (h : WAt T k fr ws) (hk : k = T.length) : WAt T (k + 1) (k + 1) (ws ++ [(T.drop fr).take (k - fr)]) := by
  obtain ⟨h1, h2, h3⟩ := h
  rw [if_pos (by omega)] at h3
  refine ⟨by simp; omega, by omega, ?_⟩
  rw [if_neg (by omega), h3.1]
  have e : (T.drop fr).take (k - fr) = T.drop fr := List.take_of_length_le (by rw [List.length_drop]; omega)
  rw [e] at h3 ⊢
  rw [words_one h3.2]
theorem WAt.done {T : List UInt8} {k fr : Nat} {ws : List (List UInt8)} (h : WAt T k fr ws) (hk : T.length < k) : wordsF T = ws := by
  have h3 := h.2.2
  rwa [if_neg (by omega)] at h3
/-- how far the lines have been cut -/
def LAt (T : List UInt8) (k fr : Nat) (ws : List (List UInt8)) : Prop :=
  ws.length ≤ k ∧ fr ≤ k ∧ k ≤ T.length ∧ linesG T = ws ++ linesG (T.drop fr) ∧ (10 : UInt8) ∉ (T.drop fr).take (k - fr)
theorem LAt.zero (T : List UInt8) : LAt T 0 0 [] := ⟨by simp, Nat.le_refl _, Nat.zero_le _, by simp, by simp⟩
theorem LAt.step {T : List UInt8} {k fr : Nat} {ws : List (List UInt8)} (h : LAt T k fr ws) (hk : k < T.length) (hb : T[k] ≠ 10) : LAt T (k + 1) fr ws := by
  obtain ⟨h1, h2, _, h3, h4⟩ := h
  refine ⟨by omega, by omega, by omega, h3, ?_⟩
  rw [take_more h2 hk, List.mem_append, not_or]
  exact ⟨h4, fun e => hb (List.mem_singleton.1 e).symm⟩
theorem LAt.cut {T : List UInt8} {k fr : Nat} {ws : List (List UInt8)} (h : LAt T k fr ws) (hk : k < T.length) (hb : T[k] = 10) : LAt T (k + 1) (k + 1) (ws ++ [(T.drop fr).take (k + 1 - fr)]) := by
  obtain ⟨h1, h2, _, h3, h4⟩ := h
  refine ⟨by simp; omega, by omega, by omega, ?_, by simp⟩
  rw [h3, take_more h2 hk, hb]
  conv => lhs; rw [drop_split h2 hk, hb, lines_cons _ h4]
  simp
theorem LAt.last {T : List UInt8} {k fr : Nat} {ws : List (List UInt8)} (h : LAt T k fr ws) (hk : k = T.length) (hf : fr < T.length) : linesF T = ws ++ [T.drop fr] := by
  obtain ⟨h1, h2, _, h3, h4⟩ := h
  have e : (T.drop fr).take (k - fr) = T.drop fr := List.take_of_length_le (by rw [List.length_drop]; omega)
  have hne : T ≠ [] := by rintro rfl; simp at hf
  rw [e] at h4
  rw [linesF, if_neg hne, h3, lines_last h4 (by intro e2; have := congrArg List.length e2; rw [List.length_drop] at this; simp at this; omega)]
theorem LAt.full {T : List UInt8} {k fr : Nat} {ws : List (List UInt8)} (h : LAt T k fr ws) (hf : ¬ fr < T.length) (hne : T.length ≠ 0) : linesF T = ws := by
  obtain ⟨h1, h2, h5, h3, h4⟩ := h
  rw [linesF, if_neg (by rintro rfl; simp at hne), h3, List.drop_eq_nil_of_le (by omega)]
  simp [linesG]
theorem LAt.none_ {T : List UInt8} {k fr : Nat} {ws : List (List UInt8)} (h : LAt T k fr ws) (hn : T.length = 0) : linesF T = ws ++ [T.drop fr] := by
  have hT : T = [] := List.eq_nil_of_length_eq_zero hn
  subst hT
  obtain ⟨h1, h2, h5, _, _⟩ := h
  have : ws = [] := List.eq_nil_of_length_eq_zero (by simp at h5; omega)
  subst this
  simp [linesF]
theorem u8_ne {a b : UInt8} (h : ((a.toNat : Int) == (b.toNat : Int)) = false) : a ≠ b := by
  rintro rfl
  simp at h
theorem u8_eq {a b : UInt8} (h : ((a.toNat : Int) == (b.toNat : Int)) = true) : a = b := by
  have h2 : (a.toNat : Int) = (b.toNat : Int) := by simpa using h
  exact UInt8.toNat_inj.1 (by omega)

set_option maxRecDepth 100000 in
set_option maxHeartbeats 4000000 in
theorem rwords_c (t : ByteArray) (ht : t.size ≤ 100000) (w : World) :
    Calls Tryz.prog 57 #[.string t] w fun e w' => ∃ v, e = .returned v ∧ OwnS w.heap.size v (bs (wordsF t.data.toList)) w' ∧ Below w.heap.size w w' := by
  obtain ⟨i0, hin, hz0, hz1, hz2⟩ := info_parts infoS
  have hsz := list_size t
  go_enter Tryz.func57, Tryz.ntmps57
  go_wp2
  go_loopw [3, 4, 5] (fun o f i wr => ∃ (k fr : Nat) (ws : List (List UInt8)), k ≤ t.size + 1 ∧ i = .int .i64 k ∧ f = .int .i64 fr ∧ Hid (WAt t.data.toList k fr ws) ∧ OwnS w.heap.size o (bs ws) wr ∧ Below w.heap.size w wr) (fun _ _ i _ => t.size + 1 - (intOf i).toNat)
  case atStart => exact ⟨0, 0, [], Nat.zero_le _, rfl, rfl, Lib.hid (WAt.zero _), World.ownsRow_nil _ _ _ _, Below.refl _ _⟩
  case round =>
    obtain ⟨k, fr, ws, hk, rfl, rfl, hW, hrow, hb0⟩ := hrel
    have hwl := hW.out.1
    have hfr := hW.out.2.1
    have hs0 := hb0.size
    by_cases hlt : k < t.size
    · have hi1 : ((k : Int) == (t.size : Int)) = false := by simp; omega
      have hi2 : (k == t.size) = false := by simp; omega
      cases hq : ((t[k].toNat : Int) == 32) with
      | false =>
        have HN := Lib.hid (hW.out.step (by omega) (u8_ne (b := 32) hq))
        clear hW
        go_wp2
        go_roundw
        case rel => exact ⟨k + 1, fr, ws, by omega, by go_num, rfl, HN, hrow, hb0⟩
        case measure => first | (simp [intOf]; done) | (simp [intOf]; omega)
      | true =>
        have HN := Lib.hid (hW.out.cut (by omega) (u8_eq (b := 32) hq))
        have HX := Lib.hid (extract_mk t fr k)
        have hnew := cell_one_new wr (.string (t.extract fr k)) 9
        have HL := Lib.hid (strs_bs_snoc ws ((t.data.toList.drop fr).take (k - fr)))
        unfold OwnS at hrow
        rw [bs_length] at hrow
        clear hW
        go_wp2_with (at_builtin; refine wpList_append_own_at _ rfl _ _ 58 rfl w.heap.size 9 i0 _ 1 16 Tryz.underlying58 hin hz0 hz1 hz2 rfl (by decide) _ ws.length (strs (bs ws)) rfl (hrow.alloc _) ⟨wr.heap.size, 0, none⟩ 1 1 [.string (t.extract fr k)] rfl rfl hnew (by simp [Value.oneCell']) (by unfold maxLen; omega) (by omega) (by simp; omega) ?_; intro v' w5 hown' hgrow hnil hloc)
        go_roundw
        case rel =>
          refine ⟨k + 1, k + 1, _, by omega, by go_num, by go_num, HN, ?_, ?_⟩
          · unfold OwnS
            rw [bs_length, List.length_append, HL.out, ← HX.out]
            exact hown'
          · exact (on_alloc hb0 _).grown hgrow (by simp; omega) (fun b e => (World.ownsRow.lt hrow b e).1)
        case measure => first | (simp [intOf]; done) | (simp [intOf]; omega)
    · by_cases hle : k = t.size
      · subst hle
        have hi1 : ((t.size : Int) == (t.size : Int)) = true := by simp
        have HN := Lib.hid (hW.out.last hsz.symm)
        have HX := Lib.hid (extract_mk t fr t.size)
        have hnew := cell_one_new wr (.string (t.extract fr t.size)) 9
        have HL := Lib.hid (strs_bs_snoc ws ((t.data.toList.drop fr).take (t.size - fr)))
        unfold OwnS at hrow
        rw [bs_length] at hrow
        clear hW
        go_wp2_with (at_builtin; refine wpList_append_own_at _ rfl _ _ 58 rfl w.heap.size 9 i0 _ 1 16 Tryz.underlying58 hin hz0 hz1 hz2 rfl (by decide) _ ws.length (strs (bs ws)) rfl (hrow.alloc _) ⟨wr.heap.size, 0, none⟩ 1 1 [.string (t.extract fr t.size)] rfl rfl hnew (by simp [Value.oneCell']) (by unfold maxLen; omega) (by omega) (by simp; omega) ?_; intro v' w5 hown' hgrow hnil hloc)
        go_roundw
        case rel =>
          refine ⟨t.size + 1, t.size + 1, _, by omega, by go_num, by go_num, HN, ?_, ?_⟩
          · unfold OwnS
            rw [bs_length, List.length_append, HL.out, ← HX.out]
            exact hown'
          · exact (on_alloc hb0 _).grown hgrow (by simp; omega) (fun b e => (World.ownsRow.lt hrow b e).1)
        case measure => first | (simp [intOf]; done) | (simp [intOf]; omega)
      · have HE := hW.out.done (by omega)
        go_wp2
        go_ret
        exact ⟨_, rfl, by rw [HE]; exact hrow, hb0⟩
set_option maxRecDepth 100000 in
set_option maxHeartbeats 4000000 in
theorem rlines_in (t : ByteArray) (ht : t.size ≤ 100000) (hpos : ¬ t.size = 0) (w : World) :
    Calls Tryz.prog 35 #[.string t] w fun e w' => ∃ v, e = .returned v ∧ OwnS w.heap.size v (bs (linesF t.data.toList)) w' ∧ Below w.heap.size w w' := by
  obtain ⟨i0, hin, hz0, hz1, hz2⟩ := info_parts infoS
  have hsz := list_size t
  go_enter Tryz.func35, Tryz.ntmps35
  go_wp2
  go_loopw [3, 4, 5] (fun o f i wr => ∃ (k fr : Nat) (ws : List (List UInt8)), k ≤ t.size ∧ i = .int .i64 k ∧ f = .int .i64 fr ∧ Hid (LAt t.data.toList k fr ws) ∧ OwnS w.heap.size o (bs ws) wr ∧ Below w.heap.size w wr) (fun _ _ i _ => t.size - (intOf i).toNat)
  case atStart => exact ⟨0, 0, [], Nat.zero_le _, rfl, rfl, Lib.hid (LAt.zero _), World.ownsRow_nil _ _ _ _, Below.refl _ _⟩
  case round =>
    obtain ⟨k, fr, ws, hk, rfl, rfl, hW, hrow, hb0⟩ := hrel
    have hwl := hW.out.1
    have hfr := hW.out.2.1
    have hs0 := hb0.size
    by_cases hlt : k < t.size
    · cases hq : ((t[k].toNat : Int) == 10) with
      | false =>
        have HN := Lib.hid (hW.out.step (by omega) (u8_ne (b := 10) hq))
        clear hW
        go_wp2
        go_roundw
        case rel => exact ⟨k + 1, fr, ws, by omega, by go_num, rfl, HN, hrow, hb0⟩
        case measure => first | (simp [intOf]; done) | (simp [intOf]; omega)
      | true =>
        have HN := Lib.hid (hW.out.cut (by omega) (u8_eq (b := 10) hq))
        have HX := Lib.hid (extract_mk t fr (k + 1))
        have hnew := cell_one_new wr (.string (t.extract fr (k + 1))) 9
        have HL := Lib.hid (strs_bs_snoc ws ((t.data.toList.drop fr).take (k + 1 - fr)))
        unfold OwnS at hrow
        rw [bs_length] at hrow
        clear hW
        go_wp2_with (at_builtin; refine wpList_append_own_at _ rfl _ _ 58 rfl w.heap.size 9 i0 _ 1 16 Tryz.underlying58 hin hz0 hz1 hz2 rfl (by decide) _ ws.length (strs (bs ws)) rfl (hrow.alloc _) ⟨wr.heap.size, 0, none⟩ 1 1 [.string (t.extract fr (k + 1))] rfl rfl hnew (by simp [Value.oneCell']) (by unfold maxLen; omega) (by omega) (by simp; omega) ?_; intro v' w5 hown' hgrow hnil hloc)
        go_roundw
        case rel =>
          refine ⟨k + 1, k + 1, _, by omega, by go_num, by go_num, HN, ?_, ?_⟩
          · unfold OwnS
            rw [bs_length, List.length_append, HL.out, ← HX.out]
            exact hown'
          · exact (on_alloc hb0 _).grown hgrow (by simp; omega) (fun b e => (World.ownsRow.lt hrow b e).1)
        case measure => first | (simp [intOf]; done) | (simp [intOf]; omega)
    · obtain rfl : k = t.size := by omega
      by_cases hf : fr < t.size
      · have HE := Lib.hid (hW.out.last hsz.symm (by omega))
        have HX := Lib.hid (extract_mk t fr t.size)
        have HT : Hid ((t.data.toList.drop fr).take (t.size - fr) = t.data.toList.drop fr) := Lib.hid (List.take_of_length_le (by rw [List.length_drop]; omega))
        have hnew := cell_one_new wr (.string (t.extract fr t.size)) 9
        have HL := Lib.hid (strs_bs_snoc ws ((t.data.toList.drop fr).take (t.size - fr)))
        unfold OwnS at hrow
        rw [bs_length] at hrow
        clear hW
        go_wp2_with (at_builtin; refine wpList_append_own_at _ rfl _ _ 58 rfl w.heap.size 9 i0 _ 1 16 Tryz.underlying58 hin hz0 hz1 hz2 rfl (by decide) _ ws.length (strs (bs ws)) rfl (hrow.alloc _) ⟨wr.heap.size, 0, none⟩ 1 1 [.string (t.extract fr t.size)] rfl rfl hnew (by simp [Value.oneCell']) (by unfold maxLen; omega) (by omega) (by simp; omega) ?_; intro v' w5 hown' hgrow hnil hloc)
        go_ret
        refine ⟨_, rfl, ?_, ?_⟩
        · rw [HE.out, ← HT.out]
          unfold OwnS
          rw [bs_length, List.length_append, HL.out, ← HX.out]
          exact hown'
        · exact (on_alloc hb0 _).grown hgrow (by simp; omega) (fun b e => (World.ownsRow.lt hrow b e).1)
      · have hn : ¬ t.size = 0 := hpos
        have hn1 : ((t.size : Int) == 0) = false := by rw [beq_eq_false_iff_ne]; omega
        have hn2 : (t.size == 0) = false := by rw [beq_eq_false_iff_ne]; exact hn
        have HE := Lib.hid (hW.out.full (by omega) (by omega))
        clear hW
        go_wp2
        go_ret
        exact ⟨_, rfl, by rw [HE.out]; exact hrow, hb0⟩
set_option maxRecDepth 100000 in
set_option maxHeartbeats 4000000 in
theorem rlines_none (w : World) :
    Calls Tryz.prog 35 #[.string ⟨#[]⟩] w fun e w' => ∃ v, e = .returned v ∧ OwnS w.heap.size v (bs [[]]) w' ∧ Below w.heap.size w w' := by
  obtain ⟨i0, hin, hz0, hz1, hz2⟩ := info_parts infoS
  have hrow : w.ownsRow w.heap.size 9 1 (.slice none 0 0) 0 [] := World.ownsRow_nil _ _ _ _
  have hnew := cell_one_new w (.string ⟨#[]⟩) 9
  go_enter Tryz.func35, Tryz.ntmps35
  go_wp2
  go_loopw [3, 4, 5] (fun o f i wr => o = .slice none 0 0 ∧ f = .int .i64 0 ∧ i = .int .i64 0 ∧ wr = w) (fun _ _ _ _ => 0)
  case atStart => exact ⟨rfl, rfl, rfl, rfl⟩
  case round =>
    obtain ⟨rfl, rfl, rfl, rfl⟩ := hrel
    go_wp2_with (at_builtin; refine wpList_append_own_at _ rfl _ _ 58 rfl wr.heap.size 9 i0 _ 1 16 Tryz.underlying58 hin hz0 hz1 hz2 rfl (by decide) _ 0 [] rfl (hrow.alloc _) ⟨wr.heap.size, 0, none⟩ 1 1 [.string ⟨#[]⟩] rfl rfl hnew (by simp [Value.oneCell']) (by unfold maxLen; omega) (by omega) (by simp) ?_; intro v' w5 hown' hgrow hnil hloc)
    go_ret
    exact ⟨_, rfl, hown', (below1 wr _).grown hgrow (by simp) (fun b e => (World.ownsRow.lt hrow b e).1)⟩
theorem rlines_c (t : ByteArray) (ht : t.size ≤ 100000) (w : World) :
    Calls Tryz.prog 35 #[.string t] w fun e w' => ∃ v, e = .returned v ∧ OwnS w.heap.size v (bs (linesF t.data.toList)) w' ∧ Below w.heap.size w w' := by
  by_cases h : t.size = 0
  · have e : t = ⟨#[]⟩ := bytes_inj (List.eq_nil_of_length_eq_zero (by rw [list_size]; exact h))
    subst e
    exact rlines_none w
  · exact rlines_in t ht h w
end Go.Proofs.YtmlmanlcomfhbaaGreatDoor.Pol
namespace Go.Proofs.YtmlmanlcomfhbaaGreatDoor.Pol
open Go.RowKit Kit Reg
open Go.Proofs.YtmlmanlcomfhbaaGreatDoor.Zone (Zn ZonesR wrongF)
open Go.Proofs.YtmlmanlcomfhbaaGreatDoor.Right (Us Gr UsersR GrantsR wrongU wrongG whyU whyG findI)

theorem wrongF_at : ∀ (zs : List Zn) (k : Nat) (a b : Int), 0 ≤ (wrongF k zs a b).1 ∧ (wrongF k zs a b).1 ≤ ((k + zs.length : Nat) : Int)
  | [], k, a, b => by simp only [wrongF]; omega
  | z :: r, k, a, b => by
    have ih := wrongF_at r (k + 1) a b
    rw [wrongF]
    split
    · rw [List.length_cons]; omega
    · rw [List.length_cons]; simp only; omega
theorem wrongU_at (us : List Us) : ∀ (r : List Us) (k : Nat), 0 ≤ (wrongU us k r).1 ∧ (wrongU us k r).1 ≤ ((k + r.length : Nat) : Int)
  | [], k => by simp only [wrongU]; omega
  | z :: r, k => by
    have ih := wrongU_at us r (k + 1)
    rw [wrongU]
    split
    · rw [List.length_cons]; omega
    · rw [List.length_cons]; simp only; omega
theorem wrongG_at (us : List Us) : ∀ (r : List Gr) (k : Nat), 0 ≤ (wrongG us k r).1 ∧ (wrongG us k r).1 ≤ ((k + r.length : Nat) : Int)
  | [], k => by simp only [wrongG]; omega
  | z :: r, k => by
    have ih := wrongG_at us r (k + 1)
    rw [wrongG]
    split
    · rw [List.length_cons]; omega
    · rw [List.length_cons]; simp only; omega
/-- the five tests of a grid's size, one behind the other -/
theorem size_ways (r c : Int) : (sizeB r c = false ∧ (decide (r < 1) = true ∨ (decide (r < 1) = false ∧ decide (999 < r) = true) ∨ (decide (r < 1) = false ∧ decide (999 < r) = false ∧ decide (c < 1) = true) ∨
      (decide (r < 1) = false ∧ decide (999 < r) = false ∧ decide (c < 1) = false ∧ decide (702 < c) = true) ∨
      (decide (r < 1) = false ∧ decide (999 < r) = false ∧ decide (c < 1) = false ∧ decide (702 < c) = false ∧ (0 ≤ r * c ∧ r * c ≤ 701298) ∧ decide (400 < r * c) = true))) ∨
    (sizeB r c = true ∧ decide (r < 1) = false ∧ decide (999 < r) = false ∧ decide (c < 1) = false ∧ decide (702 < c) = false ∧ (0 ≤ r * c ∧ r * c ≤ 701298) ∧ decide (400 < r * c) = false) := by
  by_cases h1 : r < 1
  · exact .inl ⟨by simp [sizeB]; omega, .inl (by simpa using h1)⟩
  by_cases h2 : 999 < r
  · exact .inl ⟨by simp [sizeB]; omega, .inr (.inl ⟨by simpa using h1, by simpa using h2⟩)⟩
  by_cases h3 : c < 1
  · exact .inl ⟨by simp [sizeB]; omega, .inr (.inr (.inl ⟨by simpa using h1, by simpa using h2, by simpa using h3⟩))⟩
  by_cases h4 : 702 < c
  · exact .inl ⟨by simp [sizeB]; omega, .inr (.inr (.inr (.inl ⟨by simpa using h1, by simpa using h2, by simpa using h3, by simpa using h4⟩)))⟩
  have hm : 0 ≤ r * c ∧ r * c ≤ 701298 := ⟨Int.mul_nonneg (by omega) (by omega), by
    have := Int.mul_le_mul (show r ≤ 999 by omega) (show c ≤ 702 by omega) (by omega) (by omega : (0 : Int) ≤ 999)
    omega⟩
  by_cases h5 : 400 < r * c
  · exact .inl ⟨by simp [sizeB]; omega, .inr (.inr (.inr (.inr ⟨by simpa using h1, by simpa using h2, by simpa using h3, by simpa using h4, hm, by simpa using h5⟩)))⟩
  · exact .inr ⟨by simp [sizeB]; omega, by simpa using h1, by simpa using h2, by simpa using h3, by simpa using h4, hm, by simpa using h5⟩
/-- the four ways in which a policy of a right size is wrong, or not -/
theorem wrongP_ways (p : Pl) (h : sizeB p.rows p.cols = true) {za ze ua ue ga ge : Int} (hz : wrongF 0 p.zs p.rows p.cols = (za, ze)) (hu : wrongU p.us 0 p.us = (ua, ue)) (hg : wrongG p.us 0 p.gs = (ga, ge)) :
    ((ze == 0) = false ∧ wrongP p = (2 + za, ze)) ∨ (ze = 0 ∧ (ue == 0) = false ∧ wrongP p = (2 + p.zs.length + ua, ue)) ∨ (ze = 0 ∧ ue = 0 ∧ (ge == 0) = false ∧ wrongP p = (2 + p.zs.length + p.us.length + ga, ge)) ∨ (ze = 0 ∧ ue = 0 ∧ ge = 0 ∧ wrongP p = (0, 0)) := by
  unfold wrongP
  rw [h, hz, hu, hg, if_neg (by decide)]
  by_cases h1 : ze = 0
  · rw [if_neg (by simpa using h1)]
    by_cases h2 : ue = 0
    · rw [if_neg (by simpa using h2)]
      by_cases h3 : ge = 0
      · rw [if_neg (by simpa using h3)]; exact .inr (.inr (.inr ⟨h1, h2, h3, rfl⟩))
      · rw [if_pos (by simpa using h3)]; exact .inr (.inr (.inl ⟨h1, h2, by simpa using h3, rfl⟩))
    · rw [if_pos (by simpa using h2)]; exact .inr (.inl ⟨h1, by simpa using h2, rfl⟩)
  · rw [if_pos (by simpa using h1)]; exact .inl ⟨by simpa using h1, rfl⟩

set_option maxRecDepth 100000 in
set_option maxHeartbeats 4000000 in
theorem rwrongP_c (p : Pl) (A1 : Option Addr) (n1 c1 : Nat) (A2 : Option Addr) (n2 c2 : Nat) (A3 : Option Addr) (n3 c3 : Nat) (w : World) (hz : ZonesR w A1 n1 p.zs) (hu : UsersR w A2 n2 p.us) (hg : GrantsR w A3 n3 p.gs) :
    Calls Tryz.prog 9 #[.agg #[.int .i64 p.rows, .int .i64 p.cols, .slice A1 n1 c1, .slice A2 n2 c2, .slice A3 n3 c3]] w fun e w' => e = .returned (.agg #[.int .i64 (wrongP p).1, .int .i64 (wrongP p).2]) ∧ Below w.heap.size w w' := by
  have hb0 := below2 w (.cells #[.int .i64 p.rows, .int .i64 p.cols, .slice A1 n1 c1, .slice A2 n2 c2, .slice A3 n3 c3] 26) (.cells #[.int .i64 0, .int .i64 0] 35)
  have kp := (CellsAt.new w [.int .i64 p.rows, .int .i64 p.cols, .slice A1 n1 c1, .slice A2 n2 c2, .slice A3 n3 c3] 26).on_alloc (.cells #[.int .i64 0, .int .i64 0] 35)
  have kr := CellsAt.new (w.alloc (.cells #[.int .i64 p.rows, .int .i64 p.cols, .slice A1 n1 c1, .slice A2 n2 c2, .slice A3 n3 c3] 26)) [.int .i64 0, .int .i64 0] 35
  rw [show (w.alloc (.cells #[.int .i64 p.rows, .int .i64 p.cols, .slice A1 n1 c1, .slice A2 n2 c2, .slice A3 n3 c3] 26)).heap.size = w.heap.size + 1 by simp] at kr
  obtain ⟨za, ze, hze⟩ : ∃ za ze, wrongF 0 p.zs p.rows p.cols = (za, ze) := ⟨_, _, rfl⟩
  obtain ⟨ua, ue, hue⟩ : ∃ ua ue, wrongU p.us 0 p.us = (ua, ue) := ⟨_, _, rfl⟩
  obtain ⟨ga, ge, hge⟩ : ∃ ga ge, wrongG p.us 0 p.gs = (ga, ge) := ⟨_, _, rfl⟩
  have bz := wrongF_at p.zs 0 p.rows p.cols
  have bu := wrongU_at p.us p.us 0
  have bg := wrongG_at p.us p.gs 0
  rw [hze, hz.1] at bz
  rw [hue, hu.1] at bu
  rw [hge, hg.1] at bg
  simp only [Nat.zero_add] at bz bu bg
  obtain ⟨bz0, bz1⟩ := bz
  obtain ⟨bu0, bu1⟩ := bu
  obtain ⟨bg0, bg1⟩ := bg
  have mz := hz.2.1
  have mu := hu.2.1
  have mg := hg.2.1
  have lz := hz.1
  have lu := hu.1
  have HZ := Lib.hid hz
  have HU := Lib.hid hu
  have HG := Lib.hid hg
  have CZ := Lib.hid (fun w1 h => Zone.rwrong_c A1 n1 c1 p.zs p.rows p.cols _ _ hze w1 h)
  have CU := Lib.hid (fun w1 h => Right.rusers_c A2 n2 c2 p.us _ _ hue w1 h)
  have CG := Lib.hid (fun w1 h h2 => Right.rgrants_c A3 n3 c3 p.gs A2 n2 c2 p.us _ _ hge w1 h h2)
  rcases size_ways p.rows p.cols with ⟨hs, hw⟩ | ⟨hs, d1, d2, d3, d4, ⟨dm0, dm1⟩, d5⟩
  · rw [show wrongP p = (1, 2) by unfold wrongP; rw [if_pos hs]]
    have hbx := below2 w (.cells #[.int .i64 p.rows, .int .i64 p.cols, .slice A1 n1 c1, .slice A2 n2 c2, .slice A3 n3 c3] 26) (.cells #[.int .i64 1, .int .i64 2] 35)
    have kr2 := CellsAt.new (w.alloc (.cells #[.int .i64 p.rows, .int .i64 p.cols, .slice A1 n1 c1, .slice A2 n2 c2, .slice A3 n3 c3] 26)) [.int .i64 1, .int .i64 2] 35
    rw [show (w.alloc (.cells #[.int .i64 p.rows, .int .i64 p.cols, .slice A1 n1 c1, .slice A2 n2 c2, .slice A3 n3 c3] 26)).heap.size = w.heap.size + 1 by simp] at kr2
    obtain ⟨e0, e1, _⟩ := kr2.two
    obtain ⟨p0, p1, _⟩ := kp.five
    have lp := kp.1
    clear hze hue hge CZ CU CG hs hz hu hg HZ HU HG lz lu
    generalize p.rows = r at *
    generalize p.cols = c at *
    rcases hw with d1 | ⟨d1, d2⟩ | ⟨d1, d2, d3⟩ | ⟨d1, d2, d3, d4⟩ | ⟨d1, d2, d3, d4, ⟨dm0, dm1⟩, d5⟩
    all_goals
      go_enter Tryz.func9, Tryz.ntmps9
      go_wp2
      exact bodyPost_ret (v := .agg #[.int .i64 1, .int .i64 2]) (by simp [results, Tryz.results9, go_sem, e0, e1]) rfl ⟨rfl, hbx⟩
  · have hW := wrongP_ways p hs hze hue hge
    rw [lz, lu] at hW
    have HW := Lib.hid hW
    clear hW
    clear hze hue hge hs hz hu hg
    generalize hP : wrongP p = P at *
    clear hP
    generalize p.rows = r at *
    generalize p.cols = c at *
    obtain ⟨p0, p1, p2, p3, p4, _⟩ := kp.five
    have lp := kp.1
    go_enter Tryz.func9, Tryz.ntmps9
    go_wp2_with fail
    generalize (w.alloc (.cells #[.int .i64 r, .int .i64 c, .slice A1 n1 c1, .slice A2 n2 c2, .slice A3 n3 c3] 26)).alloc (.cells #[.int .i64 0, .int .i64 0] 35) = W at *
    refine (CZ.out _ (HZ.out.on hb0)).mono ?_
    rintro e w1 ⟨rfl, hb1⟩
    have kz := CellsAt.new w1 [.int .i64 za, .int .i64 ze] 35
    have hbx := below1 w1 (.cells #[.int .i64 za, .int .i64 ze] 35)
    have q1 := (kp.on hb1).1
    replace hb0 := on (on hb0 hb1) hbx
    replace kp := (kp.on hb1).on hbx
    replace kr := (kr.on hb1).on hbx
    clear hb1 hbx p0 p1 p2 p3 p4 lp CZ
    obtain ⟨p0, p1, p2, p3, p4, _⟩ := kp.five
    have lp := kp.1
    go_wp2_with fail
    change CellsAt (w1.alloc (.cells #[.int .i64 za, .int .i64 ze] 35)) w1.heap.size [.int .i64 za, .int .i64 ze] at kz
    have hz1 : w1.heap.size < (w1.alloc (.cells #[.int .i64 za, .int .i64 ze] 35)).heap.size := by simp
    generalize w1.alloc (.cells #[.int .i64 za, .int .i64 ze] 35) = W1 at *
    generalize w1.heap.size = bz at *
    refine (CU.out _ (HU.out.on hb0)).mono ?_
    rintro e w2 ⟨rfl, hb2⟩
    have ku := CellsAt.new w2 [.int .i64 ua, .int .i64 ue] 35
    have hbx := below1 w2 (.cells #[.int .i64 ua, .int .i64 ue] 35)
    replace hb0 := on (on hb0 hb2) hbx
    replace kp := (kp.on hb2).on hbx
    replace kr := (kr.on hb2).on hbx
    replace kz := (kz.on hb2).on hbx
    clear hb2 hbx p0 p1 p2 p3 p4 lp CU
    obtain ⟨p0, p1, p2, p3, p4, _⟩ := kp.five
    have lp := kp.1
    go_wp2_with fail
    change CellsAt (w2.alloc (.cells #[.int .i64 ua, .int .i64 ue] 35)) w2.heap.size [.int .i64 ua, .int .i64 ue] at ku
    generalize w2.alloc (.cells #[.int .i64 ua, .int .i64 ue] 35) = W2 at *
    generalize w2.heap.size = bu at *
    refine (CG.out _ (HG.out.on hb0) (HU.out.on hb0)).mono ?_
    rintro e w3 ⟨rfl, hb3⟩
    have kg := CellsAt.new w3 [.int .i64 ga, .int .i64 ge] 35
    have hbx := below1 w3 (.cells #[.int .i64 ga, .int .i64 ge] 35)
    replace hb0 := on (on hb0 hb3) hbx
    replace kp := (kp.on hb3).on hbx
    replace kr := (kr.on hb3).on hbx
    replace kz := (kz.on hb3).on hbx
    replace ku := (ku.on hb3).on hbx
    clear hb3 hbx p0 p1 p2 p3 p4 lp CG HZ HU HG
    obtain ⟨p0, p1, p2, p3, p4, _⟩ := kp.five
    obtain ⟨z0, z1, _⟩ := kz.two
    obtain ⟨u0, u1, _⟩ := ku.two
    obtain ⟨g0, g1, _⟩ := kg.two
    obtain ⟨r0, r1, f0, f1⟩ := kr.two
    have lp := kp.1
    have lz1 := kz.1
    have lu1 := ku.1
    have lg1 := kg.1
    have lr1 := kr.1
    change (w3.alloc (.cells #[.int .i64 ga, .int .i64 ge] 35)).cell? _ = _ at g0
    change (w3.alloc (.cells #[.int .i64 ga, .int .i64 ge] 35)).cell? _ = _ at g1
    rcases HW.out with ⟨hn, rfl⟩ | ⟨rfl, hn, rfl⟩ | ⟨rfl, rfl, hn, rfl⟩ | ⟨rfl, rfl, rfl, rfl⟩
    · obtain ⟨e0, e1⟩ := two_set (u := .int .i64 (2 + za)) (v := .int .i64 ze) r0 r1
      have hbx := set2 hb0 (b := w.heap.size + 1) (by omega) (.int .i64 (2 + za)) (.int .i64 ze)
      clear kp kz ku kg kr HW
      go_wp2
      exact bodyPost_ret (v := .agg #[.int .i64 (2 + za), .int .i64 ze]) (by simp [results, Tryz.results9, go_sem, e0, e1]) rfl ⟨rfl, hbx⟩
    · obtain ⟨e0, e1⟩ := two_set (u := .int .i64 (2 + n1 + ua)) (v := .int .i64 ue) r0 r1
      have hbx := set2 hb0 (b := w.heap.size + 1) (by omega) (.int .i64 (2 + n1 + ua)) (.int .i64 ue)
      clear kp kz ku kg kr HW
      go_wp2
      exact bodyPost_ret (v := .agg #[.int .i64 (2 + n1 + ua), .int .i64 ue]) (by simp [results, Tryz.results9, go_sem, e0, e1]) rfl ⟨rfl, hbx⟩
    · obtain ⟨e0, e1⟩ := two_set (u := .int .i64 (2 + n1 + n2 + ga)) (v := .int .i64 ge) r0 r1
      have hbx := set2 hb0 (b := w.heap.size + 1) (by omega) (.int .i64 (2 + n1 + n2 + ga)) (.int .i64 ge)
      clear kp kz ku kg kr HW
      go_wp2
      exact bodyPost_ret (v := .agg #[.int .i64 (2 + n1 + n2 + ga), .int .i64 ge]) (by simp [results, Tryz.results9, go_sem, e0, e1]) rfl ⟨rfl, hbx⟩
    · obtain ⟨e0, e1⟩ := two_set (u := .int .i64 0) (v := .int .i64 0) r0 r1
      have hbx := set2 hb0 (b := w.heap.size + 1) (by omega) (.int .i64 0) (.int .i64 0)
      clear kp kz ku kg kr HW
      go_wp2
      exact bodyPost_ret (v := .agg #[.int .i64 0, .int .i64 0]) (by simp [results, Tryz.results9, go_sem, e0, e1]) rfl ⟨rfl, hbx⟩

/-- is a cell in a grid? -/
def inB (r c x y : Int) : Bool := decide (0 ≤ x) && decide (x < r) && decide (0 ≤ y) && decide (y < c)
set_option maxRecDepth 100000 in
set_option maxHeartbeats 2000000 in
theorem rin_c (r c x y : Int) (v1 v2 v3 : Value) (w : World) :
    Calls Tryz.prog 11 #[.agg #[.int .i64 r, .int .i64 c, v1, v2, v3], .agg #[.int .i64 x, .int .i64 y]] w fun e w' => e = .returned (.bool (inB r c x y)) ∧ Below w.heap.size w w' := by
  have hb0 := below2 w (.cells #[.int .i64 r, .int .i64 c, v1, v2, v3] 26) (.cells #[.int .i64 x, .int .i64 y] 28)
  obtain ⟨b1, e1⟩ : ∃ b, decide (0 ≤ x) = b := ⟨_, rfl⟩
  obtain ⟨b2, e2⟩ : ∃ b, decide (x < r) = b := ⟨_, rfl⟩
  obtain ⟨b3, e3⟩ : ∃ b, decide (0 ≤ y) = b := ⟨_, rfl⟩
  obtain ⟨b4, e4⟩ : ∃ b, decide (y < c) = b := ⟨_, rfl⟩
  unfold inB
  rw [e1, e2, e3, e4]
  cases b1 <;> cases b2 <;> cases b3 <;> cases b4
  all_goals
    go_enter Tryz.func11, Tryz.ntmps11
    go_wp2
    go_ret
    exact ⟨rfl, hb0⟩
end Go.Proofs.YtmlmanlcomfhbaaGreatDoor.Pol
