/- What strings.Cut answers at a comma, and what category and Parse of package cats answer: for every text within the form's reach. -/
import Derived.Test.YtcgpggknmhlnkaaDoorPs11
import Derived.Test.YtcgpggknmhlnkaaDoorPs12
import Derived.Test.YtcgpggknmhlnkaaDoorPs13
namespace Go.Proofs.YtcgpggknmhlnkaaDoor.Cats
open Go.RowKit
set_option maxRecDepth 100000 in
set_option maxHeartbeats 400000 in
theorem lcut_hit (s : ByteArray) (i : Nat) (hi : Lib.indexByte s.data.toList 44 = i) (hr : i + 1 ≤ s.size) (hs : s.size ≤ 9223372036854775807) (w : World) :
    Calls Tryd.prog 50 #[.string s, .string ⟨#[44]⟩] w fun e w' => e = .returned (.tuple #[.string (s.extract 0 i), .string (s.extract (i + 1) s.size), .bool true]) ∧ Drawn w w' := by
  have HI := Lib.hid hi
  clear hi
  have c1 : (0 : Int) ≤ ↑i := by omega
  have c2 : (↑i : Int) ≤ ↑s.size := by omega
  have c3 : (0 : Int) ≤ ↑i + 1 := by omega
  have c4 : (↑i + 1 : Int) ≤ ↑s.size := by omega
  go_enter Tryd.func50, Tryd.ntmps50
  go_wp2_with (go_at_call 57; refine (Tryd.stringslite_Index_one s 44 _).mono ?_; rintro e w' ⟨rfl, rfl⟩; rw [HI.out])
  go_region
  all_goals (try go_wp2)
  all_goals go_ret3
  all_goals exact ⟨rfl, 1, rfl⟩
set_option maxRecDepth 100000 in
set_option maxHeartbeats 400000 in
theorem lcut_miss (s : ByteArray) (hi : Lib.indexByte s.data.toList 44 = -1) (w : World) :
    Calls Tryd.prog 50 #[.string s, .string ⟨#[44]⟩] w fun e w' => e = .returned (.tuple #[.string s, .string ⟨#[]⟩, .bool false]) ∧ Drawn w w' := by
  have HI := Lib.hid hi
  clear hi
  go_enter Tryd.func50, Tryd.ntmps50
  go_wp2_with (go_at_call 57; refine (Tryd.stringslite_Index_one s 44 _).mono ?_; rintro e w' ⟨rfl, rfl⟩; rw [HI.out])
  go_ret3
  exact ⟨rfl, 0, rfl⟩
/-- how the cut goes, in lists -/
def CutIs (l a b : List UInt8) (f : Bool) : Prop := (cutC l = some (a, b) ∧ f = true) ∨ (cutC l = none ∧ a = l ∧ b = [] ∧ f = false)
def CutEnd (l : List UInt8) (w : World) (e : Ending) (w' : World) : Prop :=
  ∃ sa sb f, e = .returned (.tuple #[.string sa, .string sb, .bool f]) ∧ CutIs l sa.data.toList sb.data.toList f ∧ Drawn w w'
theorem lcut_c (s : ByteArray) (hs : s.size ≤ 9223372036854775807) (w : World) :
    Calls Tryd.prog 50 #[.string s, .string ⟨#[44]⟩] w (CutEnd s.data.toList w) := by
  rcases cutC_index s.data.toList with ⟨h1, h2⟩ | ⟨i, h1, h2, h3⟩
  · exact (lcut_miss s h1 w).mono fun e w' ⟨he, hw⟩ => ⟨_, _, _, he, .inr ⟨h2, rfl, rfl, rfl⟩, hw⟩
  · rw [← Lib.size_eq] at h2
    refine (lcut_hit s i h1 h2 hs w).mono fun e w' ⟨he, hw⟩ => ⟨_, _, _, he, .inl ⟨?_, rfl⟩, hw⟩
    rw [h3, Lib.extract_eq, Lib.extract_eq, Lib.size_eq]
    simp only [List.drop_zero, Nat.sub_zero]
    rw [List.take_of_length_le (l := List.drop (i + 1) s.data.toList) (by simp)]
set_option maxRecDepth 100000 in
set_option maxHeartbeats 400000 in
theorem cut_c (s : ByteArray) (hs : s.size ≤ 9223372036854775807) (w : World) :
    Calls Tryd.prog 46 #[.string s, .string ⟨#[44]⟩] w (CutEnd s.data.toList w) := by
  go_enter Tryd.func46, Tryd.ntmps46
  go_wp2_with (go_at_call 50; refine (lcut_c s hs _).mono ?_; rintro e w' ⟨sa, sb, f, rfl, hc, hw⟩)
  go_ret3
  exact ⟨_, _, _, rfl, hc, hw⟩

/-- category's answer -/
def CatEnd (r : Option Nat) (w : World) (e : Ending) (w' : World) : Prop := e = .returned (.tuple #[.int .i64 (r.getD 0 : Nat), .bool r.isSome]) ∧ w = w'
theorem CatEnd.none_ {r : Option Nat} (h : r = none) (w : World) : CatEnd r w (.returned (.tuple #[.int .i64 0, .bool false])) w := by subst h; exact ⟨rfl, rfl⟩
theorem CatEnd.some_ {r : Option Nat} {c : Nat} (h : r = some c) (w : World) : CatEnd r w (.returned (.tuple #[.int .i64 c, .bool true])) w := by subst h; exact ⟨rfl, rfl⟩
def DigAt (l : List UInt8) (k q : Nat) : Prop := digV 0 l = digV q (l.drop k) ∧ q < 10 ^ k
theorem DigAt.zero (l : List UInt8) : DigAt l 0 0 := ⟨rfl, by simp⟩
theorem DigAt.next {s : ByteArray} {k q : Nat} (h : DigAt s.data.toList k q) (hk : k < s.size) (h1 : 48 ≤ (s[k].toNat : Int)) (h2 : (s[k].toNat : Int) ≤ 57) : DigAt s.data.toList (k + 1) (q * 10 + (s[k].toNat - 48)) := by
  have hl : k < s.data.toList.length := by simpa using hk
  have he : s.data.toList[k] = s[k] := rfl
  refine ⟨?_, ?_⟩
  · rw [h.1, List.drop_eq_getElem_cons hl, he]
    simp only [digV]
    rw [if_pos ⟨by omega, by omega⟩]
  · have := h.2
    rw [Nat.pow_succ]
    omega
theorem DigAt.bad {s : ByteArray} {k q : Nat} (h : DigAt s.data.toList k q) (hk : k < s.size) (hb : (s[k].toNat : Int) < 48 ∨ 57 < (s[k].toNat : Int)) : digV 0 s.data.toList = none := by
  have hl : k < s.data.toList.length := by simpa using hk
  have he : s.data.toList[k] = s[k] := rfl
  rw [h.1, List.drop_eq_getElem_cons hl, he]
  simp only [digV]
  rw [if_neg (by omega)]
theorem DigAt.done {s : ByteArray} {q : Nat} (h : DigAt s.data.toList s.size q) : digV 0 s.data.toList = some q := by
  rw [h.1, List.drop_of_length_le (by rw [Lib.size_eq]; exact Nat.le_refl _)]
  rfl

set_option maxRecDepth 100000 in
set_option maxHeartbeats 400000 in
theorem category_0 (w : World) : Calls Tryd.prog 53 #[.string ⟨#[]⟩] w (CatEnd none w) := by
  go_enter Tryd.func53, Tryd.ntmps53
  go_wp2
  go_ret2
  exact ⟨rfl, rfl⟩
set_option maxRecDepth 100000 in
set_option maxHeartbeats 400000 in
theorem category_3 (s : ByteArray) (he : s.toList.isEmpty = false) (hs : 2 < s.size) (hl : s.size ≤ 9223372036854775807) (w : World) : Calls Tryd.prog 53 #[.string s] w (CatEnd none w) := by
  go_enter Tryd.func53, Tryd.ntmps53
  go_wp2
  go_ret2
  exact ⟨rfl, rfl⟩
set_option maxRecDepth 100000 in
set_option maxHeartbeats 400000 in
theorem category_z (s : ByteArray) (he : s.toList.isEmpty = false) (hs : s.size = 2) (h0 : ((s[0]'(by omega)).toNat : Int) = 48) (w : World) : Calls Tryd.prog 53 #[.string s] w (CatEnd none w) := by
  go_enter Tryd.func53, Tryd.ntmps53
  go_wp2
  go_ret2
  exact ⟨rfl, rfl⟩
set_option maxRecDepth 100000 in
set_option maxHeartbeats 1000000 in
theorem category_s1 (s : ByteArray) (he : s.toList.isEmpty = false) (hs : s.size = 1) (r : Option Nat)
    (hr : Hid (r = match digV 0 s.data.toList with | none => none | some c => if c < 64 then some c else none)) (w : World) : Calls Tryd.prog 53 #[.string s] w (CatEnd r w) := by
  go_enter Tryd.func53, Tryd.ntmps53
  go_wp2
  go_loop [4, 25] (fun c i => ∃ k q : Nat, k ≤ 1 ∧ i = .int .i64 k ∧ DigAt s.data.toList k q ∧ c = .int .i64 q) (fun _ i => 1 - (intOf i).toNat)
  case atStart => exact ⟨0, 0, Nat.zero_le _, rfl, DigAt.zero _, rfl⟩
  case round =>
    obtain ⟨k, q, hk, rfl, hq, rfl⟩ := hrel
    by_cases hlt : k < 1
    · have hq10 : q < 10 := by
        have := hq.2
        have h1 : 10 ^ k ≤ 10 ^ 1 := Nat.pow_le_pow_right (by decide) (by omega)
        omega
      have hks : k < s.size := by omega
      go_wp2
      all_goals first
        | (go_round
           case rel => exact ⟨k + 1, q * 10 + (s[k].toNat - 48), by omega, by go_num, hq.next hks (by omega) (by omega), congrArg (Value.int .i64) (by omega)⟩
           case measure => simp [intOf]; omega)
        | (go_ret2
           have hv := hr.out
           rw [hq.bad hks (by omega)] at hv
           exact CatEnd.none_ hv _)
    · have e : k = s.size := by omega
      have hq99 : q < 100 := by
        have := hq.2
        have h1 : 10 ^ k ≤ 10 ^ 2 := Nat.pow_le_pow_right (by decide) (by omega)
        omega
      have hd := DigAt.done (s := s) (q := q) (by rw [← e]; exact hq)
      have hv := hr.out
      rw [hd] at hv
      simp only at hv
      clear hd e
      obtain rfl : k = 1 := by omega
      by_cases hc : q < 64
      · rw [if_pos hc] at hv
        have HV := Lib.hid hv
        have HM := Lib.hid (mayB_yes (c := (q : Int)) (by omega) (by omega))
        clear hv
        go_wp2_with (go_at_call 63; refine (may_c _ true HM.out _).mono ?_; rintro e w' ⟨rfl, rfl⟩)
        go_ret2
        exact CatEnd.some_ HV.out _
      · rw [if_neg hc] at hv
        have HV := Lib.hid hv
        have HM := Lib.hid (mayB_big (c := (q : Int)) (by omega))
        clear hv
        go_wp2_with (go_at_call 63; refine (may_c _ false HM.out _).mono ?_; rintro e w' ⟨rfl, rfl⟩)
        go_ret2
        exact CatEnd.none_ HV.out _
set_option maxRecDepth 100000 in
set_option maxHeartbeats 1000000 in
theorem category_s2 (s : ByteArray) (he : s.toList.isEmpty = false) (hs : s.size = 2) (hz : (((s[0]'(by omega)).toNat : Int) == 48) = false) (r : Option Nat)
    (hr : Hid (r = match digV 0 s.data.toList with | none => none | some c => if c < 64 then some c else none)) (w : World) : Calls Tryd.prog 53 #[.string s] w (CatEnd r w) := by
  go_enter Tryd.func53, Tryd.ntmps53
  go_wp2
  go_loop [4, 25] (fun c i => ∃ k q : Nat, k ≤ 2 ∧ i = .int .i64 k ∧ DigAt s.data.toList k q ∧ c = .int .i64 q) (fun _ i => 2 - (intOf i).toNat)
  case atStart => exact ⟨0, 0, Nat.zero_le _, rfl, DigAt.zero _, rfl⟩
  case round =>
    obtain ⟨k, q, hk, rfl, hq, rfl⟩ := hrel
    by_cases hlt : k < 2
    · have hq10 : q < 10 := by
        have := hq.2
        have h1 : 10 ^ k ≤ 10 ^ 1 := Nat.pow_le_pow_right (by decide) (by omega)
        omega
      have hks : k < s.size := by omega
      go_wp2
      all_goals first
        | (go_round
           case rel => exact ⟨k + 1, q * 10 + (s[k].toNat - 48), by omega, by go_num, hq.next hks (by omega) (by omega), congrArg (Value.int .i64) (by omega)⟩
           case measure => simp [intOf]; omega)
        | (go_ret2
           have hv := hr.out
           rw [hq.bad hks (by omega)] at hv
           exact CatEnd.none_ hv _)
    · have e : k = s.size := by omega
      have hq99 : q < 100 := by
        have := hq.2
        have h1 : 10 ^ k ≤ 10 ^ 2 := Nat.pow_le_pow_right (by decide) (by omega)
        omega
      have hd := DigAt.done (s := s) (q := q) (by rw [← e]; exact hq)
      have hv := hr.out
      rw [hd] at hv
      simp only at hv
      clear hd e
      obtain rfl : k = 2 := by omega
      by_cases hc : q < 64
      · rw [if_pos hc] at hv
        have HV := Lib.hid hv
        have HM := Lib.hid (mayB_yes (c := (q : Int)) (by omega) (by omega))
        clear hv
        go_wp2_with (go_at_call 63; refine (may_c _ true HM.out _).mono ?_; rintro e w' ⟨rfl, rfl⟩)
        go_ret2
        exact CatEnd.some_ HV.out _
      · rw [if_neg hc] at hv
        have HV := Lib.hid hv
        have HM := Lib.hid (mayB_big (c := (q : Int)) (by omega))
        clear hv
        go_wp2_with (go_at_call 63; refine (may_c _ false HM.out _).mono ?_; rintro e w' ⟨rfl, rfl⟩)
        go_ret2
        exact CatEnd.none_ HV.out _
theorem category_c (s : ByteArray) (hl : s.size ≤ 9223372036854775807) (w : World) : Calls Tryd.prog 53 #[.string s] w (CatEnd (catN s.data.toList) w) := by
  have hsz := Lib.size_eq s
  by_cases h0 : s.size = 0
  · have hl0 : s.data.toList = [] := List.eq_nil_of_length_eq_zero (hsz.symm.trans h0)
    have es : s = ⟨#[]⟩ := by rw [← Lib.mk_data s, hl0]
    rw [hl0, es]
    exact category_0 w
  · have he : s.toList.isEmpty = false := by
      rw [Lib.toList_data]
      cases hd : s.data.toList with
      | nil => rw [hd] at hsz; exact absurd hsz h0
      | cons _ _ => rfl
    have hne : s.data.toList ≠ [] := fun e => by rw [e] at hsz; exact absurd hsz h0
    by_cases h1 : s.size = 1
    · refine category_s1 s he h1 _ (Lib.hid (catN_digV hne (by omega) (fun h => by omega))) w
    · by_cases h2 : s.size = 2
      · have hg : s.data.toList[0]? = some (s[0]'(by omega)) := List.getElem?_eq_getElem (by omega)
        cases hz : (((s[0]'(by omega)).toNat : Int) == 48)
        · refine category_s2 s he h2 hz _ (Lib.hid (catN_digV hne (by omega) (fun _ h => ?_))) w
          rw [hg] at h
          simp only [Option.some.injEq] at h
          rw [h] at hz
          cases hz
        · have hz' : ((s[0]'(by omega)).toNat : Int) = 48 := by simpa using hz
          rw [catN_zero (by omega) (by rw [hg]; exact congrArg some (u8_of _ 48 (by omega)).symm)]
          exact category_z s he h2 hz' w
      · rw [catN_long (by omega)]
        exact category_3 s he (by omega) hl w

def ParseEnd (l : List UInt8) (w : World) (e : Ending) (w' : World) : Prop := e = .returned (.tuple #[.int .u64 (parseF l).1, .bool (parseF l).2]) ∧ Drawn w w'
theorem ParseEnd.of {l : List UInt8} {w w' : World} {S : Nat} {b : Bool} (h : parseF l = (S, b)) (hw : Drawn w w') : ParseEnd l w (.returned (.tuple #[.int .u64 S, .bool b])) w' := by
  unfold ParseEnd
  rw [h]
  exact ⟨rfl, hw⟩
/-- what is left to read -/
def ParseAt (l0 l : List UInt8) (q next : Nat) (more : Bool) : Prop := parseF l0 = parseWords q next (if more then splitC l else []) ∧ U q ∧ next ≤ 64
theorem ParseAt.start {l : List UInt8} (h : l ≠ []) : ParseAt l l 0 0 true := ⟨by rw [parseF, if_neg h]; rfl, U_zero, by omega⟩
theorem ParseAt.done {l0 l : List UInt8} {q next : Nat} (h : ParseAt l0 l q next false) : parseF l0 = (q, true) := h.1
theorem CutIs.split {l a b : List UInt8} {f : Bool} (h : CutIs l a b f) : splitC l = a :: (if f then splitC b else []) := by
  rcases h with ⟨h1, rfl⟩ | ⟨h1, rfl, rfl, rfl⟩
  · exact splitC_some h1
  · exact splitC_none h1
theorem CutIs.less {l a b : List UInt8} {f : Bool} (h : CutIs l a b f) : a.length ≤ l.length ∧ b.length ≤ l.length ∧ (f = true → b.length < l.length) := by
  rcases h with ⟨h1, rfl⟩ | ⟨h1, rfl, rfl, rfl⟩
  · have := cutC_length h1
    exact ⟨by omega, by omega, fun _ => by omega⟩
  · exact ⟨Nat.le_refl _, by simp, fun h => by cases h⟩
theorem ParseAt.none_ {l0 l a b : List UInt8} {f : Bool} {q next : Nat} (h : ParseAt l0 l q next true) (hc : CutIs l a b f) (hn : catN a = none) : parseF l0 = (0, false) := by
  rw [h.1, if_pos rfl, hc.split]
  simp only [parseWords, hn]
theorem ParseAt.less {l0 l a b : List UInt8} {f : Bool} {q next c : Nat} (h : ParseAt l0 l q next true) (hc : CutIs l a b f) (hn : catN a = some c) (hlt : c < next) : parseF l0 = (0, false) := by
  rw [h.1, if_pos rfl, hc.split]
  simp only [parseWords, hn]
  rw [if_pos hlt]
theorem ParseAt.next {l0 l a b : List UInt8} {f : Bool} {q next c : Nat} (h : ParseAt l0 l q next true) (hc : CutIs l a b f) (hn : catN a = some c) (hlt : ¬ c < next) : ParseAt l0 b (q ||| 2 ^ c) (c + 1) f := by
  have h64 := (catN_some hn).1
  refine ⟨?_, U_or h.2.1 (U_pow h64), by omega⟩
  rw [h.1, if_pos rfl, hc.split]
  simp only [parseWords, hn]
  rw [if_neg hlt]
def measP : Value → Value → Nat
  | .string s, .bool true => s.size + 1
  | _, _ => 0
set_option maxRecDepth 100000 in
set_option maxHeartbeats 400000 in
theorem parse_0 (w : World) : Calls Tryd.prog 48 #[.string ⟨#[]⟩] w fun e w' => e = .returned (.tuple #[.int .u64 0, .bool true]) ∧ w = w' := by
  go_enter Tryd.func48, Tryd.ntmps48
  go_wp2
  go_ret2
  exact ⟨rfl, rfl⟩
theorem or_slot (q c : Nat) (hq : U q) (hc : c < 64) : Value.int .u64 (bits .or .u64 (q : Int) (IntKind.u64.wrap (2 ^ c))) = .int .u64 ((q ||| 2 ^ c : Nat) : Int) := by rw [or_pow_int q c hq hc]
set_option maxRecDepth 100000 in
set_option maxHeartbeats 1000000 in
theorem parse_1 (t : ByteArray) (he : t.toList.isEmpty = false) (ht : t.size ≤ 9223372036854775807) (w : World) : Calls Tryd.prog 48 #[.string t] w (ParseEnd t.data.toList w) := by
  have h0 : ParseAt t.data.toList t.data.toList 0 0 true := ParseAt.start (by
    rw [← Lib.toList_data]
    intro e
    rw [e] at he
    cases he)
  go_enter Tryd.func48, Tryd.ntmps48
  go_wp2
  go_loopw [0, 4, 5, 6] (fun x s n m wr => ∃ (l : ByteArray) (q next : Nat) (more : Bool), x = .string l ∧ s = .int .u64 q ∧ n = .int .i64 next ∧ m = .bool more ∧ l.size ≤ 9223372036854775807 ∧ ParseAt t.data.toList l.data.toList q next more ∧ Drawn w wr)
    (fun x _ _ m _ => measP x m)
  case atStart => exact ⟨t, 0, 0, true, rfl, rfl, rfl, rfl, ht, h0, Drawn.refl w⟩
  case round =>
    clear h0 he
    obtain ⟨l, q, next, more, rfl, rfl, rfl, rfl, hl, hp, hw⟩ := hrel
    cases more
    · have hd := Lib.hid hp.done
      go_wp2
      go_ret2
      exact ParseEnd.of hd.out hw
    · go_wp2_with fail
      refine (cut_c l hl _).mono ?_
      rintro e w1 ⟨sa, sb, f, rfl, hc, hw1⟩
      have hw2 := hw.trans hw1
      clear hw1
      have hls := hc.less
      rw [← Lib.size_eq, ← Lib.size_eq, ← Lib.size_eq] at hls
      obtain ⟨l1, l2, l3⟩ := hls
      have L3 := Lib.hid l3
      clear l3
      go_wp2_with fail
      refine (category_c sa (by omega) _).mono ?_
      rintro e w2 hcat
      cases hn : catN sa.data.toList with
      | none =>
        rw [hn] at hcat
        obtain ⟨rfl, rfl⟩ := hcat
        have hbad := Lib.hid (hp.none_ hc hn)
        clear hn
        go_wp2
        go_ret2
        exact ParseEnd.of hbad.out hw2
      | some c =>
        rw [hn] at hcat
        obtain ⟨rfl, rfl⟩ := hcat
        have hc64 := (catN_some hn).1
        by_cases hlt : c < next
        · have hbad := Lib.hid (hp.less hc hn hlt)
          clear hn
          go_wp2
          go_ret2
          exact ParseEnd.of hbad.out hw2
        · have hnext := hp.next hc hn hlt
          have hU := hp.2.1
          have hn64 := hp.2.2
          clear hn
          go_wp2
          go_roundw
          case rel => exact ⟨sb, q ||| 2 ^ c, c + 1, f, rfl, or_slot q c hU hc64, by go_num, rfl, by omega, hnext, hw2⟩
          case measure =>
            cases f
            · simp [measP]
            · have := L3.out rfl
              simp [measP]; omega
theorem parse_c (t : ByteArray) (ht : t.size ≤ 9223372036854775807) (w : World) : Calls Tryd.prog 48 #[.string t] w (ParseEnd t.data.toList w) := by
  cases hd : t.data.toList with
  | nil =>
    have es : t = ⟨#[]⟩ := by rw [← Lib.mk_data t, hd]
    rw [es]
    exact (parse_0 w).mono fun e w' ⟨he, hw⟩ => by subst hw; rw [he]; exact ParseEnd.of rfl (Drawn.refl w)
  | cons x r =>
    have he : t.toList.isEmpty = false := by rw [Lib.toList_data, hd]; rfl
    have h := parse_1 t he ht w
    rw [hd] at h
    exact h
end Go.Proofs.YtcgpggknmhlnkaaDoor.Cats
