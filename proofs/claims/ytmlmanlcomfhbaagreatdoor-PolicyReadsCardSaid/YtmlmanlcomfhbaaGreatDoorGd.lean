/- What strings.Cut answers at a comma, and what category and Parse of package cats answer: for every text within the form's reach.
   What Text of package cats answers: for every set. -/
import Derived.Test.YtmlmanlcomfhbaaGreatDoorGb
import Derived.Test.YtmlmanlcomfhbaaGreatDoorGa
import Derived.Test.YtmlmanlcomfhbaaGreatDoorShelf
namespace Go.Proofs.YtmlmanlcomfhbaaGreatDoor.Cats
open Go.RowKit

set_option maxRecDepth 100000 in
set_option maxHeartbeats 400000 in
theorem lcut_hit (s : ByteArray) (i : Nat) (hi : Lib.indexByte s.data.toList 44 = i) (hr : i + 1 ≤ s.size) (hs : s.size ≤ 9223372036854775807) (w : World) :
    Calls Tryz.prog 76 #[.string s, .string ⟨#[44]⟩] w fun e w' => e = .returned (.tuple #[.string (s.extract 0 i), .string (s.extract (i + 1) s.size), .bool true]) ∧ Drawn w w' := by
  have HI := Lib.hid hi
  clear hi
  have c1 : (0 : Int) ≤ ↑i := by omega
  have c2 : (↑i : Int) ≤ ↑s.size := by omega
  have c3 : (0 : Int) ≤ ↑i + 1 := by omega
  have c4 : (↑i + 1 : Int) ≤ ↑s.size := by omega
  go_enter Tryz.func76, Tryz.ntmps76
  go_wp2_with (go_at_call 99; refine (Tryz.stringslite_Index_one s 44 _).mono ?_; rintro e w' ⟨rfl, rfl⟩; rw [HI.out])
  go_region
  all_goals (try go_wp2)
  all_goals go_ret3
  all_goals exact ⟨rfl, 1, rfl⟩
set_option maxRecDepth 100000 in
set_option maxHeartbeats 400000 in
theorem lcut_miss (s : ByteArray) (hi : Lib.indexByte s.data.toList 44 = -1) (w : World) :
    Calls Tryz.prog 76 #[.string s, .string ⟨#[44]⟩] w fun e w' => e = .returned (.tuple #[.string s, .string ⟨#[]⟩, .bool false]) ∧ Drawn w w' := by
  have HI := Lib.hid hi
  clear hi
  go_enter Tryz.func76, Tryz.ntmps76
  go_wp2_with (go_at_call 99; refine (Tryz.stringslite_Index_one s 44 _).mono ?_; rintro e w' ⟨rfl, rfl⟩; rw [HI.out])
  go_ret3
  exact ⟨rfl, 0, rfl⟩
/-- how the cut goes, in lists -/
def CutIs (l a b : List UInt8) (f : Bool) : Prop := (cutC l = some (a, b) ∧ f = true) ∨ (cutC l = none ∧ a = l ∧ b = [] ∧ f = false)
def CutEnd (l : List UInt8) (w : World) (e : Ending) (w' : World) : Prop :=
  ∃ sa sb f, e = .returned (.tuple #[.string sa, .string sb, .bool f]) ∧ CutIs l sa.data.toList sb.data.toList f ∧ Drawn w w'
theorem lcut_c (s : ByteArray) (hs : s.size ≤ 9223372036854775807) (w : World) :
    Calls Tryz.prog 76 #[.string s, .string ⟨#[44]⟩] w (CutEnd s.data.toList w) := by
  rcases cutC_index s.data.toList with ⟨h1, h2⟩ | ⟨i, h1, h2, h3⟩
  · exact (lcut_miss s h1 w).mono fun e w' ⟨he, hw⟩ => ⟨_, _, _, he, .inr ⟨h2, rfl, rfl, rfl⟩, hw⟩
  · rw [← Lib.size_eq] at h2
    refine (lcut_hit s i h1 h2 hs w).mono fun e w' ⟨he, hw⟩ => ⟨_, _, _, he, .inl ⟨?_, rfl⟩, hw⟩
    rw [h3, Lib.extract_eq, Lib.extract_eq, Lib.size_eq]
    simp only [List.drop_zero, Nat.sub_zero]
    rw [List.take_of_length_le (l := List.drop (i + 1) s.data.toList) (by simp)]
set_option maxRecDepth 100000 in
set_option maxHeartbeats 400000 in
theorem cut_c (s : ByteArray) (hs : s.size ≤ 9223372036854775807) (w : World) :
    Calls Tryz.prog 54 #[.string s, .string ⟨#[44]⟩] w (CutEnd s.data.toList w) := by
  go_enter Tryz.func54, Tryz.ntmps54
  go_wp2_with (go_at_call 76; refine (lcut_c s hs _).mono ?_; rintro e w' ⟨sa, sb, f, rfl, hc, hw⟩)
  go_ret3
  exact ⟨_, _, _, rfl, hc, hw⟩

/-- category's answer -/
def CatEnd (r : Option Nat) (w : World) (e : Ending) (w' : World) : Prop := e = .returned (.tuple #[.int .i64 (r.getD 0 : Nat), .bool r.isSome]) ∧ w = w'
theorem CatEnd.none_ {r : Option Nat} (h : r = none) (w : World) : CatEnd r w (.returned (.tuple #[.int .i64 0, .bool false])) w := by subst h; exact ⟨rfl, rfl⟩
theorem CatEnd.some_ {r : Option Nat} {c : Nat} (h : r = some c) (w : World) : CatEnd r w (.returned (.tuple #[.int .i64 c, .bool true])) w := by subst h; exact ⟨rfl, rfl⟩
def DigAt (l : List UInt8) (k q : Nat) : Prop := digV 0 l = digV q (l.drop k) ∧ q < 10 ^ k
theorem DigAt.zero (l : List UInt8) : DigAt l 0 0 := ⟨rfl, by simp⟩
theorem DigAt.next {s : ByteArray} {k q : Nat} (h : DigAt s.data.toList k q) (hk : k < s.size) (h1 : 48 ≤ (s[k].toNat : Int)) (h2 : (s[k].toNat : Int) ≤ 57) : DigAt s.data.toList (k + 1) (q * 10 + (s[k].toNat - 48)) := by
  have hl : k < s.data.toList.length := by simpa using hk
  have he : s.data.toList[k] = s[k] := rfl
  refine ⟨?_, ?_⟩
  · rw [h.1, List.drop_eq_getElem_cons hl, he]
    simp only [digV]
    rw [if_pos ⟨by omega, by omega⟩]
  · have := h.2
    rw [Nat.pow_succ]
    omega
theorem DigAt.bad {s : ByteArray} {k q : Nat} (h : DigAt s.data.toList k q) (hk : k < s.size) (hb : (s[k].toNat : Int) < 48 ∨ 57 < (s[k].toNat : Int)) : digV 0 s.data.toList = none := by
  have hl : k < s.data.toList.length := by simpa using hk
  have he : s.data.toList[k] = s[k] := rfl
  rw [h.1, List.drop_eq_getElem_cons hl, he]
  simp only [digV]
  rw [if_neg (by omega)]
theorem DigAt.done {s : ByteArray} {q : Nat} (h : DigAt s.data.toList s.size q) : digV 0 s.data.toList = some q := by
  rw [h.1, List.drop_of_length_le (by rw [Lib.size_eq]; exact Nat.le_refl _)]
  rfl

set_option maxRecDepth 100000 in
set_option maxHeartbeats 400000 in
theorem category_0 (w : World) : Calls Tryz.prog 137 #[.string ⟨#[]⟩] w (CatEnd none w) := by
  go_enter Tryz.func137, Tryz.ntmps137
  go_wp2
  go_ret2
  exact ⟨rfl, rfl⟩
set_option maxRecDepth 100000 in
set_option maxHeartbeats 400000 in
theorem category_3 (s : ByteArray) (he : s.toList.isEmpty = false) (hs : 2 < s.size) (hl : s.size ≤ 9223372036854775807) (w : World) : Calls Tryz.prog 137 #[.string s] w (CatEnd none w) := by
  go_enter Tryz.func137, Tryz.ntmps137
  go_wp2
  go_ret2
  exact ⟨rfl, rfl⟩
set_option maxRecDepth 100000 in
set_option maxHeartbeats 400000 in
theorem category_z (s : ByteArray) (he : s.toList.isEmpty = false) (hs : s.size = 2) (h0 : ((s[0]'(by omega)).toNat : Int) = 48) (w : World) : Calls Tryz.prog 137 #[.string s] w (CatEnd none w) := by
  go_enter Tryz.func137, Tryz.ntmps137
  go_wp2
  go_ret2
  exact ⟨rfl, rfl⟩
set_option maxRecDepth 100000 in
set_option maxHeartbeats 1000000 in
theorem category_s1 (s : ByteArray) (he : s.toList.isEmpty = false) (hs : s.size = 1) (r : Option Nat)
    (hr : Hid (r = match digV 0 s.data.toList with | none => none | some c => if c < 64 then some c else none)) (w : World) : Calls Tryz.prog 137 #[.string s] w (CatEnd r w) := by
  go_enter Tryz.func137, Tryz.ntmps137
  go_wp2
  go_loop [4, 25] (fun c i => ∃ k q : Nat, k ≤ 1 ∧ i = .int .i64 k ∧ DigAt s.data.toList k q ∧ c = .int .i64 q) (fun _ i => 1 - (intOf i).toNat)
  case atStart => exact ⟨0, 0, Nat.zero_le _, rfl, DigAt.zero _, rfl⟩
  case round =>
    obtain ⟨k, q, hk, rfl, hq, rfl⟩ := hrel
    by_cases hlt : k < 1
    · have hq10 : q < 10 := by
        have := hq.2
        have h1 : 10 ^ k ≤ 10 ^ 1 := Nat.pow_le_pow_right (by decide) (by omega)
        omega
      have hks : k < s.size := by omega
      go_wp2
      all_goals first
        | (go_round
           case rel => exact ⟨k + 1, q * 10 + (s[k].toNat - 48), by omega, by go_num, hq.next hks (by omega) (by omega), congrArg (Value.int .i64) (by omega)⟩
           case measure => simp [intOf]; omega)
        | (go_ret2
           have hv := hr.out
           rw [hq.bad hks (by omega)] at hv
           exact CatEnd.none_ hv _)
    · have e : k = s.size := by omega
      have hq99 : q < 100 := by
        have := hq.2
        have h1 : 10 ^ k ≤ 10 ^ 2 := Nat.pow_le_pow_right (by decide) (by omega)
        omega
      have hd := DigAt.done (s := s) (q := q) (by rw [← e]; exact hq)
      have hv := hr.out
      rw [hd] at hv
      simp only at hv
      clear hd e
      obtain rfl : k = 1 := by omega
      by_cases hc : q < 64
      · rw [if_pos hc] at hv
        have HV := Lib.hid hv
        have HM := Lib.hid (mayB_yes (c := (q : Int)) (by omega) (by omega))
        clear hv
        go_wp2_with (go_at_call 113; refine (may_c _ true HM.out _).mono ?_; rintro e w' ⟨rfl, rfl⟩)
        go_ret2
        exact CatEnd.some_ HV.out _
      · rw [if_neg hc] at hv
        have HV := Lib.hid hv
        have HM := Lib.hid (mayB_big (c := (q : Int)) (by omega))
        clear hv
        go_wp2_with (go_at_call 113; refine (may_c _ false HM.out _).mono ?_; rintro e w' ⟨rfl, rfl⟩)
        go_ret2
        exact CatEnd.none_ HV.out _
set_option maxRecDepth 100000 in
set_option maxHeartbeats 1000000 in
theorem category_s2 (s : ByteArray) (he : s.toList.isEmpty = false) (hs : s.size = 2) (hz : (((s[0]'(by omega)).toNat : Int) == 48) = false) (r : Option Nat)
    (hr : Hid (r = match digV 0 s.data.toList with | none => none | some c => if c < 64 then some c else none)) (w : World) : Calls Tryz.prog 137 #[.string s] w (CatEnd r w) := by
  go_enter Tryz.func137, Tryz.ntmps137
  go_wp2
  go_loop [4, 25] (fun c i => ∃ k q : Nat, k ≤ 2 ∧ i = .int .i64 k ∧ DigAt s.data.toList k q ∧ c = .int .i64 q) (fun _ i => 2 - (intOf i).toNat)
  case atStart => exact ⟨0, 0, Nat.zero_le _, rfl, DigAt.zero _, rfl⟩
  case round =>
    obtain ⟨k, q, hk, rfl, hq, rfl⟩ := hrel
    by_cases hlt : k < 2
    · have hq10 : q < 10 := by
        have := hq.2
        have h1 : 10 ^ k ≤ 10 ^ 1 := Nat.pow_le_pow_right (by decide) (by omega)
        omega
      have hks : k < s.size := by omega
      go_wp2
      all_goals first
        | (go_round
           case rel => exact ⟨k + 1, q * 10 + (s[k].toNat - 48), by omega, by go_num, hq.next hks (by omega) (by omega), congrArg (Value.int .i64) (by omega)⟩
           case measure => simp [intOf]; omega)
        | (go_ret2
           have hv := hr.out
           rw [hq.bad hks (by omega)] at hv
           exact CatEnd.none_ hv _)
    · have e : k = s.size := by omega
      have hq99 : q < 100 := by
        have := hq.2
        have h1 : 10 ^ k ≤ 10 ^ 2 := Nat.pow_le_pow_right (by decide) (by omega)
        omega
      have hd := DigAt.done (s := s) (q := q) (by rw [← e]; exact hq)
      have hv := hr.out
      rw [hd] at hv
      simp only at hv
      clear hd e
      obtain rfl : k = 2 := by omega
      by_cases hc : q < 64
      · rw [if_pos hc] at hv
        have HV := Lib.hid hv
        have HM := Lib.hid (mayB_yes (c := (q : Int)) (by omega) (by omega))
        clear hv
        go_wp2_with (go_at_call 113; refine (may_c _ true HM.out _).mono ?_; rintro e w' ⟨rfl, rfl⟩)
        go_ret2
        exact CatEnd.some_ HV.out _
      · rw [if_neg hc] at hv
        have HV := Lib.hid hv
        have HM := Lib.hid (mayB_big (c := (q : Int)) (by omega))
        clear hv
        go_wp2_with (go_at_call 113; refine (may_c _ false HM.out _).mono ?_; rintro e w' ⟨rfl, rfl⟩)
        go_ret2
        exact CatEnd.none_ HV.out _
theorem category_c (s : ByteArray) (hl : s.size ≤ 9223372036854775807) (w : World) : Calls Tryz.prog 137 #[.string s] w (CatEnd (catN s.data.toList) w) := by
  have hsz := Lib.size_eq s
  by_cases h0 : s.size = 0
  · have hl0 : s.data.toList = [] := List.eq_nil_of_length_eq_zero (hsz.symm.trans h0)
    have es : s = ⟨#[]⟩ := by rw [← Lib.mk_data s, hl0]
    rw [hl0, es]
    exact category_0 w
  · have he : s.toList.isEmpty = false := by
      rw [Lib.toList_data]
      cases hd : s.data.toList with
      | nil => rw [hd] at hsz; exact absurd hsz h0
      | cons _ _ => rfl
    have hne : s.data.toList ≠ [] := fun e => by rw [e] at hsz; exact absurd hsz h0
    by_cases h1 : s.size = 1
    · refine category_s1 s he h1 _ (Lib.hid (catN_digV hne (by omega) (fun h => by omega))) w
    · by_cases h2 : s.size = 2
      · have hg : s.data.toList[0]? = some (s[0]'(by omega)) := List.getElem?_eq_getElem (by omega)
        cases hz : (((s[0]'(by omega)).toNat : Int) == 48)
        · refine category_s2 s he h2 hz _ (Lib.hid (catN_digV hne (by omega) (fun _ h => ?_))) w
          rw [hg] at h
          simp only [Option.some.injEq] at h
          rw [h] at hz
          cases hz
        · have hz' : ((s[0]'(by omega)).toNat : Int) = 48 := by simpa using hz
          rw [catN_zero (by omega) (by rw [hg]; exact congrArg some (u8_of _ 48 (by omega)).symm)]
          exact category_z s he h2 hz' w
      · rw [catN_long (by omega)]
        exact category_3 s he (by omega) hl w

def ParseEnd (l : List UInt8) (w : World) (e : Ending) (w' : World) : Prop := e = .returned (.tuple #[.int .u64 (parseF l).1, .bool (parseF l).2]) ∧ Drawn w w'
theorem ParseEnd.of {l : List UInt8} {w w' : World} {S : Nat} {b : Bool} (h : parseF l = (S, b)) (hw : Drawn w w') : ParseEnd l w (.returned (.tuple #[.int .u64 S, .bool b])) w' := by
  unfold ParseEnd
  rw [h]
  exact ⟨rfl, hw⟩
/-- what is left to read -/
def ParseAt (l0 l : List UInt8) (q next : Nat) (more : Bool) : Prop := parseF l0 = parseWords q next (if more then splitC l else []) ∧ U q ∧ next ≤ 64
theorem ParseAt.start {l : List UInt8} (h : l ≠ []) : ParseAt l l 0 0 true := ⟨by rw [parseF, if_neg h]; rfl, U_zero, by omega⟩
theorem ParseAt.done {l0 l : List UInt8} {q next : Nat} (h : ParseAt l0 l q next false) : parseF l0 = (q, true) := h.1
theorem CutIs.split {l a b : List UInt8} {f : Bool} (h : CutIs l a b f) : splitC l = a :: (if f then splitC b else []) := by
  rcases h with ⟨h1, rfl⟩ | ⟨h1, rfl, rfl, rfl⟩
  · exact splitC_some h1
  · exact splitC_none h1
theorem CutIs.less {l a b : List UInt8} {f : Bool} (h : CutIs l a b f) : a.length ≤ l.length ∧ b.length ≤ l.length ∧ (f = true → b.length < l.length) := by
  rcases h with ⟨h1, rfl⟩ | ⟨h1, rfl, rfl, rfl⟩
  · have := cutC_length h1
    exact ⟨by omega, by omega, fun _ => by omega⟩
  · exact ⟨Nat.le_refl _, by simp, fun h => by cases h⟩
theorem ParseAt.none_ {l0 l a b : List UInt8} {f : Bool} {q next : Nat} (h : ParseAt l0 l q next true) (hc : CutIs l a b f) (hn : catN a = none) : parseF l0 = (0, false) := by
  rw [h.1, if_pos rfl, hc.split]
  simp only [parseWords, hn]
theorem ParseAt.less {l0 l a b : List UInt8} {f : Bool} {q next c : Nat} (h : ParseAt l0 l q next true) (hc : CutIs l a b f) (hn : catN a = some c) (hlt : c < next) : parseF l0 = (0, false) := by
  rw [h.1, if_pos rfl, hc.split]
  simp only [parseWords, hn]
  rw [if_pos hlt]
theorem ParseAt.next {l0 l a b : List UInt8} {f : Bool} {q next c : Nat} (h : ParseAt l0 l q next true) (hc : CutIs l a b f) (hn : catN a = some c) (hlt : ¬ c < next) : ParseAt l0 b (q ||| 2 ^ c) (c + 1) f := by
  have h64 := (catN_some hn).1
  refine ⟨?_, U_or h.2.1 (U_pow h64), by omega⟩
  rw [h.1, if_pos rfl, hc.split]
  simp only [parseWords, hn]
  rw [if_neg hlt]
def measP : Value → Value → Nat
  | .string s, .bool true => s.size + 1
  | _, _ => 0
set_option maxRecDepth 100000 in
set_option maxHeartbeats 400000 in
theorem parse_0 (w : World) : Calls Tryz.prog 124 #[.string ⟨#[]⟩] w fun e w' => e = .returned (.tuple #[.int .u64 0, .bool true]) ∧ w = w' := by
  go_enter Tryz.func124, Tryz.ntmps124
  go_wp2
  go_ret2
  exact ⟨rfl, rfl⟩
theorem or_slot (q c : Nat) (hq : U q) (hc : c < 64) : Value.int .u64 (bits .or .u64 (q : Int) (IntKind.u64.wrap (2 ^ c))) = .int .u64 ((q ||| 2 ^ c : Nat) : Int) := by rw [or_pow_int q c hq hc]
set_option maxRecDepth 100000 in
set_option maxHeartbeats 1000000 in
theorem parse_1 (t : ByteArray) (he : t.toList.isEmpty = false) (ht : t.size ≤ 9223372036854775807) (w : World) : Calls Tryz.prog 124 #[.string t] w (ParseEnd t.data.toList w) := by
  have h0 : ParseAt t.data.toList t.data.toList 0 0 true := ParseAt.start (by
    rw [← Lib.toList_data]
    intro e
    rw [e] at he
    cases he)
  go_enter Tryz.func124, Tryz.ntmps124
  go_wp2
  go_loopw [0, 4, 5, 6] (fun x s n m wr => ∃ (l : ByteArray) (q next : Nat) (more : Bool), x = .string l ∧ s = .int .u64 q ∧ n = .int .i64 next ∧ m = .bool more ∧ l.size ≤ 9223372036854775807 ∧ ParseAt t.data.toList l.data.toList q next more ∧ Drawn w wr)
    (fun x _ _ m _ => measP x m)
  case atStart => exact ⟨t, 0, 0, true, rfl, rfl, rfl, rfl, ht, h0, Drawn.refl w⟩
  case round =>
    clear h0 he
    obtain ⟨l, q, next, more, rfl, rfl, rfl, rfl, hl, hp, hw⟩ := hrel
    cases more
    · have hd := Lib.hid hp.done
      go_wp2
      go_ret2
      exact ParseEnd.of hd.out hw
    · go_wp2_with fail
      refine (cut_c l hl _).mono ?_
      rintro e w1 ⟨sa, sb, f, rfl, hc, hw1⟩
      have hw2 := hw.trans hw1
      clear hw1
      have hls := hc.less
      rw [← Lib.size_eq, ← Lib.size_eq, ← Lib.size_eq] at hls
      obtain ⟨l1, l2, l3⟩ := hls
      have L3 := Lib.hid l3
      clear l3
      go_wp2_with fail
      refine (category_c sa (by omega) _).mono ?_
      rintro e w2 hcat
      cases hn : catN sa.data.toList with
      | none =>
        rw [hn] at hcat
        obtain ⟨rfl, rfl⟩ := hcat
        have hbad := Lib.hid (hp.none_ hc hn)
        clear hn
        go_wp2
        go_ret2
        exact ParseEnd.of hbad.out hw2
      | some c =>
        rw [hn] at hcat
        obtain ⟨rfl, rfl⟩ := hcat
        have hc64 := (catN_some hn).1
        by_cases hlt : c < next
        · have hbad := Lib.hid (hp.less hc hn hlt)
          clear hn
          go_wp2
          go_ret2
          exact ParseEnd.of hbad.out hw2
        · have hnext := hp.next hc hn hlt
          have hU := hp.2.1
          have hn64 := hp.2.2
          clear hn
          go_wp2
          go_roundw
          case rel => exact ⟨sb, q ||| 2 ^ c, c + 1, f, rfl, or_slot q c hU hc64, by go_num, rfl, by omega, hnext, hw2⟩
          case measure =>
            cases f
            · simp [measP]
            · have := L3.out rfl
              simp [measP]; omega
theorem parse_c (t : ByteArray) (ht : t.size ≤ 9223372036854775807) (w : World) : Calls Tryz.prog 124 #[.string t] w (ParseEnd t.data.toList w) := by
  cases hd : t.data.toList with
  | nil =>
    have es : t = ⟨#[]⟩ := by rw [← Lib.mk_data t, hd]
    rw [es]
    exact (parse_0 w).mono fun e w' ⟨he, hw⟩ => by subst hw; rw [he]; exact ParseEnd.of rfl (Drawn.refl w)
  | cons x r =>
    have he : t.toList.isEmpty = false := by rw [Lib.toList_data, hd]; rfl
    have h := parse_1 t he ht w
    rw [hd] at h
    exact h
end Go.Proofs.YtmlmanlcomfhbaaGreatDoor.Cats
namespace Go.Proofs.YtmlmanlcomfhbaaGreatDoor.Cats
open Go.RowKit

/-- numbers that a slice reads as, in a block from lo on -/
def IntsFrom (lo : Nat) (w : World) (A : Option Addr) (n : Nat) (xs : List Int) : Prop := Ints w A n xs ∧ ∀ ad, A = some ad → lo ≤ ad.block
theorem IntsFrom.grown {lo g n : Nat} {w w' : World} {A : Option Addr} {xs : List Int} (h : IntsFrom lo w A n xs) (hg : w.grownBy w' (some g)) (hlo : g < lo) : IntsFrom lo w' A n xs := by
  refine ⟨⟨h.1.1, h.1.2.1, fun hn => ?_⟩, h.2⟩
  obtain ⟨b, off, e, hlt, hc⟩ := h.1.2.2 hn
  refine ⟨b, off, e, Nat.lt_of_lt_of_le hlt hg.size, fun k hk => ?_⟩
  have hb := h.2 _ e
  have hne : some b ≠ some g := by
    intro h
    simp only [Option.some.injEq] at h
    simp only at hb
    omega
  exact (World.cell?_of_block (a := ⟨b, off + k, none⟩) (hg.block b hlt hne)).trans (hc k hk)
theorem IntsFrom.alloc {lo n : Nat} {w : World} {A : Option Addr} {xs : List Int} (h : IntsFrom lo w A n xs) (o : Obj) : IntsFrom lo (w.alloc o) A n xs :=
  ⟨h.1.keep ((Below.refl _ _).alloc (Nat.le_refl _) o), h.2⟩
theorem Rl.from {s k : Nat} {w wr : World} {v : Value} (h : Rl s w wr v k) (hk : k ≤ 64) : ∃ A cap, v = .slice A (bitsTo s k).length cap ∧ IntsFrom w.heap.size wr A (bitsTo s k).length (intsOf (bitsTo s k)) := by
  obtain ⟨A, cap, rfl, hi⟩ := h.ints hk
  refine ⟨A, cap, rfl, hi, ?_⟩
  rintro ad rfl
  exact (h.1.lt ad.block rfl).1
def strsV (ws : List ByteArray) : List Value := ws.map Value.string
theorem strsV_snoc (ws : List ByteArray) (k : Nat) (hk : k < ws.length) : strsV (ws.take (k + 1)) = strsV (ws.take k) ++ [.string (ws.getD k ByteArray.empty)] := by
  unfold strsV
  rw [List.take_succ_eq_append_getElem hk, List.map_append]
  simp [hk]
/-- the words so far, and the list that is gone through -/
def Wl (w wr : World) (A : Option Addr) (ws : List ByteArray) (xs : List Int) (k : Nat) : Prop :=
  wr.ownsRow w.heap.size 9 1 (.slice (some ⟨w.heap.size, 0, none⟩) k ws.length) k (strsV (ws.take k)) ∧ IntsFrom (w.heap.size + 1) wr A ws.length xs ∧ Below w.heap.size w wr
theorem Wl.next {w wr w1 : World} {A : Option Addr} {ws : List ByteArray} {xs : List Int} {k : Nat} {o : Obj} (h : Wl w wr A ws xs k) (hk : k < ws.length)
    (hown : w1.ownsRow w.heap.size 9 1 (.slice (some ⟨w.heap.size, 0, none⟩) (k + 1) ws.length) (k + 1) (strsV (ws.take k) ++ [.string (ws.getD k ByteArray.empty)])) (hg : (wr.alloc o).grownBy w1 (some w.heap.size)) : Wl w w1 A ws xs (k + 1) := by
  obtain ⟨_, h2, h3⟩ := h
  refine ⟨by rw [strsV_snoc ws k hk]; exact hown, (h2.alloc o).grown hg (by omega), ?_⟩
  refine (h3.alloc h3.size o).grown hg (by have := h3.size; simp; omega) fun g hg => ?_
  simp only [Option.some.injEq] at hg
  omega
theorem Wl.start {w w1 w2 : World} {A : Option Addr} {ws : List ByteArray} {xs : List Int} (hown : w1.ownsRow w.heap.size 9 1 (.slice (some ⟨w.heap.size, 0, none⟩) 0 ws.length) 0 []) (hg : w.grownBy w1 none)
    (hi : IntsFrom w1.heap.size w2 A ws.length xs) (hb : Below w1.heap.size w1 w2) : Wl w w2 A ws xs 0 := by
  have hlt : w.heap.size < w1.heap.size := (hown.lt w.heap.size rfl).2
  refine ⟨⟨hown.1, ?_⟩, ⟨hi.1, fun ad e => by have := hi.2 ad e; omega⟩, ?_⟩
  · rcases hown.2 with ⟨h, _⟩ | ⟨g, cap, cur, h, hbg, hgc, r⟩
    · cases h
    · refine .inr ⟨g, cap, cur, h, hbg, ?_, r⟩
      have hgl : g < w1.heap.size := by
        rcases Nat.lt_or_ge g w1.heap.size with hlt | hge
        · exact hlt
        · rw [Array.getElem?_eq_none hge] at hgc; cases hgc
      rw [hb.block g hgl]
      exact hgc
  · exact ((Below.refl w.heap.size w).grown hg (Nat.le_refl _) (fun _ h => by cases h)).trans (hb.mono (by omega))
theorem Wl.cells {w wr : World} {A : Option Addr} {ws : List ByteArray} {xs : List Int} (h : Wl w wr A ws xs ws.length) : ∀ (j : Nat) x, ws[j]? = some x → wr.cell? ⟨w.heap.size, 0 + j, none⟩ = some (.string x) := by
  intro j x hx
  obtain ⟨hj, rfl⟩ := List.getElem?_eq_some_iff.1 hx
  rw [Nat.zero_add, World.ownsRow.cellAt h.1 j (by omega), List.take_length]
  simp [strsV, hj]
theorem Wl.size {w wr : World} {A : Option Addr} {ws : List ByteArray} {xs : List Int} {k : Nat} (h : Wl w wr A ws xs k) : w.heap.size < wr.heap.size := (h.1.lt w.heap.size rfl).2

theorem itoa_c (k : Nat) (hk : k < 100) (w : World) : Calls Tryz.prog 27 #[.int .i64 k] w fun e w' => e = .returned (.string ⟨(digs k).toArray⟩) ∧ w = w' :=
  (Tryz.strconv_Itoa_small k hk w).mono fun _ _ ⟨he, hw⟩ => ⟨by rw [he, digs_eq hk], hw.symm⟩
theorem str_info : (Tryz.prog.info? 9).map (fun i => (i.zero, i.size, i.bytes)) = some (some (.string ⟨#[]⟩), 1, 16) := by kernel_rfl

/-- a list of numbers, each with its word -/
def WordsOf (xs : List Int) (ws : List ByteArray) : Prop := xs.length = ws.length ∧ ∀ k, k < ws.length → ∃ c : Nat, xs.getD k 0 = (c : Int) ∧ c < 64 ∧ ws.getD k ByteArray.empty = ⟨(digs c).toArray⟩
theorem wordsOf_bits (s : Nat) : WordsOf (intsOf (bitsTo s 64)) ((bitsTo s 64).map fun c => (⟨(digs c).toArray⟩ : ByteArray)) := by
  refine ⟨by simp [intsOf], fun k hk => ?_⟩
  have hk : k < (bitsTo s 64).length := by simpa using hk
  refine ⟨(bitsTo s 64)[k], by simp [intsOf, hk], ?_, by simp [hk]⟩
  exact ((rising_bits s).mem _ (List.getElem_mem hk)).2
theorem joinC_length (ws : List (List UInt8)) (h : ∀ w ∈ ws, w.length ≤ 2) : (joinC ws).length ≤ 3 * ws.length := by
  induction ws with
  | nil => simp [joinC_nil]
  | cons w r ih =>
    have hw := h w (by simp)
    cases r with
    | nil => rw [joinC_one]; simp; omega
    | cons x xs =>
      rw [joinC_cons]
      have := ih fun y hy => h y (by simp [hy])
      simp at this ⊢
      omega
theorem digs_length (c : Nat) : (digs c).length ≤ 2 := by unfold digs; split <;> simp
theorem textL_length (s : Nat) : (textL s).length ≤ 192 := by
  have h := joinC_length ((bitsTo s 64).map digs) (by
    intro w hw
    obtain ⟨c, _, rfl⟩ := List.mem_map.1 hw
    exact digs_length c)
  have := bitsTo_le s 64
  simp at h
  unfold textL
  omega

set_option maxRecDepth 100000 in
set_option maxHeartbeats 1000000 in
theorem text_core (s : Nat) (ws : List ByteArray) (xs : List Int) (T : List UInt8) (hn : ws.length ≤ 64) (hw : WordsOf xs ws)
    (hT : Hid (Lib.join (ws.map (·.data.toList)) [44] = T)) (hTl : T.length ≤ 192)
    (hcount : Hid (∀ w, Calls Tryz.prog 70 #[.int .u64 s] w fun e w' => e = .returned (.int .i64 (ws.length : Nat)) ∧ w = w'))
    (hlist : Hid (∀ w, Calls Tryz.prog 71 #[.int .u64 s] w fun e w' => ∃ A cap, e = .returned (.slice A ws.length cap) ∧ IntsFrom w.heap.size w' A ws.length xs ∧ Below w.heap.size w w')) (w : World) :
    Calls Tryz.prog 50 #[.int .u64 s] w fun e w' => e = .returned (.string ⟨T.toArray⟩) ∧ Below w.heap.size w w' := by
  obtain ⟨i0, hi, hz0, hz1, hz2⟩ := info_parts str_info
  go_enter Tryz.func50, Tryz.ntmps50
  go_wp2_with (first
    | (go_at_call 70; refine (hcount.out _).mono ?_; rintro e w' ⟨rfl, rfl⟩)
    | (at_make; refine wpList_make_own _ rfl _ _ 58 rfl w.heap.size 9 i0 (.string ⟨#[]⟩) 1 Tryz.underlying58 hi hz0 hz1 .i64 .i64 _ ws.length rfl rfl rfl ?m1 ?m2 ?m3 ?_))
  case m1 => rw [hz2]; omega
  case m2 => unfold maxLen; omega
  case m3 => exact Nat.le_refl _
  intro w1 hown hg
  have hg2 := Lib.hid hg
  clear hg
  go_wp2_with fail
  refine (hlist.out _).mono ?_
  rintro e w2 ⟨A, cap, rfl, hints, hb⟩
  have h0 := Wl.start hown hg2.out hints hb
  clear hown hg2 hints hb
  go_wp2
  go_loopw [3, 12] (fun v i wr => ∃ k : Nat, k ≤ ws.length ∧ i = .int .i64 k ∧ v = .slice (some ⟨w.heap.size, 0, none⟩) k ws.length ∧ Wl w wr A ws xs k) (fun _ i _ => ws.length - (intOf i).toNat)
  case atStart => exact ⟨0, Nat.zero_le _, rfl, rfl, h0⟩
  case round =>
    clear h0
    obtain ⟨k, hk, rfl, rfl, hr⟩ := hrel
    by_cases hlt : k < ws.length
    · obtain ⟨b, off, rfl, hc⟩ := hr.2.1.1.at_ hlt
      obtain ⟨c, hxc, hc64, hwc⟩ := hw.2 k hlt
      rw [hxc] at hc
      have HW := Lib.hid hwc
      clear hxc hwc
      have hlk := hr.size
      go_wp2_with (first
        | (go_at_call 27; refine (itoa_c c (by omega) _).mono ?_; rintro e w' ⟨rfl, rfl⟩)
        | (at_builtin; refine wpList_append_fits _ rfl _ _ 58 rfl w.heap.size 9 i0 1 Tryz.underlying58 hi hz1 w.heap.size k ws.length _ rfl (hr.1.alloc _) ⟨_, 0, none⟩ 1 1 [.string ⟨(digs c).toArray⟩] rfl rfl ?c1 ?c2 ?c3 ?_))
      case c1 => exact cell_one_new _ _ _
      case c2 => intro u hu; simp at hu; subst hu; rfl
      case c3 => omega
      intro w3 hown' hgrow
      have h3 := hr.next hlt (by rw [HW.out]; exact hown') hgrow
      clear hown' hgrow
      go_wp2
      go_roundw
      case rel => exact ⟨k + 1, by omega, by go_num, rfl, h3⟩
      case measure => simp [intOf]; omega
    · obtain rfl : k = ws.length := by omega
      have hcells := Lib.hid hr.cells
      have hsz := hr.size
      have hbl := hr.2.2
      go_wp2_with fail
      refine (Tryz.strings_Join w.heap.size 0 ws.length ws ⟨#[44]⟩ _ hcells.out hsz (by omega) (Nat.le_refl _) ?_).mono ?_
      · show (Lib.join (ws.map (·.data.toList)) [44]).length ≤ _
        rw [hT.out]; omega
      · rintro e w' ⟨rfl, hb⟩
        go_wp2
        go_ret
        refine ⟨?_, hbl.trans (hb.mono (by omega))⟩
        show Ending.returned (.string ⟨(Lib.join (ws.map (·.data.toList)) [44]).toArray⟩) = _
        rw [hT.out]
theorem text_c (s : Nat) (hs : U s) (w : World) :
    Calls Tryz.prog 50 #[.int .u64 s] w fun e w' => e = .returned (.string ⟨(textL s).toArray⟩) ∧ Below w.heap.size w w' := by
  have hl : ((bitsTo s 64).map fun c => (⟨(digs c).toArray⟩ : ByteArray)).length = (bitsTo s 64).length := by simp
  refine text_core s ((bitsTo s 64).map fun c => (⟨(digs c).toArray⟩ : ByteArray)) (intsOf (bitsTo s 64)) (textL s) (by rw [hl]; exact bitsTo_le s 64) (wordsOf_bits s) ?_ (textL_length s) ?_ ?_ w
  · refine Lib.hid ?_
    unfold textL joinC
    rw [List.map_map]
    rfl
  · refine Lib.hid fun w => ?_
    rw [hl]
    exact count_c s hs w
  · refine Lib.hid fun w => (list_c s hs w).mono fun e w' ⟨v, he, hr⟩ => ?_
    obtain ⟨A, cap, hv, hi⟩ := hr.from (Nat.le_refl _)
    rw [hl]
    exact ⟨A, cap, by rw [he, hv], hi, hr.2⟩
end Go.Proofs.YtmlmanlcomfhbaaGreatDoor.Cats
