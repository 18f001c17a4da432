/- What the reference's Digits, Text and Parse answer: for every category, every set and every text of at most 300 bytes.
   The reference's way to read a set's text, digit by digit, gives what the other way gives: for every text. No program is named here. -/
import Derived.Test.YtcgpggknmhlnkaaGreatDoorPt14
import Derived.Test.YtcgpggknmhlnkaaGreatDoorPt11
namespace Go.Proofs.YtcgpggknmhlnkaaGreatDoor.Cats
open Go.RowKit
/-- a slice of one byte, as a string -/
theorem conv_one (w : World) (g : Nat) (hg : g = w.heap.size) (x : Int) :
    (convert 85 9 (.slice (some ⟨g, 0, none⟩) 1 1)).run Tryz.prog (w.alloc (.cells #[.int .u8 x] 5)) = .ok (.string ⟨#[UInt8.ofNat x.toNat]⟩) (w.alloc (.cells #[.int .u8 x] 5)) := by
  subst hg
  rw [run_convert_bytes_string _ _ _ _ _ _ _ Tryz.underlying85 Tryz.underlying5 Tryz.underlying9]
  refine (run_bytesToString _ _ 1 1 [x] ?_).trans ?_
  · have hc : (w.alloc (.cells #[.int .u8 x] 5)).cell? ⟨w.heap.size, 0, none⟩ = some (.int .u8 x) := by
      rw [World.cell?_alloc_at _ _ _ _ rfl]; rfl
    simp [loadCells, loadCellsFrom, hc, Addr.add]
  · rfl
theorem ret_str {a b : List UInt8} (h : a = b) : Ending.returned (.string ⟨a.toArray⟩) = .returned (.string ⟨b.toArray⟩) := by rw [h]
set_option maxRecDepth 100000 in
set_option maxHeartbeats 1000000 in
theorem digits_lo (c : Nat) (hc : c < 10) (w : World) : Calls Tryz.prog 57 #[.int .i64 c] w fun e w' => e = .returned (.string ⟨(digs c).toArray⟩) ∧ Below w.heap.size w w' := by
  have h1 := conv_one w w.heap.size rfl (48 + (c : Int) % 10)
  go_enter Tryz.func57, Tryz.ntmps57
  go_wp2
  refine wp_loop_rounds 1 ?_
  rw [rounds_succ]
  go_wp2
  go_ret
  refine ⟨ret_str ?_, (Below.refl _ _).alloc (Nat.le_refl _) _⟩
  unfold digs
  rw [if_pos hc, Nat.mod_eq_of_lt hc]
theorem digs_hi : ∀ c, c < 64 → 10 ≤ c → [48 + UInt8.ofNat (c / 10 % 10)] ++ [48 + UInt8.ofNat (c % 10)] = digs c := by decide +kernel
set_option maxRecDepth 100000 in
set_option maxHeartbeats 1000000 in
theorem digits_hi (c : Nat) (h10 : 10 ≤ c) (hc : c < 64) (w : World) : Calls Tryz.prog 57 #[.int .i64 c] w fun e w' => e = .returned (.string ⟨(digs c).toArray⟩) ∧ Below w.heap.size w w' := by
  have h1 := conv_one w w.heap.size rfl (48 + (c : Int) % 10)
  have h2 := conv_one (w.alloc (.cells #[.int .u8 (48 + (c : Int) % 10)] 5)) (w.heap.size + 1) (by simp) (48 + (c : Int) / 10 % 10)
  go_enter Tryz.func57, Tryz.ntmps57
  go_wp2
  refine wp_loop_rounds 2 ?_
  rw [rounds_succ]
  go_wp2
  rw [rounds_succ]
  go_wp2
  go_ret
  refine ⟨ret_str ?_, ((Below.refl _ _).alloc (Nat.le_refl _) _).alloc (by simp) _⟩
  exact digs_hi c hc h10
theorem digits_c (c : Nat) (hc : c < 64) (w : World) : Calls Tryz.prog 57 #[.int .i64 c] w fun e w' => e = .returned (.string ⟨(digs c).toArray⟩) ∧ Below w.heap.size w w' := by
  by_cases h : c < 10
  · exact digits_lo c h w
  · exact digits_hi c (by omega) hc w

theorem joinC_snoc (ws : List (List UInt8)) (w : List UInt8) (h : ws ≠ []) : joinC (ws ++ [w]) = joinC ws ++ 44 :: w := by
  induction ws with
  | nil => exact absurd rfl h
  | cons x r ih =>
    cases r with
    | nil => rw [List.cons_append, List.nil_append, joinC_cons, joinC_one, joinC_one]
    | cons y ys =>
      rw [List.cons_append, List.cons_append, joinC_cons, joinC_cons, ← List.cons_append, ih (by simp)]
      simp
/-- the text of the first k words -/
def PartIs (ws : List (List UInt8)) (k : Nat) (T : ByteArray) : Prop := T.data.toList = joinC (ws.take k) ∧ T.size ≤ 3 * k
theorem PartIs.first {ws : List (List UInt8)} {T T2 : ByteArray} {w : List UInt8} (h : PartIs ws 0 T) (hw : ws[0]? = some w) (hl : w.length ≤ 2) (h2 : T2.data.toList = T.data.toList ++ w) : PartIs ws 1 T2 := by
  obtain ⟨hk, rfl⟩ := List.getElem?_eq_some_iff.1 hw
  have e : T2.data.toList = ws[0] := by rw [h2, h.1, List.take_zero, joinC_nil, List.nil_append]
  refine ⟨?_, ?_⟩
  · rw [e, List.take_succ_eq_append_getElem hk, List.take_zero, List.nil_append, joinC_one]
  · rw [Lib.size_eq, e]; omega
theorem PartIs.first' {ws : List (List UInt8)} {T T2 : ByteArray} {k : Nat} {w : List UInt8} (h : PartIs ws k T) (hk : ¬ 0 < k) (hw : ws[k]? = some w) (hl : w.length ≤ 2) (h2 : T2.data.toList = T.data.toList ++ w) : PartIs ws (k + 1) T2 := by
  obtain rfl : k = 0 := by omega
  exact h.first hw hl h2
theorem PartIs.next {ws : List (List UInt8)} {T T2 : ByteArray} {k : Nat} {w : List UInt8} (h : PartIs ws k T) (hk0 : 0 < k) (hw : ws[k]? = some w) (hl : w.length ≤ 2) (h2 : T2.data.toList = (T.data.toList ++ [44]) ++ w) : PartIs ws (k + 1) T2 := by
  obtain ⟨hk, rfl⟩ := List.getElem?_eq_some_iff.1 hw
  have hs := h.2
  rw [Lib.size_eq] at hs
  refine ⟨?_, ?_⟩
  · rw [h2, h.1, List.take_succ_eq_append_getElem hk, joinC_snoc _ _ (by
      intro e
      have := congrArg List.length e
      simp only [List.length_take, List.length_nil] at this
      omega)]
    simp
  · rw [Lib.size_eq, h2]
    simp only [List.length_append, List.length_cons, List.length_nil]
    omega
theorem words_at (s : Nat) {k : Nat} (hk : k < (bitsTo s 64).length) : ∃ c : Nat, (intsOf (bitsTo s 64)).getD k 0 = (c : Int) ∧ c < 64 ∧ ((bitsTo s 64).map digs)[k]? = some (digs c) :=
  ⟨(bitsTo s 64)[k], by simp [intsOf, hk], ((rising_bits s).mem _ (List.getElem_mem hk)).2, by simp [hk]⟩

set_option maxRecDepth 100000 in
set_option maxHeartbeats 1000000 in
theorem rtext_core (s n : Nat) (xs : List Int) (ws : List (List UInt8)) (hn : n ≤ 64) (hwl : ws.length = n) (hat : Hid (∀ k, k < n → ∃ c : Nat, xs.getD k 0 = (c : Int) ∧ c < 64 ∧ ws[k]? = some (digs c)))
    (hrlist : Hid (∀ w, Calls Tryz.prog 79 #[.int .u64 s] w fun e w' => ∃ A cap, e = .returned (.slice A n cap) ∧ Ints w' A n xs ∧ Below w.heap.size w w')) (w : World) :
    Calls Tryz.prog 70 #[.int .u64 s] w fun e w' => e = .returned (.string ⟨(joinC ws).toArray⟩) ∧ Below w.heap.size w w' := by
  have HWL := Lib.hid hwl
  clear hwl
  go_enter Tryz.func70, Tryz.ntmps70
  go_wp2_with fail
  refine (hrlist.out _).mono ?_
  rintro e w1 ⟨A, cap, rfl, hx, hb⟩
  have h0 : PartIs ws 0 ⟨#[]⟩ := ⟨rfl, Nat.le_refl _⟩
  go_wp2
  go_loopw [3, 5] (fun o i wr => ∃ (k : Nat) (T : ByteArray), k ≤ n ∧ i = .int .i64 k ∧ o = .string T ∧ PartIs ws k T ∧ Ints wr A n xs ∧ Below w.heap.size w wr) (fun _ i _ => n - (intOf i).toNat)
  case atStart => exact ⟨0, _, Nat.zero_le _, rfl, rfl, h0, hx, hb⟩
  case round =>
    clear h0 hx hb
    obtain ⟨k, T, hk, rfl, rfl, hp, hx, hb⟩ := hrel
    by_cases hlt : k < n
    · obtain ⟨bk, off, rfl, hc⟩ := hx.at_ hlt
      obtain ⟨c, hxc, hc64, hwc⟩ := hat.out k hlt
      rw [hxc] at hc
      have HW := Lib.hid hwc
      clear hxc hwc
      have hsz := hp.2
      have hdl := digs_length c
      by_cases hk0 : 0 < k
      · go_wp2_with fail
        refine (digits_c c hc64 _).mono ?_
        rintro e w2 ⟨rfl, hb2⟩
        have hx2 := hx.keep hb2
        have hb3 := hb.trans (hb2.mono hb.size)
        clear hb2 hx hb hc
        go_wp2
        go_roundw
        case rel => exact ⟨k + 1, _, by omega, by go_num, rfl, hp.next hk0 HW.out (digs_length c) (by simp), hx2, hb3⟩
        case measure => simp [intOf]; omega
      · go_wp2_with fail
        refine (digits_c c hc64 _).mono ?_
        rintro e w2 ⟨rfl, hb2⟩
        have hx2 := hx.keep hb2
        have hb3 := hb.trans (hb2.mono hb.size)
        clear hb2 hx hb hc
        go_wp2
        go_roundw
        case rel => exact ⟨k + 1, _, by omega, by go_num, rfl, hp.first' hk0 HW.out (digs_length c) (by simp), hx2, hb3⟩
        case measure => simp [intOf]; omega
    · obtain rfl : k = n := by omega
      have hT := hp.1
      rw [List.take_of_length_le (by rw [HWL.out]; exact Nat.le_refl _)] at hT
      have HT := Lib.hid hT
      clear hT
      go_wp2
      go_ret
      exact ⟨by rw [← HT.out, Lib.mk_data]; rfl, hb⟩
theorem rtext_c (s : Nat) (hs : U s) (w : World) : Calls Tryz.prog 70 #[.int .u64 s] w fun e w' => e = .returned (.string ⟨(textL s).toArray⟩) ∧ Below w.heap.size w w' := by
  refine rtext_core s (bitsTo s 64).length (intsOf (bitsTo s 64)) ((bitsTo s 64).map digs) (bitsTo_le s 64) (by simp) (Lib.hid fun k hk => words_at s hk) (Lib.hid fun w => ?_) w
  refine (rlist_c s hs w).mono fun e w' ⟨v, he, hr⟩ => ?_
  obtain ⟨A, cap, hv, hi⟩ := hr.ints (Nat.le_refl _)
  exact ⟨A, cap, by rw [he, hv], hi, hr.2⟩
end Go.Proofs.YtcgpggknmhlnkaaGreatDoor.Cats
namespace Go.Proofs.YtcgpggknmhlnkaaGreatDoor.Cats
/-- one step: a digit goes on with the number; all else ends it -/
def scanStep (st : Nat × Int) : Option UInt8 → Nat × Int
  | some b => if 48 ≤ b.toNat ∧ b.toNat ≤ 57 ∧ st.2 < 100 then (st.1, max st.2 0 * 10 + (b.toNat : Int) - 48) else (if 0 ≤ st.2 ∧ st.2 < 64 then st.1 ||| 2 ^ st.2.toNat else st.1, -1)
  | none => (if 0 ≤ st.2 ∧ st.2 < 64 then st.1 ||| 2 ^ st.2.toNat else st.1, -1)
def seqOf (t : List UInt8) : List (Option UInt8) := t.map some ++ [none]
def scan (t : List UInt8) : Nat := ((seqOf t).foldl scanStep (0, -1)).1
theorem step_digit (q : Nat) (m : Int) (b : UInt8) (h : 48 ≤ b.toNat ∧ b.toNat ≤ 57 ∧ m < 100) : scanStep (q, m) (some b) = (q, max m 0 * 10 + (b.toNat : Int) - 48) := by
  simp only [scanStep]
  rw [if_pos h]
theorem step_end (q : Nat) (m : Int) (b : UInt8) (h : ¬ (48 ≤ b.toNat ∧ b.toNat ≤ 57 ∧ m < 100)) : scanStep (q, m) (some b) = scanStep (q, m) none := by
  simp only [scanStep]
  rw [if_neg h]
theorem step_flush (q : Nat) (m : Int) (h0 : 0 ≤ m) (h1 : m < 64) : scanStep (q, m) none = (q ||| 2 ^ m.toNat, -1) := by
  simp only [scanStep]
  rw [if_pos ⟨h0, h1⟩]
theorem step_skip (q : Nat) (m : Int) (h : m < 0 ∨ 64 ≤ m) : scanStep (q, m) none = (q, -1) := by
  simp only [scanStep]
  rw [if_neg (by omega)]
theorem scan_word (q c : Nat) (hc : c < 64) : ((digs c).map some).foldl scanStep (q, -1) = (q, (c : Int)) := by
  unfold digs
  split
  · rename_i h
    have e : (UInt8.ofNat (48 + c)).toNat = 48 + c := by rw [UInt8.toNat_ofNat']; omega
    simp only [List.map_cons, List.map_nil, List.foldl_cons, List.foldl_nil]
    rw [step_digit _ _ _ (by rw [e]; omega), e]
    simp only [Prod.mk.injEq, true_and]
    omega
  · rename_i h
    have e1 : (UInt8.ofNat (48 + c / 10)).toNat = 48 + c / 10 := by rw [UInt8.toNat_ofNat']; omega
    have e2 : (UInt8.ofNat (48 + c % 10)).toNat = 48 + c % 10 := by rw [UInt8.toNat_ofNat']; omega
    simp only [List.map_cons, List.map_nil, List.foldl_cons, List.foldl_nil]
    rw [step_digit q (-1) _ (by rw [e1]; omega), step_digit _ _ _ (by rw [e1, e2]; omega), e1, e2]
    simp only [Prod.mk.injEq, true_and]
    omega
theorem scan_join (cs : List Nat) (q : Nat) (h : ∀ c ∈ cs, c < 64) (hne : cs ≠ []) : (seqOf (joinC (cs.map digs))).foldl scanStep (q, -1) = (orAll q cs, -1) := by
  induction cs generalizing q with
  | nil => exact absurd rfl hne
  | cons c r ih =>
    have hc := h c (by simp)
    cases r with
    | nil =>
      rw [List.map_cons, List.map_nil, joinC_one, seqOf, List.foldl_append, scan_word q c hc, List.foldl_cons, List.foldl_nil, step_flush _ _ (by omega) (by omega)]
      rfl
    | cons d r =>
      have e : seqOf (digs c ++ 44 :: joinC (digs d :: r.map digs)) = (digs c).map some ++ (some 44 :: seqOf (joinC (digs d :: r.map digs))) := by simp [seqOf]
      rw [List.map_cons, List.map_cons, joinC_cons, e, List.foldl_append, scan_word q c hc, List.foldl_cons, step_end _ _ _ (fun h => absurd h.1 (by decide)), step_flush _ _ (by omega) (by omega)]
      have := ih (q ||| 2 ^ c) (fun x hx => h x (by simp [hx])) (by simp)
      rw [List.map_cons] at this
      exact this
theorem scan_text {s : Nat} (hs : U s) : scan (textL s) = s := by
  unfold scan textL
  by_cases hb : bitsTo s 64 = []
  · have h0 := orAll_bits hs
    rw [hb] at h0 ⊢
    rw [← h0]
    rfl
  · rw [scan_join _ _ (fun c hc => ((rising_bits s).mem c hc).2) hb]
    exact orAll_bits hs
/-- both ways to read give the same -/
theorem scan_parse {t : List UInt8} (hu : U (scan t)) : parseF t = if textL (scan t) = t then (scan t, true) else (0, false) := by
  by_cases h : textL (scan t) = t
  · rw [if_pos h]
    exact parse_iff hu h
  · rw [if_neg h]
    cases hp : parseF t with
    | mk S b =>
      cases b
      · rw [parse_no hp]
      · obtain ⟨h1, h2⟩ := text_parse hp
        exfalso
        apply h
        have : scan t = S := by rw [← h1]; exact scan_text h2
        rw [this, h1]

/-- how far the scan has come -/
def ScanAt (t : List UInt8) (k q : Nat) (m : Int) : Prop := ((seqOf t).take k).foldl scanStep (0, -1) = (q, m) ∧ U q ∧ -1 ≤ m ∧ m ≤ 1009
theorem ScanAt.zero (t : List UInt8) : ScanAt t 0 0 (-1) := ⟨rfl, U_zero, by omega, by omega⟩
theorem ScanAt.done {t : List UInt8} {q : Nat} {m : Int} (h : ScanAt t (t.length + 1) q m) : scan t = q ∧ U q := by
  refine ⟨?_, h.2.1⟩
  have e : (seqOf t).take (t.length + 1) = seqOf t := List.take_of_length_le (by simp [seqOf])
  unfold scan
  rw [← e, h.1]
theorem ScanAt.step {t : List UInt8} {k q q' : Nat} {m m' : Int} {o : Option UInt8} (h : ScanAt t k q m) (ho : (seqOf t)[k]? = some o) (hs : scanStep (q, m) o = (q', m')) (hu : U q') (h1 : -1 ≤ m') (h2 : m' ≤ 1009) : ScanAt t (k + 1) q' m' := by
  obtain ⟨hk, rfl⟩ := List.getElem?_eq_some_iff.1 ho
  refine ⟨?_, hu, h1, h2⟩
  rw [List.take_succ_eq_append_getElem hk, List.foldl_append, h.1]
  exact hs
theorem seq_at {t : List UInt8} {k : Nat} (hk : k < t.length) : (seqOf t)[k]? = some (some t[k]) := by
  rw [seqOf, List.getElem?_append_left (by simpa using hk)]
  simp [hk]
theorem seq_end (t : List UInt8) : (seqOf t)[t.length]? = some none := by
  rw [seqOf, List.getElem?_append_right (by simp)]
  simp
theorem ScanAt.digit {t : List UInt8} {k q : Nat} {m : Int} (h : ScanAt t k q m) (hk : k < t.length) (h1 : 48 ≤ t[k].toNat) (h2 : t[k].toNat ≤ 57) (h3 : m < 100) : ScanAt t (k + 1) q (max m 0 * 10 + (t[k].toNat : Int) - 48) := by
  have := h.2.2.1
  exact h.step (seq_at hk) (step_digit q m _ ⟨h1, h2, h3⟩) h.2.1 (by omega) (by omega)
theorem ScanAt.over {t : List UInt8} {k q q' : Nat} {m m' : Int} (h : ScanAt t k q m) (hk : k ≤ t.length) (hn : ∀ hk : k < t.length, ¬ (48 ≤ t[k].toNat ∧ t[k].toNat ≤ 57 ∧ m < 100)) (hs : scanStep (q, m) none = (q', m')) (hu : U q') (h1 : -1 ≤ m') (h2 : m' ≤ 1009) : ScanAt t (k + 1) q' m' := by
  by_cases hlt : k < t.length
  · exact h.step (seq_at hlt) ((step_end q m _ (hn hlt)).trans hs) hu h1 h2
  · obtain rfl : k = t.length := by omega
    exact h.step (seq_end t) hs hu h1 h2
theorem ScanAt.skip {t : List UInt8} {k q : Nat} {m : Int} (h : ScanAt t k q m) (hk : k ≤ t.length) (hn : ∀ hk : k < t.length, ¬ (48 ≤ t[k].toNat ∧ t[k].toNat ≤ 57 ∧ m < 100)) (hm : m < 0 ∨ 64 ≤ m) : ScanAt t (k + 1) q (-1) :=
  h.over hk hn (step_skip q m hm) h.2.1 (by omega) (by omega)
theorem ScanAt.flush {t : List UInt8} {k q : Nat} {m : Int} (h : ScanAt t k q m) (hk : k ≤ t.length) (hn : ∀ hk : k < t.length, ¬ (48 ≤ t[k].toNat ∧ t[k].toNat ≤ 57 ∧ m < 100)) (h0 : 0 ≤ m) (h64 : m < 64) : ScanAt t (k + 1) (q ||| 2 ^ m.toNat) (-1) :=
  h.over hk hn (step_flush q m h0 h64) (U_or h.2.1 (U_pow (by omega))) (by omega) (by omega)
end Go.Proofs.YtcgpggknmhlnkaaGreatDoor.Cats
